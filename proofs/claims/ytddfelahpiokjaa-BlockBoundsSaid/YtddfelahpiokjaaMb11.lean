/- Kknown Irises, joined. -/
import Derived.Test.YtddfelahpiokjaaMb10
import Derived.Test.YtddfelahpiokjaaMb5
import Derived.Test.YtddfelahpiokjaaMb4

/- The chapter's rows, which every law of layer 8 asks. -/
namespace Go.Proofs.Ytddfelahpiokjaa
open Go.ChangeShapes Go.WideShapes Go.ChangeAt Go.RowKit Go.Lib Go.Joins

theorem make_bytes (w : World) (n : Nat) (hn : n ≤ 1099511627776) : ∃ w', (Instr.makeSlice 22 (.int .i64 (n : Int)) (.int .i64 (n : Int))).run Try.prog w = .ok (.slice (some ⟨w.heap.size, 0, none⟩) n n) w' ∧ Bs w' 0 w'.heap.size (.slice (some ⟨w.heap.size, 0, none⟩) n n) (List.replicate n 0) ∧ Ext w w' := by
  obtain ⟨i0, hi0, hz0, hz1, hz2⟩ := info_parts t5info
  obtain ⟨w', h1, h2, h3⟩ := run_make_full (P := Try.prog) w w.heap.size 22 5 i0 (.int .u8 0) 1 Try.underlying22 hi0 hz0 hz1 .i64 .i64 n (by rw [hz2]; omega) (by unfold maxLen; omega) (Nat.le_refl _)
  have e : (madeCells (Value.int .u8 0).cells (n * 1)).toList = bv (List.replicate n 0) := by
    rw [show (Value.int .u8 0).cells = #[.int .u8 0] from rfl, Nat.mul_one, toList_madeCells_one]
    simp [bv]
  rw [e] at h2
  have hl : (List.replicate n 0).length = n := List.length_replicate
  have hb : Bs w' 0 w'.heap.size (.slice (some ⟨w.heap.size, 0, none⟩) n n) (List.replicate n 0) := by
    have h4 : w'.ownsRow w.heap.size 5 1 (.slice (some ⟨w.heap.size, 0, none⟩) n n) (List.replicate n 0).length (bv (List.replicate n 0)) := by rw [hl]; exact h2
    exact (Bs.of_own h4).wide (Nat.zero_le _) (Nat.le_refl _)
  exact ⟨w', h1, hb, ⟨h3.os, h3.tape, h3.output, h3.size, fun k hk => h3.block k hk (by simp)⟩⟩
theorem ktx : ((tx kBy).toList == ([0, 2, 97, 98, 5, 2, 1, 1, 99, 3, 2, 0, 0, 0, 0, 0, 0, 0, 1] : List UInt8)) = true := by decide +kernel
set_option maxRecDepth 100000 in
set_option maxHeartbeats 8000000 in
theorem known_any (w : World) : Calls Try.prog 6 #[] w fun e w' => e = .returned (.bool true) ∧ Below w.heap.size w w' := by
  go_enter Try.func6, Try.ntmps6
  go_wp2_with fail
  refine Calls.mono (lit_any (e := kAB) (k := [97, 98]) rfl rfl (by decide) (by decide) (by decide) (by decide) w) ?_
  rintro e w1 ⟨hx1, g1, rfl, hm1⟩
  have HX1 := Lib.hid hx1
  have HM1 := Lib.hid hm1
  clear hx1 hm1
  go_wp2_with fail
  refine Calls.mono (lit_any (e := kAC) (k := [97, 99]) rfl rfl (by decide) (by decide) (by decide) (by decide) w1) ?_
  rintro e w2 ⟨hx2, g2, rfl, hm2⟩
  have HX2 : Hid (Ext w w2) := Ext.trans HX1.out hx2
  obtain ⟨w3, hw3⟩ : ∃ w3, w3 = w2.alloc (.cells #[.slice g1.kA kAB.key.length g1.kc, .int .i64 kAB.seq, .int .i64 kAB.kind, .slice g1.vA kAB.val.length g1.vc, .slice g2.kA kAC.key.length g2.kc, .int .i64 kAC.seq, .int .i64 kAC.kind, .slice g2.vA kAC.val.length g2.vc] 37) := ⟨_, rfl⟩
  have HX3 : Hid (Ext w w3) := by rw [hw3]; exact Ext.trans HX2.out (ext_alloc _ _)
  have HWR : Hid (Es w3 0 w3.heap.size (some ⟨w2.heap.size, 0, none⟩) [(kAB, g1), (kAC, g2)]) := by
    have hxa : Ext w2 w3 := by rw [hw3]; exact ext_alloc _ _
    refine two_es (by rw [hw3]; exact heap_at _ _ rfl) ?_ ?_
    · exact ((HM1.out.below (Ext.trans hx2 hxa) (Nat.le_refl _)).wide (Nat.zero_le _) (Ext.trans hx2 hxa).size)
    · exact ((hm2.below hxa (Nat.le_refl _)).wide (Nat.zero_le _) hxa.size)
  have HWC := Lib.hid (kwrite1 HWR.out)
  rw [hw3] at HWC
  clear hx2 hm2 HM1 HWR
  unfold Ent.at_
  go_wp2_with fail
  refine HWC.out.mono ?_
  rw [← hw3]
  clear HWC hw3
  rintro x w4 ⟨hx4, BA, bc, rfl, hown⟩
  have HX4 : Hid (Ext w w4) := Ext.trans HX3.out hx4
  have HBO : Hid (Own w.heap.size kBy (.slice BA 19 bc) w4) := hown.base HX3.out.size
  clear hx4 hown HX1 HX2 HX3
  go_wp2_with fail
  refine (kwrite0 w4).mono ?_
  rintro x w5 ⟨hx5, rfl⟩
  have HX5 : Hid (Ext w w5) := Ext.trans HX4.out hx5
  have HXO5 : Hid (Ext w4 w5) := hx5
  clear hx5
  go_wp2_with fail
  refine Calls.mono (lit_any (e := kOB) (k := [98]) rfl rfl (by decide) (by decide) (by decide) (by decide) w5) ?_
  rintro e w6 ⟨hx1, g6, rfl, hm1⟩
  have HX6 := Lib.hid hx1
  have HM6 := Lib.hid hm1
  clear hx1 hm1
  go_wp2_with fail
  refine Calls.mono (lit_any (e := kOA) (k := [97]) rfl rfl (by decide) (by decide) (by decide) (by decide) w6) ?_
  rintro e w7 ⟨hx2, g7, rfl, hm2⟩
  have HX7 : Hid (Ext w5 w7) := Ext.trans HX6.out hx2
  obtain ⟨w8, hw8⟩ : ∃ w3, w3 = w7.alloc (.cells #[.slice g6.kA kOB.key.length g6.kc, .int .i64 kOB.seq, .int .i64 kOB.kind, .slice g6.vA kOB.val.length g6.vc, .slice g7.kA kOA.key.length g7.kc, .int .i64 kOA.seq, .int .i64 kOA.kind, .slice g7.vA kOA.val.length g7.vc] 37) := ⟨_, rfl⟩
  have HX8 : Hid (Ext w5 w8) := by rw [hw8]; exact Ext.trans HX7.out (ext_alloc _ _)
  have HWR : Hid (Es w8 0 w8.heap.size (some ⟨w7.heap.size, 0, none⟩) [(kOB, g6), (kOA, g7)]) := by
    have hxa : Ext w7 w8 := by rw [hw8]; exact ext_alloc _ _
    refine two_es (by rw [hw8]; exact heap_at _ _ rfl) ?_ ?_
    · exact ((HM6.out.below (Ext.trans hx2 hxa) (Nat.le_refl _)).wide (Nat.zero_le _) (Ext.trans hx2 hxa).size)
    · exact ((hm2.below hxa (Nat.le_refl _)).wide (Nat.zero_le _) hxa.size)
  have HWC := Lib.hid (kwrite2 HWR.out)
  rw [hw8] at HWC
  clear hx2 hm2 HM6 HWR
  unfold Ent.at_
  go_wp2_with fail
  refine HWC.out.mono ?_
  rw [← hw8]
  clear HWC hw8
  rintro x w9 ⟨hx9, rfl⟩
  have HXO9 : Hid (Ext w4 w9) := Ext.trans HXO5.out (Ext.trans HX8.out hx9)
  have HX9 : Hid (Ext w w9) := Ext.trans HX4.out HXO9.out
  clear hx9 HX6 HX7 HX8
  go_wp2_with fail
  refine (kread_no (Bs.nil w9 0 0) (Nat.zero_le _) (by simp) (by simp) kno0).mono ?_
  rintro x w10 ⟨hx10, rfl⟩
  have HXO10 : Hid (Ext w4 w10) := Ext.trans HXO9.out hx10
  have HX10 : Hid (Ext w w10) := Ext.trans HX4.out HXO10.out
  clear hx10
  obtain ⟨w11, hmk, MK⟩ := make_bytes w10 4 (by decide)
  have hmk' : (Instr.makeSlice 22 (.int .i64 4) (.int .i64 4)).run Try.prog w10 = .ok (.slice (some ⟨w10.heap.size, 0, none⟩) 4 4) w11 := hmk
  clear hmk
  have HXO11 : Hid (Ext w4 w11) := Ext.trans HXO10.out MK.2
  have HR4 := Lib.hid (kread_no (w := w11) (b := [0, 0, 0, 0]) MK.1 (Nat.le_refl _) (by decide) (by simp) kno4)
  clear MK
  go_wp2_with fail
  refine HR4.out.mono ?_
  clear HR4 hmk'
  rintro x w12 ⟨hx12, rfl⟩
  have HXO12 : Hid (Ext w4 w12) := Ext.trans HXO11.out hx12
  have HX12 : Hid (Ext w w12) := Ext.trans HX4.out HXO12.out
  clear hx12
  have cv1 : (convert 22 22 (.slice (some ⟨w12.heap.size, 0, none⟩) 2 2)).run Try.prog (w12.alloc (.cells #[.int .u8 97, .int .u8 99] 5)) = .ok (.slice (some ⟨w12.heap.size, 0, none⟩) 2 2) (w12.alloc (.cells #[.int .u8 97, .int .u8 99] 5 (2, 3))) := run_convert_bytes_const_at _ _ _ _ _ _ _ (rfl) Try.underlying22 Try.underlying5
  have hx8 : Ext w w12 := HX12.out
  have hx9 := ext_alloc w12 (.cells #[.int .u8 97, .int .u8 99] 5 (2, 3))
  have HG := Lib.hid (bget_any (s := 9) ((HBO.out.below (Ext.trans HXO12.out hx9)).bs) (Nat.le_refl _) (by decide) (by decide) (bs_mark w12 [97, 99] (by simp) (2, 3)) (by simp) (by decide) (by decide) (by decide))
  clear hx8 hx9
  go_wp2_with fail
  refine Calls.mono HG.out ?_
  intro x w13 hgt
  obtain ⟨hx13, gd, rfl, hmd⟩ := kget1 hgt
  have HXO13 : Hid (Ext w4 w13) := Ext.trans HXO12.out (Ext.trans (ext_alloc _ _) hx13)
  have HMD0 := Lib.hid hmd
  clear hgt hx13 hmd cv1 HG
  unfold Ent.at_
  go_upto_region 7 with (fail)
  obtain ⟨w14, hw14⟩ : ∃ w14, w14 = w13.alloc (.cells #[.slice gd.kA kAC.key.length gd.kc, .int .i64 kAC.seq, .int .i64 kAC.kind, .slice gd.vA kAC.val.length gd.vc] 37) := ⟨_, rfl⟩
  rw [← hw14]
  have HXO14 : Hid (Ext w4 w14) := by rw [hw14]; exact Ext.trans HXO13.out (ext_alloc _ _)
  have HX14 : Hid (Ext w w14) := Ext.trans HX4.out HXO14.out
  have HD14 : Hid (w14.heap[w13.heap.size]? = some (.cells #[.slice gd.kA kAC.key.length gd.kc, .int .i64 kAC.seq, .int .i64 kAC.kind, .slice gd.vA kAC.val.length gd.vc] 37 (0, 0))) := by rw [hw14]; exact heap_at _ _ rfl
  have HM14 : Hid (Em w14 0 w14.heap.size kAC gd) := by have hxa : Ext w13 w14 := (by rw [hw14]; exact ext_alloc _ _); exact (HMD0.out.below hxa (Nat.le_refl _)).wide (Nat.le_refl _) hxa.size
  obtain ⟨db, hdb⟩ : ∃ db, db = w13.heap.size := ⟨_, rfl⟩
  rw [← hdb] at HD14 ⊢
  clear hw14 hdb HMD0
  have cv1 : (convert 22 22 (.slice (some ⟨w14.heap.size, 0, none⟩) 2 2)).run Try.prog (w14.alloc (.cells #[.int .u8 97, .int .u8 99] 5)) = .ok (.slice (some ⟨w14.heap.size, 0, none⟩) 2 2) (w14.alloc (.cells #[.int .u8 97, .int .u8 99] 5 (2, 3))) := run_convert_bytes_const_at _ _ _ _ _ _ _ (rfl) Try.underlying22 Try.underlying5
  have hx8 : Ext w w14 := HX14.out
  have hx9 := ext_alloc w14 (.cells #[.int .u8 97, .int .u8 99] 5 (2, 3))
  have HG := Lib.hid (bget_any (s := 2) ((HBO.out.below (Ext.trans HXO14.out hx9)).bs) (Nat.le_refl _) (by decide) (by decide) (bs_mark w14 [97, 99] (by simp) (2, 3)) (by simp) (by decide) (by decide) (by decide))
  clear hx8 hx9
  go_wp2_with fail
  refine Calls.mono HG.out ?_
  intro x w15 hgt
  obtain ⟨hx15, rfl⟩ := kget2 hgt
  have HX145 : Hid (Ext w14 w15) := Ext.trans (ext_alloc _ _) hx15
  clear hgt hx15 cv1 HG
  unfold noE
  go_upto_region 8 with (fail)
  obtain ⟨wz, hwz⟩ : ∃ wz, wz = w15.alloc (.cells #[.slice none 0 0, .int .i64 0, .int .i64 0, .slice none 0 0] 37) := ⟨_, rfl⟩
  rw [← hwz]
  have HX14Z : Hid (Ext w14 wz) := by rw [hwz]; exact Ext.trans HX145.out (ext_alloc _ _)
  have HBW : Hid (Ext w wz) := Ext.trans HX14.out HX14Z.out
  have HBB : Hid (Bs wz w.heap.size wz.heap.size (.slice BA 19 bc) kBy) := Bs.of_own (HBO.out.below (Ext.trans HXO14.out HX14Z.out))
  have HMD : Hid (Em wz 0 wz.heap.size kAC gd) := (HM14.out.below HX14Z.out (Nat.le_refl _)).wide (Nat.le_refl _) HX14Z.out.size
  have hdz := ext_heap HX14Z.out HD14.out
  have d0 := cell_of (v := .slice gd.kA kAC.key.length gd.kc) hdz (k := 0) rfl
  have d1 := cell_of (v := .int .i64 kAC.seq) hdz (k := 1) rfl
  have d2 := cell_of (v := .int .i64 kAC.kind) hdz (k := 2) rfl
  have d3 := cell_of (v := .slice gd.vA kAC.val.length gd.vc) hdz (k := 3) rfl
  clear hwz hdz
  refine Fr.flow (R := MarkR wz.heap.size) (by kernel_rfl) [Is (.slice BA 19 bc), Is (.string (tx kBy)), Is (.bool true), Is (.bool true), Is (.int .i64 0), Is (.int .i64 0), Is (.int .i64 0), Is (.int .i64 0), Is (.int .i64 0), Is (.bool true), Is (.bool true), Is (.bool true), Is (.int .i64 2), Is (.int .i64 2), Is (.bool true), Is (.bool true), Is (.bool true), Is (.int .i64 2), Is (.int .i64 2), Is (.bool true), Is (.bool true), Is (.bool true), Is (.int .i64 4), Is (.int .i64 4), Is (.bool true), Is (.bool true), Is (.bool true), Is (.int .i64 4), Is (.int .i64 4), Is (.bool true), Is (.bool true), Is (.bool true), Is (.agg #[.slice gd.kA kAC.key.length gd.kc, .int .i64 kAC.seq, .int .i64 kAC.kind, .slice gd.vA kAC.val.length gd.vc]), LitF kAC, Is (.bool true), Is (.bool true), Is (.bool true), Is (.int .i64 6), Is (.int .i64 6), Is (.bool true), Is (.bool true), Is (.bool true), Is (.slice BA 19 bc), BlF wz.heap.size [97, 98, 0], BlF wz.heap.size [97, 98, 0], FromF [kAC], LitF kAC, OneF kAC, Is (.bool true), Is (.bool true), Is (.bool true)] (by kernel_rfl) (by kernel_rfl) ?mono (fun f1 => ?obl) ?fin
  case mono =>
    simp only [List.forall_mem_cons, List.not_mem_nil, false_imp_iff, implies_true, and_true]
    exact ⟨.is _, .is _, .is _, .is _, .is _, .is _, .is _, .is _, .is _, .is _, .is _, .is _, .is _, .is _, .is _, .is _, .is _, .is _, .is _, .is _, .is _, .is _, .is _, .is _, .is _, .is _, .is _, .is _, .is _, .is _, .is _, .is _, .is _, .lit _ _, .is _, .is _, .is _, .is _, .is _, .is _, .is _, .is _, .is _, .bl _ _ _, .bl _ _ _, .from_ _ _, .lit _ _, .one _ _, .is _, .is _, .is _⟩
  case fin =>
    intro g1 u hu hg
    simp only [puts, Act.put, List.setIfInBounds_toArray, List.set_cons_zero, List.set_cons_succ]
    have eL : g1 50 = .bool true := hg 50 (by decide)
    rw [eL]
    have HU := Lib.hid hu
    clear hu hg eL d0 d1 d2 d3
    go_wp2
    go_ret
    exact ⟨rfl, Below.trans HBW.out (((Chg.drew wz).trans (mark_chg HU.out)).below (fun i hi => Nat.le_trans HBW.out.size hi) HBW.out.size)⟩
  case obl =>
    refine ⟨fun u hu hd => ?_, ?_⟩
    · go_simp
      exact ⟨(MarkR wz.heap.size).refl _, rfl⟩
    refine ⟨fun u hu hd => ?_, ?_⟩
    · simp only [Act.put, List.setIfInBounds_toArray, List.set_cons_zero, List.set_cons_succ]
      have e0 : f1 0 = .slice BA 19 bc := hd 0 (by kernel_rfl)
      have hcv := cv_any (l := kBy) (mark_bs hu (show Bs wz.drew w.heap.size wz.heap.size (.slice BA 19 bc) kBy from HBB.out.below (Ext.drew wz) (Nat.le_refl _)))
      dsimp only [kBy, List.length_cons, List.length_nil] at hcv
      go_simp
      exact ⟨(MarkR wz.heap.size).refl _, rfl⟩
    refine ⟨fun u hu hd => ?_, ?_⟩
    · simp only [Act.put, List.setIfInBounds_toArray, List.set_cons_zero, List.set_cons_succ]
      have e1 : f1 1 = .string (tx kBy) := hd 1 (by kernel_rfl)
      have htx := ktx
      go_simp
      exact ⟨(MarkR wz.heap.size).refl _, rfl⟩
    refine ⟨fun u hu hd => ?_, ?_⟩
    · simp only [Act.put, List.setIfInBounds_toArray, List.set_cons_zero, List.set_cons_succ]
      have e2 : f1 2 = .bool true := hd 2 (by kernel_rfl)
      go_simp
      exact ⟨(MarkR wz.heap.size).refl _, rfl⟩
    refine ⟨fun u hu hd => ?_, ?_⟩
    · simp only [Act.put, List.setIfInBounds_toArray, List.set_cons_zero, List.set_cons_succ]
      have e3 : f1 3 = .bool true := hd 3 (by kernel_rfl)
      go_simp
      exact ⟨(MarkR wz.heap.size).refl _, rfl⟩
    refine ⟨fun u hu hd => ?_, ?_⟩
    · simp only [Act.put, List.setIfInBounds_toArray, List.set_cons_zero, List.set_cons_succ]
      have e3 : f1 3 = .bool true := hd 3 (by kernel_rfl)
      have e4 : f1 4 = .int .i64 0 := hd 4 (by kernel_rfl)
      go_simp
      refine (knum _ _).mono ?_
      rintro x9 w9 ⟨rfl, rfl⟩
      exact ⟨_, rfl, (MarkR wz.heap.size).refl _, rfl⟩
    refine ⟨fun u hu hd => ?_, ?_⟩
    · simp only [Act.put, List.setIfInBounds_toArray, List.set_cons_zero, List.set_cons_succ]
      have e3 : f1 3 = .bool true := hd 3 (by kernel_rfl)
      go_simp
      exact ⟨(MarkR wz.heap.size).refl _, rfl⟩
    refine ⟨fun u hu hd => ?_, ?_⟩
    · simp only [Act.put, List.setIfInBounds_toArray, List.set_cons_zero, List.set_cons_succ]
      have e3 : f1 3 = .bool true := hd 3 (by kernel_rfl)
      have e6 : f1 6 = .int .i64 0 := hd 6 (by kernel_rfl)
      go_simp
      refine (knum _ _).mono ?_
      rintro x9 w9 ⟨rfl, rfl⟩
      exact ⟨_, rfl, (MarkR wz.heap.size).refl _, rfl⟩
    refine ⟨fun u hu hd => ?_, ?_⟩
    · simp only [Act.put, List.setIfInBounds_toArray, List.set_cons_zero, List.set_cons_succ]
      have e3 : f1 3 = .bool true := hd 3 (by kernel_rfl)
      have e5 : f1 5 = .int .i64 0 := hd 5 (by kernel_rfl)
      have e7 : f1 7 = .int .i64 0 := hd 7 (by kernel_rfl)
      go_simp
      exact ⟨(MarkR wz.heap.size).refl _, rfl⟩
    refine ⟨fun u hu hd => ?_, ?_⟩
    · simp only [Act.put, List.setIfInBounds_toArray, List.set_cons_zero, List.set_cons_succ]
      have e3 : f1 3 = .bool true := hd 3 (by kernel_rfl)
      have e8 : f1 8 = .int .i64 0 := hd 8 (by kernel_rfl)
      go_simp
      exact ⟨(MarkR wz.heap.size).refl _, rfl⟩
    refine ⟨fun u hu hd => ?_, ?_⟩
    · simp only [Act.put, List.setIfInBounds_toArray, List.set_cons_zero, List.set_cons_succ]
      have e3 : f1 3 = .bool true := hd 3 (by kernel_rfl)
      have e9 : f1 9 = .bool true := hd 9 (by kernel_rfl)
      go_simp
      exact ⟨(MarkR wz.heap.size).refl _, rfl⟩
    refine ⟨fun u hu hd => ?_, ?_⟩
    · simp only [Act.put, List.setIfInBounds_toArray, List.set_cons_zero, List.set_cons_succ]
      have e10 : f1 10 = .bool true := hd 10 (by kernel_rfl)
      go_simp
      exact ⟨(MarkR wz.heap.size).refl _, rfl⟩
    refine ⟨fun u hu hd => ?_, ?_⟩
    · simp only [Act.put, List.setIfInBounds_toArray, List.set_cons_zero, List.set_cons_succ]
      have e11 : f1 11 = .bool true := hd 11 (by kernel_rfl)
      go_simp
      exact ⟨(MarkR wz.heap.size).refl _, rfl⟩
    refine ⟨fun u hu hd => ?_, ?_⟩
    · simp only [Act.put, List.setIfInBounds_toArray, List.set_cons_zero, List.set_cons_succ]
      have e11 : f1 11 = .bool true := hd 11 (by kernel_rfl)
      have e12 : f1 12 = .int .i64 2 := hd 12 (by kernel_rfl)
      go_simp
      refine (knum _ _).mono ?_
      rintro x9 w9 ⟨rfl, rfl⟩
      exact ⟨_, rfl, (MarkR wz.heap.size).refl _, rfl⟩
    refine ⟨fun u hu hd => ?_, ?_⟩
    · simp only [Act.put, List.setIfInBounds_toArray, List.set_cons_zero, List.set_cons_succ]
      have e11 : f1 11 = .bool true := hd 11 (by kernel_rfl)
      have e13 : f1 13 = .int .i64 2 := hd 13 (by kernel_rfl)
      go_simp
      exact ⟨(MarkR wz.heap.size).refl _, rfl⟩
    refine ⟨fun u hu hd => ?_, ?_⟩
    · simp only [Act.put, List.setIfInBounds_toArray, List.set_cons_zero, List.set_cons_succ]
      have e11 : f1 11 = .bool true := hd 11 (by kernel_rfl)
      have e14 : f1 14 = .bool true := hd 14 (by kernel_rfl)
      go_simp
      exact ⟨(MarkR wz.heap.size).refl _, rfl⟩
    refine ⟨fun u hu hd => ?_, ?_⟩
    · simp only [Act.put, List.setIfInBounds_toArray, List.set_cons_zero, List.set_cons_succ]
      have e15 : f1 15 = .bool true := hd 15 (by kernel_rfl)
      go_simp
      exact ⟨(MarkR wz.heap.size).refl _, rfl⟩
    refine ⟨fun u hu hd => ?_, ?_⟩
    · simp only [Act.put, List.setIfInBounds_toArray, List.set_cons_zero, List.set_cons_succ]
      have e16 : f1 16 = .bool true := hd 16 (by kernel_rfl)
      go_simp
      exact ⟨(MarkR wz.heap.size).refl _, rfl⟩
    refine ⟨fun u hu hd => ?_, ?_⟩
    · simp only [Act.put, List.setIfInBounds_toArray, List.set_cons_zero, List.set_cons_succ]
      have e16 : f1 16 = .bool true := hd 16 (by kernel_rfl)
      have e17 : f1 17 = .int .i64 2 := hd 17 (by kernel_rfl)
      go_simp
      refine (knum _ _).mono ?_
      rintro x9 w9 ⟨rfl, rfl⟩
      exact ⟨_, rfl, (MarkR wz.heap.size).refl _, rfl⟩
    refine ⟨fun u hu hd => ?_, ?_⟩
    · simp only [Act.put, List.setIfInBounds_toArray, List.set_cons_zero, List.set_cons_succ]
      have e16 : f1 16 = .bool true := hd 16 (by kernel_rfl)
      have e18 : f1 18 = .int .i64 2 := hd 18 (by kernel_rfl)
      go_simp
      exact ⟨(MarkR wz.heap.size).refl _, rfl⟩
    refine ⟨fun u hu hd => ?_, ?_⟩
    · simp only [Act.put, List.setIfInBounds_toArray, List.set_cons_zero, List.set_cons_succ]
      have e16 : f1 16 = .bool true := hd 16 (by kernel_rfl)
      have e19 : f1 19 = .bool true := hd 19 (by kernel_rfl)
      go_simp
      exact ⟨(MarkR wz.heap.size).refl _, rfl⟩
    refine ⟨fun u hu hd => ?_, ?_⟩
    · simp only [Act.put, List.setIfInBounds_toArray, List.set_cons_zero, List.set_cons_succ]
      have e20 : f1 20 = .bool true := hd 20 (by kernel_rfl)
      go_simp
      exact ⟨(MarkR wz.heap.size).refl _, rfl⟩
    refine ⟨fun u hu hd => ?_, ?_⟩
    · simp only [Act.put, List.setIfInBounds_toArray, List.set_cons_zero, List.set_cons_succ]
      have e21 : f1 21 = .bool true := hd 21 (by kernel_rfl)
      go_simp
      exact ⟨(MarkR wz.heap.size).refl _, rfl⟩
    refine ⟨fun u hu hd => ?_, ?_⟩
    · simp only [Act.put, List.setIfInBounds_toArray, List.set_cons_zero, List.set_cons_succ]
      have e21 : f1 21 = .bool true := hd 21 (by kernel_rfl)
      have e22 : f1 22 = .int .i64 4 := hd 22 (by kernel_rfl)
      go_simp
      refine (knum _ _).mono ?_
      rintro x9 w9 ⟨rfl, rfl⟩
      exact ⟨_, rfl, (MarkR wz.heap.size).refl _, rfl⟩
    refine ⟨fun u hu hd => ?_, ?_⟩
    · simp only [Act.put, List.setIfInBounds_toArray, List.set_cons_zero, List.set_cons_succ]
      have e21 : f1 21 = .bool true := hd 21 (by kernel_rfl)
      have e23 : f1 23 = .int .i64 4 := hd 23 (by kernel_rfl)
      go_simp
      exact ⟨(MarkR wz.heap.size).refl _, rfl⟩
    refine ⟨fun u hu hd => ?_, ?_⟩
    · simp only [Act.put, List.setIfInBounds_toArray, List.set_cons_zero, List.set_cons_succ]
      have e21 : f1 21 = .bool true := hd 21 (by kernel_rfl)
      have e24 : f1 24 = .bool true := hd 24 (by kernel_rfl)
      go_simp
      exact ⟨(MarkR wz.heap.size).refl _, rfl⟩
    refine ⟨fun u hu hd => ?_, ?_⟩
    · simp only [Act.put, List.setIfInBounds_toArray, List.set_cons_zero, List.set_cons_succ]
      have e25 : f1 25 = .bool true := hd 25 (by kernel_rfl)
      go_simp
      exact ⟨(MarkR wz.heap.size).refl _, rfl⟩
    refine ⟨fun u hu hd => ?_, ?_⟩
    · simp only [Act.put, List.setIfInBounds_toArray, List.set_cons_zero, List.set_cons_succ]
      have e26 : f1 26 = .bool true := hd 26 (by kernel_rfl)
      go_simp
      exact ⟨(MarkR wz.heap.size).refl _, rfl⟩
    refine ⟨fun u hu hd => ?_, ?_⟩
    · simp only [Act.put, List.setIfInBounds_toArray, List.set_cons_zero, List.set_cons_succ]
      have e26 : f1 26 = .bool true := hd 26 (by kernel_rfl)
      have e27 : f1 27 = .int .i64 4 := hd 27 (by kernel_rfl)
      go_simp
      refine (knum _ _).mono ?_
      rintro x9 w9 ⟨rfl, rfl⟩
      exact ⟨_, rfl, (MarkR wz.heap.size).refl _, rfl⟩
    refine ⟨fun u hu hd => ?_, ?_⟩
    · simp only [Act.put, List.setIfInBounds_toArray, List.set_cons_zero, List.set_cons_succ]
      have e26 : f1 26 = .bool true := hd 26 (by kernel_rfl)
      have e28 : f1 28 = .int .i64 4 := hd 28 (by kernel_rfl)
      go_simp
      exact ⟨(MarkR wz.heap.size).refl _, rfl⟩
    refine ⟨fun u hu hd => ?_, ?_⟩
    · simp only [Act.put, List.setIfInBounds_toArray, List.set_cons_zero, List.set_cons_succ]
      have e26 : f1 26 = .bool true := hd 26 (by kernel_rfl)
      have e29 : f1 29 = .bool true := hd 29 (by kernel_rfl)
      go_simp
      exact ⟨(MarkR wz.heap.size).refl _, rfl⟩
    refine ⟨fun u hu hd => ?_, ?_⟩
    · simp only [Act.put, List.setIfInBounds_toArray, List.set_cons_zero, List.set_cons_succ]
      have e30 : f1 30 = .bool true := hd 30 (by kernel_rfl)
      go_simp
      exact ⟨(MarkR wz.heap.size).refl _, rfl⟩
    refine ⟨fun u hu hd => ?_, ?_⟩
    · simp only [Act.put, List.setIfInBounds_toArray, List.set_cons_zero, List.set_cons_succ]
      have e31 : f1 31 = .bool true := hd 31 (by kernel_rfl)
      have hu2 := hu
      have q0 := mark_cell hu2 d0
      have q1 := mark_cell hu2 d1
      have q2 := mark_cell hu2 d2
      have q3 := mark_cell hu2 d3
      go_simp
      exact ⟨(MarkR wz.heap.size).refl _, rfl⟩
    refine ⟨fun u hu hd => ?_, ?_⟩
    · simp only [Act.put, List.setIfInBounds_toArray, List.set_cons_zero, List.set_cons_succ]
      have e31 : f1 31 = .bool true := hd 31 (by kernel_rfl)
      go_simp
      refine (lit_any (e := kAC) (k := [97, 99]) rfl rfl (by decide) (by decide) (by decide) (by decide) _).mono ?_
      rintro x9 w9 ⟨hx9, g9, rfl, hm9⟩
      exact ⟨_, rfl, mark_ext hx9, g9, rfl, hm9.wide (Nat.zero_le _) (Nat.le_refl _)⟩
    refine ⟨fun u hu hd => ?_, ?_⟩
    · simp only [Act.put, List.setIfInBounds_toArray, List.set_cons_zero, List.set_cons_succ]
      have e31 : f1 31 = .bool true := hd 31 (by kernel_rfl)
      have e32 : f1 32 = .agg #[.slice gd.kA kAC.key.length gd.kc, .int .i64 kAC.seq, .int .i64 kAC.kind, .slice gd.vA kAC.val.length gd.vc] := hd 32 (by kernel_rfl)
      obtain ⟨g9, e33, hm9⟩ := (show LitF kAC (f1 33) u from hd 33 (by kernel_rfl))
      have hm8 : Em u 0 u.heap.size kAC gd := (mark_em hu (show Em wz.drew 0 wz.heap.size kAC gd from HMD.out.below (Ext.drew wz) (Nat.le_refl _))).wide (Nat.le_refl _) hu.2.2.2.1
      have HR9 := Lib.hid (rsame_any hm8 hm9 (Nat.le_refl _) (Nat.le_refl _))
      unfold Ent.at_ at e33 HR9
      clear hm8 hm9
      go_simp
      refine HR9.out.mono ?_
      rintro x9 w9 ⟨z, hz, rfl, hx9⟩
      obtain rfl : z = true := hz.2 rfl
      exact ⟨_, rfl, mark_ext hx9, rfl⟩
    refine ⟨fun u hu hd => ?_, ?_⟩
    · simp only [Act.put, List.setIfInBounds_toArray, List.set_cons_zero, List.set_cons_succ]
      have e31 : f1 31 = .bool true := hd 31 (by kernel_rfl)
      have e34 : f1 34 = .bool true := hd 34 (by kernel_rfl)
      go_simp
      exact ⟨(MarkR wz.heap.size).refl _, rfl⟩
    refine ⟨fun u hu hd => ?_, ?_⟩
    · simp only [Act.put, List.setIfInBounds_toArray, List.set_cons_zero, List.set_cons_succ]
      have e35 : f1 35 = .bool true := hd 35 (by kernel_rfl)
      go_simp
      exact ⟨(MarkR wz.heap.size).refl _, rfl⟩
    refine ⟨fun u hu hd => ?_, ?_⟩
    · simp only [Act.put, List.setIfInBounds_toArray, List.set_cons_zero, List.set_cons_succ]
      have e36 : f1 36 = .bool true := hd 36 (by kernel_rfl)
      go_simp
      exact ⟨(MarkR wz.heap.size).refl _, rfl⟩
    refine ⟨fun u hu hd => ?_, ?_⟩
    · simp only [Act.put, List.setIfInBounds_toArray, List.set_cons_zero, List.set_cons_succ]
      have e36 : f1 36 = .bool true := hd 36 (by kernel_rfl)
      have e37 : f1 37 = .int .i64 6 := hd 37 (by kernel_rfl)
      go_simp
      refine (knum _ _).mono ?_
      rintro x9 w9 ⟨rfl, rfl⟩
      exact ⟨_, rfl, (MarkR wz.heap.size).refl _, rfl⟩
    refine ⟨fun u hu hd => ?_, ?_⟩
    · simp only [Act.put, List.setIfInBounds_toArray, List.set_cons_zero, List.set_cons_succ]
      have e36 : f1 36 = .bool true := hd 36 (by kernel_rfl)
      have e38 : f1 38 = .int .i64 6 := hd 38 (by kernel_rfl)
      go_simp
      exact ⟨(MarkR wz.heap.size).refl _, rfl⟩
    refine ⟨fun u hu hd => ?_, ?_⟩
    · simp only [Act.put, List.setIfInBounds_toArray, List.set_cons_zero, List.set_cons_succ]
      have e36 : f1 36 = .bool true := hd 36 (by kernel_rfl)
      have e39 : f1 39 = .bool true := hd 39 (by kernel_rfl)
      go_simp
      exact ⟨(MarkR wz.heap.size).refl _, rfl⟩
    refine ⟨fun u hu hd => ?_, ?_⟩
    · simp only [Act.put, List.setIfInBounds_toArray, List.set_cons_zero, List.set_cons_succ]
      have e40 : f1 40 = .bool true := hd 40 (by kernel_rfl)
      go_simp
      exact ⟨(MarkR wz.heap.size).refl _, rfl⟩
    refine ⟨fun u hu hd => ?_, ?_⟩
    · simp only [Act.put, List.setIfInBounds_toArray, List.set_cons_zero, List.set_cons_succ]
      have e41 : f1 41 = .bool true := hd 41 (by kernel_rfl)
      go_simp
      exact ⟨(MarkR wz.heap.size).refl _, rfl⟩
    refine ⟨fun u hu hd => ?_, ?_⟩
    · simp only [Act.put, List.setIfInBounds_toArray, List.set_cons_zero, List.set_cons_succ]
      have e41 : f1 41 = .bool true := hd 41 (by kernel_rfl)
      go_simp
      exact ⟨mark_ext (ext_alloc _ _), _, (0, 0), rfl, hu.2.2.2.1, heap_at _ _ rfl⟩
    refine ⟨fun u hu hd => ?_, ?_⟩
    · simp only [Act.put, List.setIfInBounds_toArray, List.set_cons_zero, List.set_cons_succ]
      have e41 : f1 41 = .bool true := hd 41 (by kernel_rfl)
      obtain ⟨b9, fz9, e43, hB9, hb9⟩ := (show BlF wz.heap.size [97, 98, 0] (f1 43) u from hd 43 (by kernel_rfl))
      have HB9 := Lib.hid hb9
      have HBB9 := Lib.hid hB9
      have hcv := conv_const (n := 3) (c := 3) hb9
      dsimp only [List.length_cons, List.length_nil] at e43
      clear hb9 hB9
      go_simp
      obtain ⟨fz8, h8⟩ := freeze_at (k := 3) HB9.out
      exact ⟨mark_freeze HB9.out HBB9.out, b9, fz8, rfl, HBB9.out, h8⟩
    refine ⟨fun u hu hd => ?_, ?_⟩
    · simp only [Act.put, List.setIfInBounds_toArray, List.set_cons_zero, List.set_cons_succ]
      have e41 : f1 41 = .bool true := hd 41 (by kernel_rfl)
      have e42 : f1 42 = .slice BA 19 bc := hd 42 (by kernel_rfl)
      obtain ⟨b9, fz9, e44, hB9, hb9⟩ := (show BlF wz.heap.size [97, 98, 0] (f1 44) u from hd 44 (by kernel_rfl))
      have HBS9 := Lib.hid (bl_bs (l := [97, 98, 0]) (by simp) hb9)
      have HBU9 := Lib.hid (mark_bs hu (show Bs wz.drew w.heap.size wz.heap.size (.slice BA 19 bc) kBy from HBB.out.below (Ext.drew wz) (Nat.le_refl _)))
      dsimp only [List.length_cons, List.length_nil] at e44
      clear hb9 hB9
      go_simp
      refine (bfrom_any HBU9.out hu.2.2.2.1 (by decide) (by decide) HBS9.out (Nat.le_refl _) (by decide)).mono ?_
      intro x9 w9 h9
      obtain ⟨v9, rfl, hx9, hf9⟩ := kfrom h9
      exact ⟨_, rfl, mark_ext hx9, hf9⟩
    refine ⟨fun u hu hd => ?_, ?_⟩
    · simp only [Act.put, List.setIfInBounds_toArray, List.set_cons_zero, List.set_cons_succ]
      have e41 : f1 41 = .bool true := hd 41 (by kernel_rfl)
      go_simp
      refine (lit_any (e := kAC) (k := [97, 99]) rfl rfl (by decide) (by decide) (by decide) (by decide) _).mono ?_
      rintro x9 w9 ⟨hx9, g9, rfl, hm9⟩
      exact ⟨_, rfl, mark_ext hx9, g9, rfl, hm9.wide (Nat.zero_le _) (Nat.le_refl _)⟩
    refine ⟨fun u hu hd => ?_, ?_⟩
    · simp only [Act.put, List.setIfInBounds_toArray, List.set_cons_zero, List.set_cons_succ]
      have e41 : f1 41 = .bool true := hd 41 (by kernel_rfl)
      obtain ⟨g9, e46, hm9⟩ := (show LitF kAC (f1 46) u from hd 46 (by kernel_rfl))
      have HM9 := Lib.hid hm9
      unfold Ent.at_ at e46
      clear hm9
      go_simp
      exact ⟨mark_ext (ext_alloc _ _), g9, _, rfl, heap_at _ _ rfl, HM9.out.below (ext_alloc _ _) (Nat.le_refl _) |>.wide (Nat.le_refl _) (ext_alloc _ _).size⟩
    refine ⟨fun u hu hd => ?_, ?_⟩
    · simp only [Act.put, List.setIfInBounds_toArray, List.set_cons_zero, List.set_cons_succ]
      have e41 : f1 41 = .bool true := hd 41 (by kernel_rfl)
      obtain ⟨bd9, X9, c9, S9, e45, hbx9, hes9, hl9, hin9, hmp9⟩ := (show FromF [kAC] (f1 45) u from hd 45 (by kernel_rfl))
      obtain ⟨g9, b9, e47, hb9, hm9⟩ := (show OneF kAC (f1 47) u from hd 47 (by kernel_rfl))
      have hit9 := from_iter hbx9 hes9 hl9 hin9
      have hts9 : (tws S9).length = S9.length := by simp [tws]
      rw [← hts9] at hit9
      have HG9 := Lib.hid (goes_any (most := 0) (c2 := 1) hit9 (fun A hA k hk => hA.block k hk) (fun t ht => by obtain ⟨p, hp, rfl⟩ := List.mem_map.1 ht; exact hin9 p hp) (one_es hb9 hm9) (Nat.le_refl _) (by simp) (by rw [tws_e, hmp9]; rfl))
      clear hit9 hts9 hbx9 hes9 hl9 hin9 hmp9 hb9 hm9
      go_simp
      refine HG9.out.mono ?_
      rintro x9 w9 ⟨rfl, hb9⟩
      exact ⟨_, rfl, mark_ext hb9, rfl⟩
    refine ⟨fun u hu hd => ?_, ?_⟩
    · simp only [Act.put, List.setIfInBounds_toArray, List.set_cons_zero, List.set_cons_succ]
      have e41 : f1 41 = .bool true := hd 41 (by kernel_rfl)
      have e48 : f1 48 = .bool true := hd 48 (by kernel_rfl)
      go_simp
      exact ⟨(MarkR wz.heap.size).refl _, rfl⟩
    refine ⟨fun u hu hd => ?_, ?_⟩
    · simp only [Act.put, List.setIfInBounds_toArray, List.set_cons_zero, List.set_cons_succ]
      have e49 : f1 49 = .bool true := hd 49 (by kernel_rfl)
      go_simp
      exact ⟨(MarkR wz.heap.size).refl _, rfl⟩
    trivial
end Go.Proofs.Ytddfelahpiokjaa

/- The reference's Rising. -/
namespace Go.Proofs.Ytddfelahpiokjaa
open Go.ChangeShapes Go.WideShapes Go.ChangeAt Go.RowKit

/-- They rise up to the k-th. -/
def RiseTo (l : List Ent) (k : Nat) : Prop := ∀ j a b, j + 1 < k → l[j]? = some a → l[j + 1]? = some b → cmpE a b < 0

set_option maxRecDepth 100000 in
set_option maxHeartbeats 8000000 in
theorem rrises_any {w : World} {lo hi : Nat} {A : Option Addr} {c : Nat} {L : List (Ent × Hd)} (h : Es w lo hi A L) (hhi : hi ≤ w.heap.size) (hlen : L.length ≤ 1000000) (hln : ∀ p ∈ L, p.1.key.length + p.1.val.length < 100000) :
    Calls Try.prog 42 #[.slice A L.length c] w fun x w' => ∃ z : Bool, (z = true ↔ Rise (L.map Prod.fst) ∧ (L.all fun p => p.1.may) = true) ∧ x = .returned (.bool z) ∧ Ext w w' := by
  have HE := Lib.hid h
  have HHI := Lib.hid hhi
  have HL := Lib.hid hlen
  have HLN := Lib.hid hln
  clear h hhi hln
  go_enter Try.func42, Try.ntmps42
  go_wp2_with fail
  go_loopw [3] (fun i wr => ∃ k : Nat, k ≤ L.length ∧ i = .int .i64 (k : Int) ∧ Hid (RiseTo (L.map Prod.fst) k) ∧ Hid ((L.take k).all (fun p => p.1.may) = true) ∧ Hid (Ext w wr)) (fun i _ => L.length - (intOf i).toNat)
  case atStart => exact ⟨0, by omega, rfl, Lib.hid (fun j a b hj => by omega), by simp [Hid], Lib.hid (Ext.refl _)⟩
  case round =>
    obtain ⟨k, hk, rfl, HR, HM, HX⟩ := hrel
    by_cases hlt : k < L.length
    · have d : decide ((k : Int) < (L.length : Int)) = true := decide_eq_true (by omega)
      have dn : decide (k < L.length) = true := decide_eq_true hlt
      obtain ⟨b, o, hA⟩ := HE.out.base (by omega)
      subst hA
      obtain ⟨p, hp⟩ : ∃ p, L[k]? = some p := ⟨_, List.getElem?_eq_getElem hlt⟩
      obtain ⟨c0, c1, c2, c3⟩ := (HE.out.below HX.out HHI.out).get hp
      have HP := Lib.hid hp
      have n1 : (0 : Int) ≤ (k : Int) := by omega
      have n2 : (k : Int) < (L.length : Int) := by omega
      have HLT := Lib.hid hlt
      obtain ⟨z, hz⟩ : ∃ z, z = mayN p.1.key.length p.1.seq p.1.kind p.1.val.length := ⟨_, rfl⟩
      have HZ := Lib.hid hz
      clear hp hz
      cases z with
      | false =>
        go_upto_region 4 with (fail)
        refine flow (by kernel_rfl) [Is (.slice (some ⟨b, o, none⟩) L.length c), Is (.int .i64 (k : Int)), Is (.pointer (some ⟨b, o + k * 4, none⟩)), Is (.agg #[.slice p.2.kA p.1.key.length p.2.kc, .int .i64 p.1.seq, .int .i64 p.1.kind, .slice p.2.vA p.1.val.length p.2.vc]), Is (.bool false), Is (.bool true), Is (.bool true), Is undef, Is undef, Is undef, Is undef, Is undef, Is undef, Is undef, Is undef, Is undef, Is undef, Is undef, Is undef, Is undef, Is undef, Is undef, Is (.bool true)] (by kernel_rfl) (by kernel_rfl) ?mono (fun f1 => ?obl) ?fin
        case mono =>
          simp only [List.forall_mem_cons, List.not_mem_nil, false_imp_iff, implies_true, and_true]
          exact ⟨.is _, .is _, .is _, .is _, .is _, .is _, .is _, .is _, .is _, .is _, .is _, .is _, .is _, .is _, .is _, .is _, .is _, .is _, .is _, .is _, .is _, .is _, .is _⟩
        case fin =>
          intro g1 u hu hg
          simp only [puts, Act.put, List.setIfInBounds_toArray, List.set_cons_zero, List.set_cons_succ]
          have h22 : g1 22 = .bool true := hg 22 (by decide)
          rw [h22]
          have HXU : Hid (Ext w u) := Ext.trans HX.out (Ext.trans (Ext.drew wr) hu)
          clear h22 hg hu c0 c1 c2 c3
          go_wp2_with fail
          go_ret
          exact ⟨false, ⟨fun h => (by cases h), fun h => (by
            have h2 := all_not (f := fun p : Ent × Hd => p.1.may) HP.out HZ.out.symm
            rw [h.2] at h2; cases h2)⟩, rfl, HXU.out⟩
        case obl =>
          refine ⟨fun u hu hd => ?_, ?_⟩
          · go_simp
            exact ⟨Ext.refl _, rfl⟩
          refine ⟨fun u hu hd => ?_, ?_⟩
          · simp only [Act.put, List.setIfInBounds_toArray, List.set_cons_zero, List.set_cons_succ]
            go_simp
            exact ⟨Ext.refl _, rfl⟩
          refine ⟨fun u hu hd => ?_, ?_⟩
          · simp only [Act.put, List.setIfInBounds_toArray, List.set_cons_zero, List.set_cons_succ]
            have e0 : f1 0 = .slice (some ⟨b, o, none⟩) L.length c := hd 0 (by kernel_rfl)
            have e1 : f1 1 = .int .i64 (k : Int) := hd 1 (by kernel_rfl)
            go_simp
            exact ⟨Ext.refl _, rfl⟩
          refine ⟨fun u hu hd => ?_, ?_⟩
          · simp only [Act.put, List.setIfInBounds_toArray, List.set_cons_zero, List.set_cons_succ]
            have e2 : f1 2 = .pointer (some ⟨b, o + k * 4, none⟩) := hd 2 (by kernel_rfl)
            have hu2 := Ext.trans (Ext.drew wr) hu
            have q0 := ext_cell hu2 c0
            have q1 := ext_cell hu2 c1
            have q2 := ext_cell hu2 c2
            have q3 := ext_cell hu2 c3
            go_simp
            exact ⟨Ext.refl _, rfl⟩
          refine ⟨fun u hu hd => ?_, ?_⟩
          · simp only [Act.put, List.setIfInBounds_toArray, List.set_cons_zero, List.set_cons_succ]
            have e3 : f1 3 = .agg #[.slice p.2.kA p.1.key.length p.2.kc, .int .i64 p.1.seq, .int .i64 p.1.kind, .slice p.2.vA p.1.val.length p.2.vc] := hd 3 (by kernel_rfl)
            go_simp
            refine (rmay_any _ _ _ _ _ _ _ _ u).mono ?_
            rintro x w9 ⟨rfl, hx9⟩
            exact ⟨_, rfl, hx9, by rw [← HZ.out]; rfl⟩
          refine ⟨fun u hu hd => ?_, ?_⟩
          · simp only [Act.put, List.setIfInBounds_toArray, List.set_cons_zero, List.set_cons_succ]
            have e4 : f1 4 = .bool false := hd 4 (by kernel_rfl)
            go_simp
            exact ⟨Ext.refl _, rfl⟩
          refine ⟨fun u hu hd => ?_, ?_⟩
          · simp only [Act.put, List.setIfInBounds_toArray, List.set_cons_zero, List.set_cons_succ]
            have e5 : f1 5 = .bool true := hd 5 (by kernel_rfl)
            go_simp
            exact ⟨Ext.refl _, rfl⟩
          refine ⟨fun u hu hd => ?_, ?_⟩
          · simp only [Act.put, List.setIfInBounds_toArray, List.set_cons_zero, List.set_cons_succ]
            have e6 : f1 6 = .bool true := hd 6 (by kernel_rfl)
            go_simp
            rfl
          refine ⟨fun u hu hd => ?_, ?_⟩
          · simp only [Act.put, List.setIfInBounds_toArray, List.set_cons_zero, List.set_cons_succ]
            have e6 : f1 6 = .bool true := hd 6 (by kernel_rfl)
            go_simp
            rfl
          refine ⟨fun u hu hd => ?_, ?_⟩
          · simp only [Act.put, List.setIfInBounds_toArray, List.set_cons_zero, List.set_cons_succ]
            have e6 : f1 6 = .bool true := hd 6 (by kernel_rfl)
            go_simp
            rfl
          refine ⟨fun u hu hd => ?_, ?_⟩
          · simp only [Act.put, List.setIfInBounds_toArray, List.set_cons_zero, List.set_cons_succ]
            have e9 : f1 9 = undef := hd 9 (by kernel_rfl)
            go_simp
            rfl
          refine ⟨fun u hu hd => ?_, ?_⟩
          · simp only [Act.put, List.setIfInBounds_toArray, List.set_cons_zero, List.set_cons_succ]
            have e9 : f1 9 = undef := hd 9 (by kernel_rfl)
            go_simp
            rfl
          refine ⟨fun u hu hd => ?_, ?_⟩
          · simp only [Act.put, List.setIfInBounds_toArray, List.set_cons_zero, List.set_cons_succ]
            have e9 : f1 9 = undef := hd 9 (by kernel_rfl)
            go_simp
            rfl
          refine ⟨fun u hu hd => ?_, ?_⟩
          · simp only [Act.put, List.setIfInBounds_toArray, List.set_cons_zero, List.set_cons_succ]
            have e9 : f1 9 = undef := hd 9 (by kernel_rfl)
            go_simp
            rfl
          refine ⟨fun u hu hd => ?_, ?_⟩
          · simp only [Act.put, List.setIfInBounds_toArray, List.set_cons_zero, List.set_cons_succ]
            have e9 : f1 9 = undef := hd 9 (by kernel_rfl)
            go_simp
            rfl
          refine ⟨fun u hu hd => ?_, ?_⟩
          · simp only [Act.put, List.setIfInBounds_toArray, List.set_cons_zero, List.set_cons_succ]
            have e9 : f1 9 = undef := hd 9 (by kernel_rfl)
            go_simp
            rfl
          refine ⟨fun u hu hd => ?_, ?_⟩
          · simp only [Act.put, List.setIfInBounds_toArray, List.set_cons_zero, List.set_cons_succ]
            have e9 : f1 9 = undef := hd 9 (by kernel_rfl)
            go_simp
            rfl
          refine ⟨fun u hu hd => ?_, ?_⟩
          · simp only [Act.put, List.setIfInBounds_toArray, List.set_cons_zero, List.set_cons_succ]
            have e9 : f1 9 = undef := hd 9 (by kernel_rfl)
            go_simp
            rfl
          refine ⟨fun u hu hd => ?_, ?_⟩
          · simp only [Act.put, List.setIfInBounds_toArray, List.set_cons_zero, List.set_cons_succ]
            have e9 : f1 9 = undef := hd 9 (by kernel_rfl)
            go_simp
            rfl
          refine ⟨fun u hu hd => ?_, ?_⟩
          · simp only [Act.put, List.setIfInBounds_toArray, List.set_cons_zero, List.set_cons_succ]
            have e9 : f1 9 = undef := hd 9 (by kernel_rfl)
            go_simp
            rfl
          refine ⟨fun u hu hd => ?_, ?_⟩
          · simp only [Act.put, List.setIfInBounds_toArray, List.set_cons_zero, List.set_cons_succ]
            have e9 : f1 9 = undef := hd 9 (by kernel_rfl)
            go_simp
            rfl
          refine ⟨fun u hu hd => ?_, ?_⟩
          · simp only [Act.put, List.setIfInBounds_toArray, List.set_cons_zero, List.set_cons_succ]
            have e6 : f1 6 = .bool true := hd 6 (by kernel_rfl)
            go_simp
            rfl
          refine ⟨fun u hu hd => ?_, ?_⟩
          · simp only [Act.put, List.setIfInBounds_toArray, List.set_cons_zero, List.set_cons_succ]
            have e6 : f1 6 = .bool true := hd 6 (by kernel_rfl)
            go_simp
            exact ⟨Ext.refl _, rfl⟩
          trivial
      | true =>
        by_cases hk0 : k = 0
        · have HK0 := Lib.hid hk0
          have g0 : decide ((0 : Int) < (k : Int)) = false := decide_eq_false (by omega)
          have g0n : decide (0 < k) = false := decide_eq_false (by omega)
          clear hk0
          go_upto_region 4 with (fail)
          refine flow (by kernel_rfl) [Is (.slice (some ⟨b, o, none⟩) L.length c), Is (.int .i64 (k : Int)), Is (.pointer (some ⟨b, o + k * 4, none⟩)), Is (.agg #[.slice p.2.kA p.1.key.length p.2.kc, .int .i64 p.1.seq, .int .i64 p.1.kind, .slice p.2.vA p.1.val.length p.2.vc]), Is (.bool true), Is (.bool false), Is (.bool false), Is (.int .i64 (k : Int)), Is (.bool false), Is (.bool false), Is undef, Is undef, Is undef, Is undef, Is undef, Is undef, Is undef, Is undef, Is undef, Is undef, Is undef, Is (.bool false), Is (.bool false)] (by kernel_rfl) (by kernel_rfl) ?mono (fun f1 => ?obl) ?fin
          case mono =>
            simp only [List.forall_mem_cons, List.not_mem_nil, false_imp_iff, implies_true, and_true]
            exact ⟨.is _, .is _, .is _, .is _, .is _, .is _, .is _, .is _, .is _, .is _, .is _, .is _, .is _, .is _, .is _, .is _, .is _, .is _, .is _, .is _, .is _, .is _, .is _⟩
          case fin =>
            intro g1 u hu hg
            simp only [puts, Act.put, List.setIfInBounds_toArray, List.set_cons_zero, List.set_cons_succ]
            have h22 : g1 22 = .bool false := hg 22 (by decide)
            rw [h22]
            have HXU : Hid (Ext w u) := Ext.trans HX.out (Ext.trans (Ext.drew wr) hu)
            clear h22 hg hu c0 c1 c2 c3
            go_wp2_with fail
            go_roundw
            case rel => exact ⟨k + 1, by omega, by go_num, Lib.hid (fun j a b hj => by have := HK0.out; omega), Lib.hid (all_next (f := fun p : Ent × Hd => p.1.may) HM.out HP.out HZ.out.symm), HXU⟩
            case measure => have := HLT.out; simp [intOf]; omega
          case obl =>
            refine ⟨fun u hu hd => ?_, ?_⟩
            · go_simp
              exact ⟨Ext.refl _, rfl⟩
            refine ⟨fun u hu hd => ?_, ?_⟩
            · simp only [Act.put, List.setIfInBounds_toArray, List.set_cons_zero, List.set_cons_succ]
              go_simp
              exact ⟨Ext.refl _, rfl⟩
            refine ⟨fun u hu hd => ?_, ?_⟩
            · simp only [Act.put, List.setIfInBounds_toArray, List.set_cons_zero, List.set_cons_succ]
              have e0 : f1 0 = .slice (some ⟨b, o, none⟩) L.length c := hd 0 (by kernel_rfl)
              have e1 : f1 1 = .int .i64 (k : Int) := hd 1 (by kernel_rfl)
              go_simp
              exact ⟨Ext.refl _, rfl⟩
            refine ⟨fun u hu hd => ?_, ?_⟩
            · simp only [Act.put, List.setIfInBounds_toArray, List.set_cons_zero, List.set_cons_succ]
              have e2 : f1 2 = .pointer (some ⟨b, o + k * 4, none⟩) := hd 2 (by kernel_rfl)
              have hu2 := Ext.trans (Ext.drew wr) hu
              have q0 := ext_cell hu2 c0
              have q1 := ext_cell hu2 c1
              have q2 := ext_cell hu2 c2
              have q3 := ext_cell hu2 c3
              go_simp
              exact ⟨Ext.refl _, rfl⟩
            refine ⟨fun u hu hd => ?_, ?_⟩
            · simp only [Act.put, List.setIfInBounds_toArray, List.set_cons_zero, List.set_cons_succ]
              have e3 : f1 3 = .agg #[.slice p.2.kA p.1.key.length p.2.kc, .int .i64 p.1.seq, .int .i64 p.1.kind, .slice p.2.vA p.1.val.length p.2.vc] := hd 3 (by kernel_rfl)
              go_simp
              refine (rmay_any _ _ _ _ _ _ _ _ u).mono ?_
              rintro x w9 ⟨rfl, hx9⟩
              exact ⟨_, rfl, hx9, by rw [← HZ.out]; rfl⟩
            refine ⟨fun u hu hd => ?_, ?_⟩
            · simp only [Act.put, List.setIfInBounds_toArray, List.set_cons_zero, List.set_cons_succ]
              have e4 : f1 4 = .bool true := hd 4 (by kernel_rfl)
              go_simp
              exact ⟨Ext.refl _, rfl⟩
            refine ⟨fun u hu hd => ?_, ?_⟩
            · simp only [Act.put, List.setIfInBounds_toArray, List.set_cons_zero, List.set_cons_succ]
              have e5 : f1 5 = .bool false := hd 5 (by kernel_rfl)
              go_simp
              exact ⟨Ext.refl _, rfl⟩
            refine ⟨fun u hu hd => ?_, ?_⟩
            · simp only [Act.put, List.setIfInBounds_toArray, List.set_cons_zero, List.set_cons_succ]
              have e6 : f1 6 = .bool false := hd 6 (by kernel_rfl)
              go_simp
              exact ⟨Ext.refl _, rfl⟩
            refine ⟨fun u hu hd => ?_, ?_⟩
            · simp only [Act.put, List.setIfInBounds_toArray, List.set_cons_zero, List.set_cons_succ]
              have e6 : f1 6 = .bool false := hd 6 (by kernel_rfl)
              have e7 : f1 7 = .int .i64 (k : Int) := hd 7 (by kernel_rfl)
              go_simp
              exact ⟨Ext.refl _, rfl⟩
            refine ⟨fun u hu hd => ?_, ?_⟩
            · simp only [Act.put, List.setIfInBounds_toArray, List.set_cons_zero, List.set_cons_succ]
              have e6 : f1 6 = .bool false := hd 6 (by kernel_rfl)
              have e8 : f1 8 = .bool false := hd 8 (by kernel_rfl)
              go_simp
              exact ⟨Ext.refl _, rfl⟩
            refine ⟨fun u hu hd => ?_, ?_⟩
            · simp only [Act.put, List.setIfInBounds_toArray, List.set_cons_zero, List.set_cons_succ]
              have e9 : f1 9 = .bool false := hd 9 (by kernel_rfl)
              go_simp
              rfl
            refine ⟨fun u hu hd => ?_, ?_⟩
            · simp only [Act.put, List.setIfInBounds_toArray, List.set_cons_zero, List.set_cons_succ]
              have e9 : f1 9 = .bool false := hd 9 (by kernel_rfl)
              go_simp
              rfl
            refine ⟨fun u hu hd => ?_, ?_⟩
            · simp only [Act.put, List.setIfInBounds_toArray, List.set_cons_zero, List.set_cons_succ]
              have e9 : f1 9 = .bool false := hd 9 (by kernel_rfl)
              go_simp
              rfl
            refine ⟨fun u hu hd => ?_, ?_⟩
            · simp only [Act.put, List.setIfInBounds_toArray, List.set_cons_zero, List.set_cons_succ]
              have e9 : f1 9 = .bool false := hd 9 (by kernel_rfl)
              go_simp
              rfl
            refine ⟨fun u hu hd => ?_, ?_⟩
            · simp only [Act.put, List.setIfInBounds_toArray, List.set_cons_zero, List.set_cons_succ]
              have e9 : f1 9 = .bool false := hd 9 (by kernel_rfl)
              go_simp
              rfl
            refine ⟨fun u hu hd => ?_, ?_⟩
            · simp only [Act.put, List.setIfInBounds_toArray, List.set_cons_zero, List.set_cons_succ]
              have e9 : f1 9 = .bool false := hd 9 (by kernel_rfl)
              go_simp
              rfl
            refine ⟨fun u hu hd => ?_, ?_⟩
            · simp only [Act.put, List.setIfInBounds_toArray, List.set_cons_zero, List.set_cons_succ]
              have e9 : f1 9 = .bool false := hd 9 (by kernel_rfl)
              go_simp
              rfl
            refine ⟨fun u hu hd => ?_, ?_⟩
            · simp only [Act.put, List.setIfInBounds_toArray, List.set_cons_zero, List.set_cons_succ]
              have e9 : f1 9 = .bool false := hd 9 (by kernel_rfl)
              go_simp
              rfl
            refine ⟨fun u hu hd => ?_, ?_⟩
            · simp only [Act.put, List.setIfInBounds_toArray, List.set_cons_zero, List.set_cons_succ]
              have e9 : f1 9 = .bool false := hd 9 (by kernel_rfl)
              go_simp
              rfl
            refine ⟨fun u hu hd => ?_, ?_⟩
            · simp only [Act.put, List.setIfInBounds_toArray, List.set_cons_zero, List.set_cons_succ]
              have e9 : f1 9 = .bool false := hd 9 (by kernel_rfl)
              go_simp
              rfl
            refine ⟨fun u hu hd => ?_, ?_⟩
            · simp only [Act.put, List.setIfInBounds_toArray, List.set_cons_zero, List.set_cons_succ]
              have e9 : f1 9 = .bool false := hd 9 (by kernel_rfl)
              go_simp
              rfl
            refine ⟨fun u hu hd => ?_, ?_⟩
            · simp only [Act.put, List.setIfInBounds_toArray, List.set_cons_zero, List.set_cons_succ]
              have e6 : f1 6 = .bool false := hd 6 (by kernel_rfl)
              have e9 : f1 9 = .bool false := hd 9 (by kernel_rfl)
              go_simp
              exact ⟨Ext.refl _, rfl⟩
            refine ⟨fun u hu hd => ?_, ?_⟩
            · simp only [Act.put, List.setIfInBounds_toArray, List.set_cons_zero, List.set_cons_succ]
              have e6 : f1 6 = .bool false := hd 6 (by kernel_rfl)
              have e21 : f1 21 = .bool false := hd 21 (by kernel_rfl)
              go_simp
              exact ⟨Ext.refl _, rfl⟩
            trivial
        · obtain ⟨m, hm⟩ : ∃ m, m + 1 = k := ⟨k - 1, by omega⟩
          obtain ⟨q, hq⟩ : ∃ q, L[m]? = some q := ⟨_, List.getElem?_eq_getElem (by omega)⟩
          obtain ⟨d0, d1, d2, d3⟩ := (HE.out.below HX.out HHI.out).get hq
          have HQ := Lib.hid hq
          have HMK := Lib.hid hm
          have g0 : decide ((0 : Int) < (k : Int)) = true := decide_eq_true (by omega)
          have g0n : decide (0 < k) = true := decide_eq_true (by omega)
          have m1 : (0 : Int) ≤ (m : Int) := by omega
          have m2 : (m : Int) < (L.length : Int) := by omega
          have HSUB : Hid (IntKind.i64.wrap ((k : Int) - 1) = (m : Int)) := by unfold Hid; rw [IntKind.wrap_i64]; omega
          have HWW : Hid (∀ u, Ext wr u → Em u lo hi q.1 q.2 ∧ Em u lo hi p.1 p.2 ∧ hi ≤ u.heap.size) := fun u hu => by
            have hx := Ext.trans HX.out hu
            exact ⟨(HE.out.below hx HHI.out).each q (List.mem_of_getElem? hq), (HE.out.below hx HHI.out).each p (List.mem_of_getElem? HP.out), Nat.le_trans HHI.out hx.size⟩
          have HKL : Hid (q.1.key.length ≤ 140737488351232 ∧ p.1.key.length ≤ 140737488351232) := by
            have h1 := HLN.out q (List.mem_of_getElem? hq); have h2 := HLN.out p (List.mem_of_getElem? HP.out); exact ⟨by omega, by omega⟩
          obtain ⟨s, hs⟩ : ∃ s, s = cmpE q.1 p.1 := ⟨_, rfl⟩
          have HS := Lib.hid hs
          obtain ⟨y, hy⟩ : ∃ y, y = decide (0 ≤ s) := ⟨_, rfl⟩
          have HY := Lib.hid hy
          clear hq hm hs hy hk0
          go_upto_region 4 with (fail)
          refine flow (by kernel_rfl) [Is (.slice (some ⟨b, o, none⟩) L.length c), Is (.int .i64 (k : Int)), Is (.pointer (some ⟨b, o + k * 4, none⟩)), Is (.agg #[.slice p.2.kA p.1.key.length p.2.kc, .int .i64 p.1.seq, .int .i64 p.1.kind, .slice p.2.vA p.1.val.length p.2.vc]), Is (.bool true), Is (.bool false), Is (.bool false), Is (.int .i64 (k : Int)), Is (.bool true), Is (.bool true), Is (.slice (some ⟨b, o, none⟩) L.length c), Is (.int .i64 (k : Int)), Is (.int .i64 (m : Int)), Is (.pointer (some ⟨b, o + m * 4, none⟩)), Is (.agg #[.slice q.2.kA q.1.key.length q.2.kc, .int .i64 q.1.seq, .int .i64 q.1.kind, .slice q.2.vA q.1.val.length q.2.vc]), Is (.slice (some ⟨b, o, none⟩) L.length c), Is (.int .i64 (k : Int)), Is (.pointer (some ⟨b, o + k * 4, none⟩)), Is (.agg #[.slice p.2.kA p.1.key.length p.2.kc, .int .i64 p.1.seq, .int .i64 p.1.kind, .slice p.2.vA p.1.val.length p.2.vc]), Is (.int .i64 s), Is (.bool y), Is (.bool y), Is (.bool y)] (by kernel_rfl) (by kernel_rfl) ?mono (fun f1 => ?obl) ?fin
          case mono =>
            simp only [List.forall_mem_cons, List.not_mem_nil, false_imp_iff, implies_true, and_true]
            exact ⟨.is _, .is _, .is _, .is _, .is _, .is _, .is _, .is _, .is _, .is _, .is _, .is _, .is _, .is _, .is _, .is _, .is _, .is _, .is _, .is _, .is _, .is _, .is _⟩
          case fin =>
            intro g1 u hu hg
            simp only [puts, Act.put, List.setIfInBounds_toArray, List.set_cons_zero, List.set_cons_succ]
            have h22 : g1 22 = .bool y := hg 22 (by decide)
            rw [h22]
            have HXU : Hid (Ext w u) := Ext.trans HX.out (Ext.trans (Ext.drew wr) hu)
            clear h22 hg hu c0 c1 c2 c3 d0 d1 d2 d3
            cases y with
            | true =>
              go_wp2_with fail
              go_ret
              refine ⟨false, ⟨fun h => (by cases h), fun h => ?_⟩, rfl, HXU.out⟩
              have h1 := of_decide_eq_true HY.out.symm
              have h2 := h.1 m q.1 p.1 (by rw [List.getElem?_map, HQ.out]; rfl) (by rw [HMK.out, List.getElem?_map, HP.out]; rfl)
              have h3 := HS.out
              omega
            | false =>
              go_wp2_with fail
              go_roundw
              case rel => exact ⟨k + 1, by omega, by go_num, Lib.hid (fun j a b hj ha hb => by
                  by_cases hjm : j = m
                  · subst hjm
                    rw [List.getElem?_map, HQ.out] at ha
                    rw [HMK.out, List.getElem?_map, HP.out] at hb
                    simp at ha hb
                    subst ha hb
                    have h1 := of_decide_eq_false HY.out.symm
                    have h2 := HS.out
                    omega
                  · exact HR.out j a b (by have := HMK.out; omega) ha hb), Lib.hid (all_next (f := fun p : Ent × Hd => p.1.may) HM.out HP.out HZ.out.symm), HXU⟩
              case measure => have := HLT.out; simp [intOf]; omega
          case obl =>
            refine ⟨fun u hu hd => ?_, ?_⟩
            · go_simp
              exact ⟨Ext.refl _, rfl⟩
            refine ⟨fun u hu hd => ?_, ?_⟩
            · simp only [Act.put, List.setIfInBounds_toArray, List.set_cons_zero, List.set_cons_succ]
              go_simp
              exact ⟨Ext.refl _, rfl⟩
            refine ⟨fun u hu hd => ?_, ?_⟩
            · simp only [Act.put, List.setIfInBounds_toArray, List.set_cons_zero, List.set_cons_succ]
              have e0 : f1 0 = .slice (some ⟨b, o, none⟩) L.length c := hd 0 (by kernel_rfl)
              have e1 : f1 1 = .int .i64 (k : Int) := hd 1 (by kernel_rfl)
              go_simp
              exact ⟨Ext.refl _, rfl⟩
            refine ⟨fun u hu hd => ?_, ?_⟩
            · simp only [Act.put, List.setIfInBounds_toArray, List.set_cons_zero, List.set_cons_succ]
              have e2 : f1 2 = .pointer (some ⟨b, o + k * 4, none⟩) := hd 2 (by kernel_rfl)
              have hu2 := Ext.trans (Ext.drew wr) hu
              have q0 := ext_cell hu2 c0
              have q1 := ext_cell hu2 c1
              have q2 := ext_cell hu2 c2
              have q3 := ext_cell hu2 c3
              go_simp
              exact ⟨Ext.refl _, rfl⟩
            refine ⟨fun u hu hd => ?_, ?_⟩
            · simp only [Act.put, List.setIfInBounds_toArray, List.set_cons_zero, List.set_cons_succ]
              have e3 : f1 3 = .agg #[.slice p.2.kA p.1.key.length p.2.kc, .int .i64 p.1.seq, .int .i64 p.1.kind, .slice p.2.vA p.1.val.length p.2.vc] := hd 3 (by kernel_rfl)
              go_simp
              refine (rmay_any _ _ _ _ _ _ _ _ u).mono ?_
              rintro x w9 ⟨rfl, hx9⟩
              exact ⟨_, rfl, hx9, by rw [← HZ.out]; rfl⟩
            refine ⟨fun u hu hd => ?_, ?_⟩
            · simp only [Act.put, List.setIfInBounds_toArray, List.set_cons_zero, List.set_cons_succ]
              have e4 : f1 4 = .bool true := hd 4 (by kernel_rfl)
              go_simp
              exact ⟨Ext.refl _, rfl⟩
            refine ⟨fun u hu hd => ?_, ?_⟩
            · simp only [Act.put, List.setIfInBounds_toArray, List.set_cons_zero, List.set_cons_succ]
              have e5 : f1 5 = .bool false := hd 5 (by kernel_rfl)
              go_simp
              exact ⟨Ext.refl _, rfl⟩
            refine ⟨fun u hu hd => ?_, ?_⟩
            · simp only [Act.put, List.setIfInBounds_toArray, List.set_cons_zero, List.set_cons_succ]
              have e6 : f1 6 = .bool false := hd 6 (by kernel_rfl)
              go_simp
              exact ⟨Ext.refl _, rfl⟩
            refine ⟨fun u hu hd => ?_, ?_⟩
            · simp only [Act.put, List.setIfInBounds_toArray, List.set_cons_zero, List.set_cons_succ]
              have e6 : f1 6 = .bool false := hd 6 (by kernel_rfl)
              have e7 : f1 7 = .int .i64 (k : Int) := hd 7 (by kernel_rfl)
              go_simp
              exact ⟨Ext.refl _, rfl⟩
            refine ⟨fun u hu hd => ?_, ?_⟩
            · simp only [Act.put, List.setIfInBounds_toArray, List.set_cons_zero, List.set_cons_succ]
              have e6 : f1 6 = .bool false := hd 6 (by kernel_rfl)
              have e8 : f1 8 = .bool true := hd 8 (by kernel_rfl)
              go_simp
              exact ⟨Ext.refl _, rfl⟩
            refine ⟨fun u hu hd => ?_, ?_⟩
            · simp only [Act.put, List.setIfInBounds_toArray, List.set_cons_zero, List.set_cons_succ]
              have e9 : f1 9 = .bool true := hd 9 (by kernel_rfl)
              go_simp
              exact ⟨Ext.refl _, rfl⟩
            refine ⟨fun u hu hd => ?_, ?_⟩
            · simp only [Act.put, List.setIfInBounds_toArray, List.set_cons_zero, List.set_cons_succ]
              have e9 : f1 9 = .bool true := hd 9 (by kernel_rfl)
              go_simp
              exact ⟨Ext.refl _, rfl⟩
            refine ⟨fun u hu hd => ?_, ?_⟩
            · simp only [Act.put, List.setIfInBounds_toArray, List.set_cons_zero, List.set_cons_succ]
              have e9 : f1 9 = .bool true := hd 9 (by kernel_rfl)
              have e11 : f1 11 = .int .i64 (k : Int) := hd 11 (by kernel_rfl)
              have q1 := HSUB.out
              go_simp
              exact ⟨Ext.refl _, rfl⟩
            refine ⟨fun u hu hd => ?_, ?_⟩
            · simp only [Act.put, List.setIfInBounds_toArray, List.set_cons_zero, List.set_cons_succ]
              have e9 : f1 9 = .bool true := hd 9 (by kernel_rfl)
              have e10 : f1 10 = .slice (some ⟨b, o, none⟩) L.length c := hd 10 (by kernel_rfl)
              have e12 : f1 12 = .int .i64 (m : Int) := hd 12 (by kernel_rfl)
              go_simp
              exact ⟨Ext.refl _, rfl⟩
            refine ⟨fun u hu hd => ?_, ?_⟩
            · simp only [Act.put, List.setIfInBounds_toArray, List.set_cons_zero, List.set_cons_succ]
              have e9 : f1 9 = .bool true := hd 9 (by kernel_rfl)
              have e13 : f1 13 = .pointer (some ⟨b, o + m * 4, none⟩) := hd 13 (by kernel_rfl)
              have hu2 := Ext.trans (Ext.drew wr) hu
              have q0 := ext_cell hu2 d0
              have q1 := ext_cell hu2 d1
              have q2 := ext_cell hu2 d2
              have q3 := ext_cell hu2 d3
              go_simp
              exact ⟨Ext.refl _, rfl⟩
            refine ⟨fun u hu hd => ?_, ?_⟩
            · simp only [Act.put, List.setIfInBounds_toArray, List.set_cons_zero, List.set_cons_succ]
              have e9 : f1 9 = .bool true := hd 9 (by kernel_rfl)
              go_simp
              exact ⟨Ext.refl _, rfl⟩
            refine ⟨fun u hu hd => ?_, ?_⟩
            · simp only [Act.put, List.setIfInBounds_toArray, List.set_cons_zero, List.set_cons_succ]
              have e9 : f1 9 = .bool true := hd 9 (by kernel_rfl)
              go_simp
              exact ⟨Ext.refl _, rfl⟩
            refine ⟨fun u hu hd => ?_, ?_⟩
            · simp only [Act.put, List.setIfInBounds_toArray, List.set_cons_zero, List.set_cons_succ]
              have e9 : f1 9 = .bool true := hd 9 (by kernel_rfl)
              have e15 : f1 15 = .slice (some ⟨b, o, none⟩) L.length c := hd 15 (by kernel_rfl)
              have e16 : f1 16 = .int .i64 (k : Int) := hd 16 (by kernel_rfl)
              go_simp
              exact ⟨Ext.refl _, rfl⟩
            refine ⟨fun u hu hd => ?_, ?_⟩
            · simp only [Act.put, List.setIfInBounds_toArray, List.set_cons_zero, List.set_cons_succ]
              have e9 : f1 9 = .bool true := hd 9 (by kernel_rfl)
              have e17 : f1 17 = .pointer (some ⟨b, o + k * 4, none⟩) := hd 17 (by kernel_rfl)
              have hu2 := Ext.trans (Ext.drew wr) hu
              have q0 := ext_cell hu2 c0
              have q1 := ext_cell hu2 c1
              have q2 := ext_cell hu2 c2
              have q3 := ext_cell hu2 c3
              go_simp
              exact ⟨Ext.refl _, rfl⟩
            refine ⟨fun u hu hd => ?_, ?_⟩
            · simp only [Act.put, List.setIfInBounds_toArray, List.set_cons_zero, List.set_cons_succ]
              have e9 : f1 9 = .bool true := hd 9 (by kernel_rfl)
              have e14 : f1 14 = .agg #[.slice q.2.kA q.1.key.length q.2.kc, .int .i64 q.1.seq, .int .i64 q.1.kind, .slice q.2.vA q.1.val.length q.2.vc] := hd 14 (by kernel_rfl)
              have e18 : f1 18 = .agg #[.slice p.2.kA p.1.key.length p.2.kc, .int .i64 p.1.seq, .int .i64 p.1.kind, .slice p.2.vA p.1.val.length p.2.vc] := hd 18 (by kernel_rfl)
              have hu2 := Ext.trans (Ext.drew wr) hu
              obtain ⟨m1, m2, m3⟩ := HWW.out u hu2
              go_simp
              refine (rcompare_any m1 m2 m3 m3 HKL.out.1 HKL.out.2).mono ?_
              rintro x w9 ⟨rfl, hx9⟩
              exact ⟨_, rfl, hx9, by rw [HS.out]; rfl⟩
            refine ⟨fun u hu hd => ?_, ?_⟩
            · simp only [Act.put, List.setIfInBounds_toArray, List.set_cons_zero, List.set_cons_succ]
              have e9 : f1 9 = .bool true := hd 9 (by kernel_rfl)
              have e19 : f1 19 = .int .i64 s := hd 19 (by kernel_rfl)
              have q1 := HY.out.symm
              go_simp
              exact ⟨Ext.refl _, rfl⟩
            refine ⟨fun u hu hd => ?_, ?_⟩
            · simp only [Act.put, List.setIfInBounds_toArray, List.set_cons_zero, List.set_cons_succ]
              have e6 : f1 6 = .bool false := hd 6 (by kernel_rfl)
              have e9 : f1 9 = .bool true := hd 9 (by kernel_rfl)
              have e20 : f1 20 = .bool y := hd 20 (by kernel_rfl)
              go_simp
              exact ⟨Ext.refl _, rfl⟩
            refine ⟨fun u hu hd => ?_, ?_⟩
            · simp only [Act.put, List.setIfInBounds_toArray, List.set_cons_zero, List.set_cons_succ]
              have e6 : f1 6 = .bool false := hd 6 (by kernel_rfl)
              have e21 : f1 21 = .bool y := hd 21 (by kernel_rfl)
              go_simp
              exact ⟨Ext.refl _, rfl⟩
            trivial
    · have d : decide ((k : Int) < (L.length : Int)) = false := decide_eq_false (by omega)
      have dn : decide (k < L.length) = false := decide_eq_false hlt
      have HF : Hid (Rise (L.map Prod.fst) ∧ (L.all fun p => p.1.may) = true) := by
        refine ⟨fun j a b ha hb => HR.out j a b (by have := (List.getElem?_eq_some_iff.1 hb).1; rw [List.length_map] at this; omega) ha hb, ?_⟩
        have h := HM.out
        rwa [List.take_of_length_le (by omega)] at h
      clear hlt hk
      go_wp2_with fail
      go_ret
      exact ⟨true, ⟨fun _ => HF.out, fun _ => rfl⟩, rfl, HX.out⟩
end Go.Proofs.Ytddfelahpiokjaa
