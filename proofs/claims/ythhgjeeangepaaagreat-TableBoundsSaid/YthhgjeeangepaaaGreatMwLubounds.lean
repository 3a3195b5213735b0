import Derived.Test.YthhgjeeangepaaaGreatMw4
import Derived.Test.YthhgjeeangepaaaGreatMw12
import Derived.Test.YthhgjeeangepaaaGreatMw16
import Derived.Test.YthhgjeeangepaaaGreatMw17
import Derived.Test.YthhgjeeangepaaaGreatMw6
import Derived.Test.YthhgjeeangepaaaGreatMw0
namespace Go.Proofs.YthhgjeeangepaaaGreat.ubounds
open Go.ChangeShapes Go.WideShapes Go.ChangeAt Go.RowKit
theorem ncv_k (W : World) : (convert 26 26 (.slice (some ⟨W.heap.size, 0, none⟩) 1 1)).run Tryz.prog (W.alloc (.cells #[.int .u8 107] 5)) = .ok (.slice (some ⟨W.heap.size, 0, none⟩) 1 1) (W.alloc (.cells #[.int .u8 107] 5 (1, 2))) := Go.Joins.run_convert_bytes_const_at _ _ _ _ _ _ _ (rfl) Tryz.underlying26 Tryz.underlying5
theorem bs_k {u : World} {g : Nat} (h : u.heap[g]? = some (.cells #[.int .u8 107] 5 (1, 2))) : Bs u 0 u.heap.size (.slice (some ⟨g, 0, none⟩) 1 1) [107] := by
  refine ⟨_, _, rfl, Nat.le_refl _, by simp [maxLen], (fun h => by cases h), .inr ⟨g, 0, rfl, Nat.zero_le _, (Array.getElem?_eq_some_iff.1 h).1, fun i x hx => ?_⟩⟩
  rcases i with _ | i
  · simp [bv] at hx; subst hx
    simp [World.cell?, h]
  · simp [bv] at hx
theorem key_kept {B g n : Nat} {xs : List Value} {v : Value} {u w' : World} (h : u.ownsRow B 55 4 v n xs) (hb : u.heap[g]? = some (.cells #[.int .u8 107] 5 (1, 2))) (hg : u.grownBy w' v.ownBlock) : w'.heap[g]? = some (.cells #[.int .u8 107] 5 (1, 2)) := by
  refine (hg.block g (Array.getElem?_eq_some_iff.1 hb).1 fun e => ?_).trans hb
  obtain ⟨_, _, cur, h1⟩ := rowN_lt h g e.symm
  rw [h1] at hb
  injection hb with hb
  injection hb with _ hb
  exact absurd hb (by decide)
structure BI (w : World) (k : Nat) (R : List (Ent × Hd)) (A : Option Addr) (c : Nat) (u : World) : Prop where
  len : R.length = k
  ents : R.map Prod.fst = bents k
  row : u.ownsRow w.heap.size 55 4 (.slice A k c) k (erow R)
  each : ∀ p ∈ R, ∃ g, p.2 = ⟨some ⟨g, 0, none⟩, 1, none, 0⟩ ∧ u.heap[g]? = some (.cells #[.int .u8 107] 5 (1, 2))
  x : Ext w u
theorem BI.es {w u : World} {k c : Nat} {R : List (Ent × Hd)} {A : Option Addr} (h : BI w k R A c u) (hk : k ≤ 4097) : Es u 0 u.heap.size A R ∧ k ≤ c := by
  obtain ⟨l, e, r, ea, x⟩ := h
  subst l
  refine ⟨⟨(erow_sl r).1, fun p hp => ?_⟩, (erow_sl r).2.1⟩
  obtain ⟨g, h1, h2⟩ := ea p hp
  have h3 : p.1 ∈ bents R.length := by rw [← e]; exact List.mem_map_of_mem hp
  obtain ⟨i, hi⟩ := List.mem_iff_getElem?.1 h3
  obtain ⟨hi2, he⟩ := bents_at hi
  rw [he, h1]
  exact ⟨bs_k h2, Bs.nil _ _ _, by simp [bent], by simp [bent], by show -9223372036854775808 ≤ 5000 - (i : Int); omega, by show 5000 - (i : Int) ≤ 9223372036854775807; omega, by simp [bent], by simp [bent]⟩
def LitV (e : Ent) (v : Value) (u : World) : Prop := ∃ g : Hd, v = e.at_ g ∧ Em u 0 u.heap.size e g
theorem LitV.mono (e : Ent) : Mono (LitV e) := fun _ _ _ ⟨g, h, hm⟩ hx => ⟨g, h, (hm.below hx (Nat.le_refl _)).wide (Nat.le_refl _) hx.size⟩
def Row3 (v : Value) (u : World) : Prop := ∃ (gb : Nat) (g1 g2 g3 : Hd), v = .slice (some ⟨gb, 0, none⟩) 3 3 ∧ Es u 0 u.heap.size (some ⟨gb, 0, none⟩) [(bea, g1), (beb, g2), (bec, g3)]
theorem Row3.mono : Mono Row3 := fun _ _ _ ⟨gb, g1, g2, g3, h, hm⟩ hx => ⟨gb, g1, g2, g3, h, (hm.below hx (Nat.le_refl _)).wide (Nat.le_refl _) hx.size⟩
def TupV (B : Nat) (D : List Nat) (v : Value) (u : World) : Prop := ∃ s, v = .tuple #[s, .int .i64 0] ∧ Own B D s u
theorem TupV.mono (B : Nat) (D : List Nat) : Mono (TupV B D) := fun _ _ _ ⟨s, h, ho⟩ hx => ⟨s, h, ho.below hx⟩
theorem ucorrupt_inV_all (L : List Ent) : inV [] [] false L = L := by
  unfold inV
  rw [List.filter_eq_self]
  intro e _
  unfold hasV endsV
  rw [cmpK_nil]
  simp
  split <;> omega
theorem babc_good : ∀ e ∈ [bea, beb, bec], (∀ x ∈ e.key, x < 256) ∧ ∀ x ∈ e.val, x < 256 := by
  intro e he
  simp only [List.mem_cons, List.not_mem_nil, or_false] at he
  rcases he with rfl | rfl | rfl
  · exact ⟨by decide, fun x hx => by rw [List.eq_of_mem_replicate hx]; decide⟩
  · decide
  · decide
theorem bents_good {n : Nat} : ∀ e ∈ bents n, (∀ x ∈ e.key, x < 256) ∧ ∀ x ∈ e.val, x < 256 := by
  intro e he
  obtain ⟨i, hi⟩ := List.mem_iff_getElem?.1 he
  obtain ⟨_, rfl⟩ := bents_at hi
  simp [bent]
set_option maxRecDepth 100000 in
set_option maxHeartbeats 8000000 in
theorem walk (W : World) : Calls Tryz.prog 8 #[] W fun e w' => e = .returned (.bool true) ∧ Below W.heap.size W w' := by
  go_enter Tryz.func8, Tryz.ntmps8
  go_wp2_with fail
  go_loopw [1, 2] (fun ev iv wq => ∃ (k : Nat) (R : List (Ent × Hd)) (A : Option Addr) (c : Nat), k ≤ 4097 ∧ iv = .int .i64 (k : Int) ∧ ev = .slice A k c ∧ Hid (BI W k R A c wq)) (fun _ iv _ => 4097 - (intOf iv).toNat)
  case atStart => exact ⟨0, [], none, 0, Nat.zero_le _, rfl, rfl, ⟨rfl, rfl, World.ownsRow_nil _ _ _ _, (fun p hp => by cases hp), Ext.refl _⟩⟩
  case round =>
    rename World => wq
    obtain ⟨k, R, A, c, hk, rfl, rfl, HB⟩ := hrel
    by_cases hlt : k < 4097
    · have d : decide ((k : Int) < 4097) = true := decide_eq_true (by omega)
      have dn : decide (k < 4097) = true := decide_eq_true hlt
      have HLT := Lib.hid hlt
      have cvk := ncv_k wq
      have hs : IntKind.i64.wrap (5000 - (k : Int)) = 5000 - (k : Int) := by rw [IntKind.wrap_i64]; omega
      have HRL : Hid (R.length = k) := HB.out.len
      have hrow := HB.out.row
      have hkI : (k : Int) < 4097 := by omega
      obtain ⟨w2, hw2⟩ : ∃ w2, w2 = (wq.alloc (.cells #[.int .u8 107] 5 (1, 2))).alloc (.cells #[.slice (some ⟨wq.heap.size, 0, none⟩) 1 1, .int .i64 (5000 - (k : Int)), .int .i64 2, .slice none 0 0] 55) := ⟨_, rfl⟩
      have HX2 : Hid (Ext wq w2) := by rw [hw2]; exact Ext.trans (ext_alloc _ _) (ext_alloc _ _)
      have HG2 : Hid (w2.heap[wq.heap.size + 1]? = some (.cells #[.slice (some ⟨wq.heap.size, 0, none⟩) 1 1, .int .i64 (5000 - (k : Int)), .int .i64 2, .slice none 0 0] 55 (0, 0))) := by rw [hw2]; exact heap_at _ _ (by simp)
      have HK2 : Hid (w2.heap[wq.heap.size]? = some (.cells #[.int .u8 107] 5 (1, 2))) := by rw [hw2]; exact ext_heap (ext_alloc _ _) (heap_at _ _ rfl)
      obtain ⟨p, hp⟩ : ∃ p : Ent × Hd, p = (bent k, ⟨some ⟨wq.heap.size, 0, none⟩, 1, none, 0⟩) := ⟨_, rfl⟩
      have HP := Lib.hid hp
      have HO2 : Hid (w2.ownsRow W.heap.size 55 4 (.slice A k c) R.length (erow R)) := by
        have h9 := rowN_kept hrow fun g hg => HX2.out.block g (rowN_lt hrow g hg).2.1
        unfold Hid; rw [HB.out.len]; exact h9
      have HE2 : Hid (w2.heap[wq.heap.size + 1]? = some (.cells (ecells p).toArray 55 (0, 0))) := by rw [HP.out]; exact HG2.out
      have HB2 : Hid (W.heap.size ≤ w2.heap.size) := Nat.le_trans HB.out.x.size HX2.out.size
      have hk' : R.length ≤ 1000000000000 := by have := HRL.out; omega
      clear hk hlt hrow hp
      go_upto_region 5 with (fail)
      go_wp2_with (at_builtin; refine wpList_pushe rfl (.tmp 18) (.tmp 24) rfl W.heap.size (.slice A k c) R rfl (by rw [← hw2]; exact HO2.out) p (wq.heap.size + 1) rfl (by rw [← hw2]; exact HE2.out) hk' (by rw [← hw2]; exact HB2.out) ?_)
      rw [← hw2, HRL.out]
      intro A7 c7 w7 ho7 hg7
      have hx7 : Below W.heap.size w2 w7 := (Below.refl _ _).grown hg7 HB2.out (fun g hg => (rowN_lt HO2.out g hg).1)
      have HN : Hid (BI W (k + 1) (R ++ [p]) A7 c7 w7) := by
        refine ⟨by rw [List.length_append, HRL.out]; rfl, ?_, ho7, fun q hq => ?_, Below.trans (Ext.trans HB.out.x (Below.mono HX2.out (Nat.le_refl _))) hx7⟩
        · rw [List.map_append, HB.out.ents, bents_succ, HP.out]; rfl
        · rcases List.mem_append.1 hq with h1 | h1
          · obtain ⟨g, h2, h3⟩ := HB.out.each q h1
            exact ⟨g, h2, key_kept HO2.out (ext_heap HX2.out h3) hg7⟩
          · rw [List.mem_singleton.1 h1, HP.out]
            exact ⟨_, rfl, key_kept HO2.out HK2.out hg7⟩
      clear ho7 hg7 hx7 hw2
      go_wp2_with fail
      go_roundw
      case rel => exact ⟨k + 1, R ++ [p], A7, c7, HLT.out, by go_num, rfl, HN⟩
      case measure => have := HLT.out; simp [intOf]; omega
    · have hk7 : k = 4097 := by omega
      subst hk7
      have d : decide (((4097 : Nat) : Int) < 4097) = false := by decide
      have d' : decide ((4097 : Int) < 4097) = false := by decide
      clear hk hlt
      obtain ⟨hes, hc⟩ := HB.out.es (Nat.le_refl _)
      have hcI : (4096 : Int) ≤ (c : Int) := by omega
      have HES := Lib.hid hes
      have HCC := Lib.hid hc
      have HRL : Hid (R.length = 4097) := HB.out.len
      have hT : (R.take 4096).map Prod.fst = bents 4096 := by rw [List.map_take, HB.out.ents]; exact bents_take _ _ (by decide)
      have hTL : (R.take 4096).length = 4096 := by rw [List.length_take, HRL.out]; rfl
      have HW1 := Lib.hid (twrite_any (c := c) (hes.take (k := 4096) (by rw [HRL.out]; decide)) (Nat.le_refl _) (by rw [hTL]; omega) (by rw [hTL]; decide))
      rw [hT, hTL] at HW1
      clear hes hc hT hTL
      go_wp2_with fail
      refine HW1.out.mono ?_
      rintro x w2 ⟨hx2, (⟨hm2, C2, A2, c2, hf2, hc2, rfl, ho2⟩ | ⟨hm2, _⟩)⟩
      rotate_left
      · exact absurd (bents_may (by decide) (Nat.le_refl _)) hm2
      have HX2 := Lib.hid hx2
      have HW2 := Lib.hid (twrite_any (c := c) (HES.out.below HX2.out (Nat.le_refl _)) HX2.out.size (by rw [HRL.out]; exact HCC.out) (by rw [HRL.out]; decide))
      rw [HB.out.ents, HRL.out] at HW2
      obtain ⟨b2, hb2⟩ : ∃ b2, b2 = tb C2 (bents 4096) := ⟨_, rfl⟩
      have HBT2 := Lib.hid hb2
      rw [← hb2] at ho2 ⊢
      have HO2 := Lib.hid ho2
      have HF2 := Lib.hid hf2
      have HC2 := Lib.hid hc2
      clear hx2 hm2 hf2 hc2 ho2 hb2 HW1
      go_wp2_with fail
      refine HW2.out.mono ?_
      rintro x w3 ⟨hx3, (⟨hm3, _⟩ | ⟨_, rfl⟩)⟩
      · exact absurd hm3.2.1 (by rw [bents_len]; decide)
      have HX3 := Lib.hid hx3
      have HX23 : Hid (Ext W w3) := Ext.trans (Ext.trans HB.out.x HX2.out) hx3
      clear hx3 HW2
      go_wp2_with fail
      have hbl : Bs w3 0 w3.heap.size (.slice A2 b2.length c2) b2 := ((HO2.out.below HX3.out).bs)
      have HOP := Lib.hid (topen_any hbl (Nat.le_refl _) (by rw [HBT2.out]; exact utb_lt (bents_may (by decide) (Nat.le_refl _)) HC2.out HF2.out bents_good) (by rw [HBT2.out]; exact ulen (bents_may (by decide) (Nat.le_refl _)) HC2.out HF2.out))
      clear hbl
      refine HOP.out.mono ?_
      intro x w4 hop
      rw [HBT2.out] at hop
      obtain ⟨hx4, g4, rfl, hv4⟩ := open_is (bents_may (by decide) (Nat.le_refl _)) HC2.out HF2.out hop
      have HX4 : Hid (Ext W w4) := Ext.trans HX23.out hx4
      have HV4 := Lib.hid hv4
      clear hop hx4 hv4 HOP
      go_wp2_with fail
      refine (uput_any [97] 1 (by decide) (by decide) (by decide) (by decide) w4).mono ?_
      rintro x w5 ⟨hx5, gA, rfl, hmA⟩
      have HX5 : Hid (Ext W w5) := Ext.trans HX4.out hx5
      have HX45 : Hid (Ext w4 w5) := hx5
      have HMA := Lib.hid hmA
      clear hx5 hmA
      obtain ⟨w6, hw6⟩ : ∃ w6, w6 = w5.alloc (.cells #[.slice gA.kA 1 gA.kc, .int .i64 1, .int .i64 1, .slice gA.vA 1 gA.vc] 55) := ⟨_, rfl⟩
      have HBX6 : Hid (w6.heap[w5.heap.size]? = some (.cells #[.slice gA.kA 1 gA.kc, .int .i64 1, .int .i64 1, .slice gA.vA 1 gA.vc] 55 (0, 0))) := by rw [hw6]; exact heap_at _ _ rfl
      have HX56 : Hid (Ext w5 w6) := by rw [hw6]; exact ext_alloc _ _
      have HZ6 : Hid (w6.heap.size = w5.heap.size + 1) := by rw [hw6]; simp [Hid]
      obtain ⟨w7, hrun, hz7, hx67⟩ := Bl.zeros_run w6 2000 (by decide)
      have hrun' : (Instr.makeSlice 26 (.int .i64 2000) (.int .i64 2000)).run Tryz.prog w6 = .ok (.slice (some ⟨w6.heap.size, 0, none⟩) 2000 2000) w7 := hrun
      have HZ7 : Hid (Own w6.heap.size (List.replicate 2000 0) (.slice (some ⟨w5.heap.size + 1, 0, none⟩) 2000 2000) w7) := by
        have h9 := hz7
        rw [HZ6.out] at h9 ⊢
        exact h9
      have HX67 := Lib.hid hx67
      have HBX7 : Hid (w7.heap[w5.heap.size]? = some (.cells #[.slice gA.kA 1 gA.kc, .int .i64 1, .int .i64 1, .slice gA.vA 1 gA.vc] 55 (0, 0))) := ext_heap hx67 HBX6.out
      have b3 := cell_of HBX7.out (k := 3) rfl
      have z3 := frozen_four (j := 3) HBX7.out
      rw [hw6] at hrun'
      clear hrun hz7 hx67
      unfold Ent.at_
      go_upto_region 11 with (fail)
      obtain ⟨w8, hw8⟩ : ∃ w8, w8 = w7.setCell ⟨w5.heap.size, 3, none⟩ (.slice (some ⟨w5.heap.size + 1, 0, none⟩) 2000 2000) := ⟨_, rfl⟩
      rw [← hw8]
      have HC8 : Hid (Chg (fun i => i = w5.heap.size) w7 w8) := by rw [hw8]; exact Chg.setCell _ _ _ rfl
      have HBX8 : Hid (w8.heap[w5.heap.size]? = some (.cells #[.slice gA.kA 1 gA.kc, .int .i64 1, .int .i64 1, .slice (some ⟨w5.heap.size + 1, 0, none⟩) 2000 2000] 55 (0, 0))) := by
        have h9 := heap_setCell_same w7 w5.heap.size 3 _ _ (.slice (some ⟨w5.heap.size + 1, 0, none⟩) 2000 2000) HBX7.out
        rw [hw8, h9]; rfl
      have HX58 : Hid (Ext w5 w8) := Below.trans (Ext.trans HX56.out HX67.out) (HC8.out.below (fun i hi => Nat.le_of_eq hi.symm) (Below.size (Ext.trans HX56.out HX67.out)))
      have HZ8 : Hid (Own w6.heap.size (List.replicate 2000 0) (.slice (some ⟨w5.heap.size + 1, 0, none⟩) 2000 2000) w8) := row_kept HZ7.out fun g hg => HC8.out.block g (row_lt HZ7.out g hg).2 (fun e => by have := (row_lt HZ7.out g hg).1; have := HZ6.out; omega)
      have e0 := cell_of HBX8.out (k := 0) rfl
      have e1 := cell_of HBX8.out (k := 1) rfl
      have e2 := cell_of HBX8.out (k := 2) rfl
      have e3 := cell_of HBX8.out (k := 3) rfl
      obtain ⟨D, hD⟩ : ∃ D, D = tb [[bea], [beb, bec]] [bea, beb, bec] := ⟨_, rfl⟩
      have HD := Lib.hid hD
      have HMZ : Hid (Em w8 0 w8.heap.size bea ⟨gA.kA, gA.kc, some ⟨w5.heap.size + 1, 0, none⟩, 2000⟩) := by
        have h1 := ((HMA.out.below HX58.out (Nat.le_refl _)).wide (Nat.zero_le _) HX58.out.size)
        have h2 := HZ8.out.bs
        refine ⟨h1.k, ?_, h1.bk, fun x hx => ?_, by decide, by decide, by decide, by decide⟩
        · have e : bea.val.length = 2000 := List.length_replicate ..
          rw [e]; exact h2
        · rw [List.eq_of_mem_replicate hx]; decide
      clear hw6 hw8 hrun' b3 z3 hD
      refine flow (by kernel_rfl) [Is (.agg #[.slice gA.kA 1 gA.kc, .int .i64 1, .int .i64 1, .slice (some ⟨w5.heap.size + 1, 0, none⟩) 2000 2000]), LitV beb, LitV bec, Row3, TupV w8.heap.size D, TupV w8.heap.size D, Own w8.heap.size D, Is (.int .i64 0), Own w8.heap.size D, Is (.int .i64 0)] (by kernel_rfl) (by kernel_rfl) ?mono (fun f1 => ?obl) ?fin
      case mono =>
        simp only [List.forall_mem_cons, List.not_mem_nil, false_imp_iff, implies_true, and_true]
        exact ⟨.is _, LitV.mono _, LitV.mono _, Row3.mono, TupV.mono _ _, TupV.mono _ _, .own _ _, .is _, .own _ _, .is _⟩
      case fin =>
        intro g1 u hu hg
        simp only [puts, Act.put, zq1, zq2, zq3]
        have h8 : Own w8.heap.size D (g1 8) u := hg 8 (by decide)
        have e9 : g1 9 = .int .i64 0 := hg 9 (by decide)
        obtain ⟨A8, c8, e8⟩ := h8.slice
        rw [e8] at h8
        rw [e8, e9]
        have HXU : Hid (Ext w8 u) := Ext.trans (Ext.drew w8) hu
        have HO8 := Lib.hid h8
        clear e8 e9 h8 hg hu e0 e1 e2 e3
        have HOP := Lib.hid (topen_any HO8.out.bs (Nat.le_refl _) (by rw [HD.out]; exact utb_lt babc_may babc_cuts rfl babc_good) (by rw [HD.out]; exact ulen babc_may babc_cuts rfl))
        have HXU2 : Hid (Ext W u) := Ext.trans HX5.out (Ext.trans HX58.out HXU.out)
        have HV5 := Lib.hid (HV4.out.ext (Ext.trans HX45.out (Ext.trans HX58.out HXU.out)))
        go_wp2_with fail
        refine HOP.out.mono ?_
        intro x w9 hop
        rw [HD.out] at hop
        obtain ⟨hx9, g9, rfl, hv9⟩ := open_is babc_may babc_cuts rfl hop
        have HX9 : Hid (Ext W w9) := Ext.trans HXU2.out hx9
        have HV9 := Lib.hid hv9
        have HV6 := Lib.hid (HV5.out.ext hx9)
        clear hop hx9 hv9 HOP
        go_wp2_with fail
        refine (unum _ _).mono ?_
        rintro x wz ⟨rfl, hwz⟩
        have hwz := hwz.symm
        subst hwz
        go_wp2_with fail
        refine (unum _ _).mono ?_
        rintro x wz ⟨rfl, hwz⟩
        have hwz := hwz.symm
        subst hwz
        go_wp2_with fail
        refine (unum _ _).mono ?_
        rintro x wz ⟨rfl, hwz⟩
        have hwz := hwz.symm
        subst hwz
        go_wp2_with fail
        refine (unum _ _).mono ?_
        rintro x wz ⟨rfl, hwz⟩
        have hwz := hwz.symm
        subst hwz
        go_wp2_with fail
        refine (unum _ _).mono ?_
        rintro x wz ⟨rfl, hwz⟩
        have hwz := hwz.symm
        subst hwz
        have hin : (inV [] [] false (bents 4096)).length = 4096 := by rw [ucorrupt_inV_all, bents_len]
        have HL := Lib.hid (tlen_any HV6.out.goes (by rw [hin]; decide))
        rw [hin] at HL
        clear hin
        go_wp2_with fail
        refine HL.out.mono ?_
        rintro x w10 ⟨rfl, hx10⟩
        have HX10 : Hid (Ext W w10) := Ext.trans HX9.out hx10
        have HBK := Lib.hid (tblocks_any (HV9.out.ext hx10))
        clear hx10 HL
        go_wp2_with fail
        refine HBK.out.mono ?_
        rintro x wz ⟨rfl, hwz⟩
        subst hwz
        go_wp2_with fail
        refine (nothing_any (.inl rfl)).mono ?_
        rintro x w11 ⟨rfl, hx11⟩
        have HX11 : Hid (Ext W w11) := Ext.trans HX10.out hx11
        clear hx11
        go_wp2_with fail
        refine (nothing_any (.inr ⟨_, rfl, heap_at _ _ rfl⟩)).mono ?_
        rintro x w12 ⟨rfl, hx12⟩
        have HX12 : Hid (Ext W w12) := Ext.trans (Ext.trans HX11.out (ext_alloc _ _)) hx12
        clear hx12
        go_wp2_with fail
        refine (uknown_any w12).mono ?_
        rintro x w13 ⟨rfl, hx13⟩
        have HX13 := Lib.hid (Ext.trans HX12.out hx13)
        clear hx13
        go_wp2_with fail
        go_ret
        exact ⟨rfl, HX13.out⟩
      case obl =>
        refine ⟨fun u hu hd => ?_, ?_⟩
        · have hu2 := Ext.trans (Ext.drew w8) hu
          have q0 := ext_cell hu2 e0
          have q1 := ext_cell hu2 e1
          have q2 := ext_cell hu2 e2
          have q3 := ext_cell hu2 e3
          go_simp
          exact ⟨Ext.refl _, rfl⟩
        refine ⟨fun u hu hd => ?_, ?_⟩
        · simp only [Act.put, zq1, zq2, zq3]
          go_simp
          refine (uput_any [98] 1 (by decide) (by decide) (by decide) (by decide) u).mono ?_
          rintro x9 w9 ⟨hx9, g9, rfl, hm9⟩
          exact ⟨_, rfl, hx9, g9, rfl, hm9.wide (Nat.zero_le _) (Nat.le_refl _)⟩
        refine ⟨fun u hu hd => ?_, ?_⟩
        · simp only [Act.put, zq1, zq2, zq3]
          go_simp
          refine (uput_any [99] 1 (by decide) (by decide) (by decide) (by decide) u).mono ?_
          rintro x9 w9 ⟨hx9, g9, rfl, hm9⟩
          exact ⟨_, rfl, hx9, g9, rfl, hm9.wide (Nat.zero_le _) (Nat.le_refl _)⟩
        refine ⟨fun u hu hd => ?_, ?_⟩
        · simp only [Act.put, zq1, zq2, zq3]
          have e0 : f1 0 = .agg #[.slice gA.kA 1 gA.kc, .int .i64 1, .int .i64 1, .slice (some ⟨w5.heap.size + 1, 0, none⟩) 2000 2000] := hd 0 (by kernel_rfl)
          have hu2 := Ext.trans (Ext.drew w8) hu
          obtain ⟨g2, h2, m2⟩ : LitV beb (f1 1) u := hd 1 (by kernel_rfl)
          obtain ⟨g3, h3, m3⟩ : LitV bec (f1 2) u := hd 2 (by kernel_rfl)
          have M := Lib.hid (And.intro m2 m3)
          unfold Ent.at_ at h2 h3
          clear m2 m3
          go_simp
          refine ⟨ext_alloc _ _, u.heap.size, ⟨gA.kA, gA.kc, some ⟨w5.heap.size + 1, 0, none⟩, 2000⟩, g2, g3, rfl, three_es (heap_at _ _ rfl) ?_ ?_ ?_⟩
          · exact ((HMZ.out.below hu2 (Nat.le_refl _)).below (ext_alloc _ _) hu2.size).wide (Nat.le_refl _) (Nat.le_trans hu2.size (by simp))
          · exact (M.out.1.below (ext_alloc _ _) (Nat.le_refl _)).wide (Nat.le_refl _) (by simp)
          · exact (M.out.2.below (ext_alloc _ _) (Nat.le_refl _)).wide (Nat.le_refl _) (by simp)
        refine ⟨fun u hu hd => ?_, ?_⟩
        · simp only [Act.put, zq1, zq2, zq3]
          have hu2 := Ext.trans (Ext.drew w8) hu
          obtain ⟨gb, g1', g2, g3, h3, m3⟩ : Row3 (f1 3) u := hd 3 (by kernel_rfl)
          have M := Lib.hid m3
          clear m3
          go_simp
          refine (twrite_any (c := 3) M.out (Nat.le_refl _) (by simp) (by simp)).mono ?_
          rintro x9 w9 ⟨hx9, (⟨_, C, A9, c9, h4, h5, rfl, h6⟩ | ⟨h4, _⟩)⟩
          · obtain rfl : C = [[bea], [beb, bec]] := cut_unique h5 babc_cuts (by rw [h4]; rfl)
            refine ⟨_, rfl, hx9, _, rfl, ?_⟩
            rw [HD.out]; exact h6.base hu2.size
          · exact absurd babc_may h4
        refine ⟨fun u hu hd => ?_, ?_⟩
        · simp only [Act.put, zq1, zq2, zq3]
          have h4 : TupV w8.heap.size D (f1 4) u := hd 4 (by kernel_rfl)
          have H := Lib.hid h4
          clear h4
          go_simp
          exact ⟨Ext.refl _, H.out⟩
        refine ⟨fun u hu hd => ?_, ?_⟩
        · simp only [Act.put, zq1, zq2, zq3]
          obtain ⟨s5, e5, h5⟩ : TupV w8.heap.size D (f1 5) u := hd 5 (by kernel_rfl)
          have H := Lib.hid h5
          clear h5
          go_simp
          exact ⟨Ext.refl _, H.out⟩
        refine ⟨fun u hu hd => ?_, ?_⟩
        · simp only [Act.put, zq1, zq2, zq3]
          obtain ⟨s5, e5, h5⟩ : TupV w8.heap.size D (f1 5) u := hd 5 (by kernel_rfl)
          have H := Lib.hid h5
          clear h5
          go_simp
          exact ⟨Ext.refl _, rfl⟩
        refine ⟨fun u hu hd => ?_, ?_⟩
        · simp only [Act.put, zq1, zq2, zq3]
          have h4 : Own w8.heap.size D (f1 6) u := hd 6 (by kernel_rfl)
          have H := Lib.hid h4
          clear h4
          go_simp
          exact ⟨Ext.refl _, H.out⟩
        refine ⟨fun u hu hd => ?_, ?_⟩
        · simp only [Act.put, zq1, zq2, zq3]
          have e7 : f1 7 = .int .i64 0 := hd 7 (by kernel_rfl)
          have e7 : f1 7 = .int .i64 0 := hd 7 (by kernel_rfl)
          go_simp
          exact ⟨Ext.refl _, rfl⟩
        trivial
end Go.Proofs.YthhgjeeangepaaaGreat.ubounds
namespace Go.Proofs.YthhgjeeangepaaaGreat.ubounds
open Go.ChangeShapes Go.WideShapes Go.ChangeAt Go.RowKit
set_option linter.unusedVariables false
set_option maxRecDepth 100000 in
theorem lifted (os : Os) (started : os.Started) (H : Type) (enc : TypeId × Value → H) :
    ReturnsInHanded {} Tryz.checked os 8 .any (Rows.tableBoundsSpec.pre6 enc Tryz.prog Tryz.f8 Rows.tableBoundsRow.domain false) (Rows.tableBoundsSpec.post enc Tryz.prog Tryz.f8 false true false false) := by
  refine returnsInHanded_of_change_sized (C := Tryz.checked) own started (by kernel_rfl) Tryz.func8
    (ChangeSpec.witness6 (enc := enc) (C := Tryz.checked) false ⟨#[], #[], []⟩ 8 (by kernel_rfl) (by kernel_rfl) (by kernel_rfl) (by kernel_rfl)) ?_
  intro W base args ds gs before hval0 hW hcnd hsz0 _
  have hsz : (DataW.weightsEach Tryz.prog (Tryz.f8.params.toList ++ Rows.tableBoundsSpec.plain.varTypes Tryz.prog) (ds ++ gs)).all (· ≤ reachBytes) = true := hsz0
  have hval : ∀ (j : Nat) t v, Tryz.f8.params[j]? = some t → args[j]? = some v → Value.okWide Tryz.prog W .any base t v := hval0
  have hW' := hW
  obtain ⟨p, q, hA0, hV, rfl, hfz, hnd⟩ := hW
  have hA : DataW.TrodAll enc Tryz.prog W 0 (fun _ => true) true Tryz.f8.params.toList args.toList ds p := hA0
  obtain ⟨rfl, rfl, rfl⟩ := trodAll_none hA
  obtain ⟨rfl, rfl⟩ := trodVars_none hV
  clear hA0 hval0 hsz0
  refine (walk W ).mono fun e W' ⟨he, bel⟩ => ?_
  subst he
  exact ⟨_, rfl, _, _, _, [], _, [], hW', trodAll_mk1 (shut_bool Tryz.underlying4 _), trodAll_mk0, rfl, bel.frame _, fun h => by cases h⟩
theorem over : Rows.tableBoundsRow.holds Tryz.pinned (OpenSpec.ofChange Rows.tableBoundsSpec) :=
  OpenClaim.holds_of_wide 8 Tryz.f8 rfl rfl rfl rfl rfl rfl rfl ⟨rfl, rfl, rfl, rfl, rfl⟩ rfl rfl rfl rfl rfl (by kernel_rfl) Tryz.func8 (by kernel_rfl)
    (of_decide_eq_true (by kernel_rfl)) (by unfold Func.isWrapper; first | (rw [if_pos (by decide +kernel)]; kernel_rfl) | (rw [if_neg (by decide +kernel)]; exact ⟨rfl, rfl⟩))
    (fun os started H enc _ => lifted os started H enc)
theorem proved : Rows.TableBoundsSaid := over
end Go.Proofs.YthhgjeeangepaaaGreat.ubounds
