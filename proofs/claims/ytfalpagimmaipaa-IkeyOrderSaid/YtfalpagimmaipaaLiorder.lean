/- IkeyOrder: the order of entries turns and is a row. -/
import Derived.Test.YtfalpagimmaipaaIthree
import Derived.Test.YtfalpagimmaipaaIref
import Derived.Test.YtfalpagimmaipaaIknown
import Derived.Deep.DeepCutAuto
namespace Go.Proofs.Ytfalpagimmaipaa.ikeyOrder
open Go.ChangeShapes Go.WideShapes Go.ChangeAt Go.RowKit

set_option maxRecDepth 100000 in
set_option maxHeartbeats 8000000 in
theorem walk (W : World) (ea : Ent) (ga : Hd) (eb : Ent) (gb : Hd) (ec : Ent) (gc : Hd) (ma : Em W 0 W.heap.size ea ga) (mb : Em W 0 W.heap.size eb gb) (mc : Em W 0 W.heap.size ec gc)
    (la : ea.key.length ≤ 140737488351232 ∧ ea.val.length ≤ 140737488351232) (lb : eb.key.length ≤ 140737488351232 ∧ eb.val.length ≤ 140737488351232) (lc : ec.key.length ≤ 140737488351232 ∧ ec.val.length ≤ 140737488351232) :
    Calls Try.prog 5 #[three (ea, ga) (eb, gb) (ec, gc)] W fun x w' => x = .returned (.bool true) ∧ Below W.heap.size W w' := by
  have hth : three (ea, ga) (eb, gb) (ec, gc) = .agg #[.slice ga.kA ea.key.length ga.kc, .int .i64 ea.seq, .int .i64 ea.kind, .slice ga.vA ea.val.length ga.vc, .slice gb.kA eb.key.length gb.kc, .int .i64 eb.seq, .int .i64 eb.kind, .slice gb.vA eb.val.length gb.vc, .slice gc.kA ec.key.length gc.kc, .int .i64 ec.seq, .int .i64 ec.kind, .slice gc.vA ec.val.length gc.vc] := rfl
  rw [hth]
  obtain ⟨w1, hw1⟩ : ∃ w1, w1 = W.alloc (.cells #[.slice ga.kA ea.key.length ga.kc, .int .i64 ea.seq, .int .i64 ea.kind, .slice ga.vA ea.val.length ga.vc, .slice gb.kA eb.key.length gb.kc, .int .i64 eb.seq, .int .i64 eb.kind, .slice gb.vA eb.val.length gb.vc, .slice gc.kA ec.key.length gc.kc, .int .i64 ec.seq, .int .i64 ec.kind, .slice gc.vA ec.val.length gc.vc] 33) := ⟨_, rfl⟩
  have HX1 : Hid (Ext W w1) := by rw [hw1]; exact ext_alloc _ _
  have HB1 : Hid (w1.heap[W.heap.size]? = some (.cells #[.slice ga.kA ea.key.length ga.kc, .int .i64 ea.seq, .int .i64 ea.kind, .slice ga.vA ea.val.length ga.vc, .slice gb.kA eb.key.length gb.kc, .int .i64 eb.seq, .int .i64 eb.kind, .slice gb.vA eb.val.length gb.vc, .slice gc.kA ec.key.length gc.kc, .int .i64 ec.seq, .int .i64 ec.kind, .slice gc.vA ec.val.length gc.vc] 33 (0, 0))) := by rw [hw1]; exact heap_at _ _ rfl
  have HEE : Hid (∀ u, Ext w1 u → Em u 0 W.heap.size ea ga ∧ Em u 0 W.heap.size eb gb ∧ Em u 0 W.heap.size ec gc ∧ W.heap.size ≤ u.heap.size ∧ u.heap[W.heap.size]? = some (.cells #[.slice ga.kA ea.key.length ga.kc, .int .i64 ea.seq, .int .i64 ea.kind, .slice ga.vA ea.val.length ga.vc, .slice gb.kA eb.key.length gb.kc, .int .i64 eb.seq, .int .i64 eb.kind, .slice gb.vA eb.val.length gb.vc, .slice gc.kA ec.key.length gc.kc, .int .i64 ec.seq, .int .i64 ec.kind, .slice gc.vA ec.val.length gc.vc] 33 (0, 0))) := fun u hu => by
    have h := Ext.trans HX1.out hu
    exact ⟨ma.below h (Nat.le_refl _), mb.below h (Nat.le_refl _), mc.below h (Nat.le_refl _), h.size, ext_heap hu HB1.out⟩
  have HLA : Hid (∀ u, Calls Try.prog 13 #[ea.at_ ga] u fun x w' => x = .returned (.bool (decide (100000 < ea.key.length + ea.val.length))) ∧ Ext u w') := fun u => long_any (w := u) (g := ga) la.1 la.2
  have HLB : Hid (∀ u, Calls Try.prog 13 #[eb.at_ gb] u fun x w' => x = .returned (.bool (decide (100000 < eb.key.length + eb.val.length))) ∧ Ext u w') := fun u => long_any (w := u) (g := gb) lb.1 lb.2
  have HLC : Hid (∀ u, Calls Try.prog 13 #[ec.at_ gc] u fun x w' => x = .returned (.bool (decide (100000 < ec.key.length + ec.val.length))) ∧ Ext u w') := fun u => long_any (w := u) (g := gc) lc.1 lc.2
  unfold Ent.at_ at HLA HLB HLC
  obtain ⟨za, hza⟩ : ∃ z, z = decide (100000 < ea.key.length + ea.val.length) := ⟨_, rfl⟩
  obtain ⟨zb, hzb⟩ : ∃ z, z = decide (100000 < eb.key.length + eb.val.length) := ⟨_, rfl⟩
  obtain ⟨zc, hzc⟩ : ∃ z, z = decide (100000 < ec.key.length + ec.val.length) := ⟨_, rfl⟩
  rw [← hza] at HLA
  rw [← hzb] at HLB
  rw [← hzc] at HLC
  clear hza hzb hzc ma mb mc la lb lc hth
  have fin : ∀ u, Ext w1 u → Calls Try.prog 14 #[] u fun x w' => x = .returned (.bool true) ∧ Hid (Ext W w') := fun u hu => (known_any u).mono fun x w' h => ⟨h.1, Lib.hid (Ext.trans HX1.out (Ext.trans hu h.2))⟩
  have HFIN := Lib.hid fin
  clear fin
  go_enter Try.func5, Try.ntmps5
  have a0 := cell_of (HB1.out) (k := 0) rfl
  have a1 := cell_of (HB1.out) (k := 1) rfl
  have a2 := cell_of (HB1.out) (k := 2) rfl
  have a3 := cell_of (HB1.out) (k := 3) rfl
  have a4 := cell_of (HB1.out) (k := 4) rfl
  have a5 := cell_of (HB1.out) (k := 5) rfl
  have a6 := cell_of (HB1.out) (k := 6) rfl
  have a7 := cell_of (HB1.out) (k := 7) rfl
  have a8 := cell_of (HB1.out) (k := 8) rfl
  have a9 := cell_of (HB1.out) (k := 9) rfl
  have a10 := cell_of (HB1.out) (k := 10) rfl
  have a11 := cell_of (HB1.out) (k := 11) rfl
  go_wp2_with fail
  rw [← hw1]
  clear hw1
  refine (HLA.out w1).mono ?_
  rintro x w2 ⟨rfl, hx2⟩
  have HX2 : Hid (Ext w1 w2) := hx2
  clear hx2 a0 a1 a2 a3 a4 a5 a6 a7 a8 a9 a10 a11
  rcases za with _ | _
  rotate_left
  · go_wp2_with fail
    refine (HFIN.out w2 HX2.out).mono ?_
    rintro x w3 ⟨rfl, hx3⟩
    go_wp2_with fail
    go_ret
    exact ⟨rfl, hx3.out⟩
  have a0 := cell_of ((HEE.out w2 HX2.out).2.2.2.2) (k := 0) rfl
  have a1 := cell_of ((HEE.out w2 HX2.out).2.2.2.2) (k := 1) rfl
  have a2 := cell_of ((HEE.out w2 HX2.out).2.2.2.2) (k := 2) rfl
  have a3 := cell_of ((HEE.out w2 HX2.out).2.2.2.2) (k := 3) rfl
  have a4 := cell_of ((HEE.out w2 HX2.out).2.2.2.2) (k := 4) rfl
  have a5 := cell_of ((HEE.out w2 HX2.out).2.2.2.2) (k := 5) rfl
  have a6 := cell_of ((HEE.out w2 HX2.out).2.2.2.2) (k := 6) rfl
  have a7 := cell_of ((HEE.out w2 HX2.out).2.2.2.2) (k := 7) rfl
  have a8 := cell_of ((HEE.out w2 HX2.out).2.2.2.2) (k := 8) rfl
  have a9 := cell_of ((HEE.out w2 HX2.out).2.2.2.2) (k := 9) rfl
  have a10 := cell_of ((HEE.out w2 HX2.out).2.2.2.2) (k := 10) rfl
  have a11 := cell_of ((HEE.out w2 HX2.out).2.2.2.2) (k := 11) rfl
  go_wp2_with fail
  refine (HLB.out w2).mono ?_
  rintro x w3 ⟨rfl, hx3⟩
  have HX3 : Hid (Ext w1 w3) := Ext.trans HX2.out hx3
  clear hx3 a0 a1 a2 a3 a4 a5 a6 a7 a8 a9 a10 a11
  rcases zb with _ | _
  rotate_left
  · go_wp2_with fail
    refine (HFIN.out w3 HX3.out).mono ?_
    rintro x w4 ⟨rfl, hx4⟩
    go_wp2_with fail
    go_ret
    exact ⟨rfl, hx4.out⟩
  have a0 := cell_of ((HEE.out w3 HX3.out).2.2.2.2) (k := 0) rfl
  have a1 := cell_of ((HEE.out w3 HX3.out).2.2.2.2) (k := 1) rfl
  have a2 := cell_of ((HEE.out w3 HX3.out).2.2.2.2) (k := 2) rfl
  have a3 := cell_of ((HEE.out w3 HX3.out).2.2.2.2) (k := 3) rfl
  have a4 := cell_of ((HEE.out w3 HX3.out).2.2.2.2) (k := 4) rfl
  have a5 := cell_of ((HEE.out w3 HX3.out).2.2.2.2) (k := 5) rfl
  have a6 := cell_of ((HEE.out w3 HX3.out).2.2.2.2) (k := 6) rfl
  have a7 := cell_of ((HEE.out w3 HX3.out).2.2.2.2) (k := 7) rfl
  have a8 := cell_of ((HEE.out w3 HX3.out).2.2.2.2) (k := 8) rfl
  have a9 := cell_of ((HEE.out w3 HX3.out).2.2.2.2) (k := 9) rfl
  have a10 := cell_of ((HEE.out w3 HX3.out).2.2.2.2) (k := 10) rfl
  have a11 := cell_of ((HEE.out w3 HX3.out).2.2.2.2) (k := 11) rfl
  go_wp2_with fail
  refine (HLC.out w3).mono ?_
  rintro x w4 ⟨rfl, hx4⟩
  have HX4 : Hid (Ext w1 w4) := Ext.trans HX3.out hx4
  clear hx4 a0 a1 a2 a3 a4 a5 a6 a7 a8 a9 a10 a11
  rcases zc with _ | _
  rotate_left
  · go_wp2_with fail
    refine (HFIN.out w4 HX4.out).mono ?_
    rintro x w5 ⟨rfl, hx5⟩
    go_wp2_with fail
    go_ret
    exact ⟨rfl, hx5.out⟩
  have HAT : Hid (∀ u, Ext w1 u → ∀ i : Nat, i < 3 → ∃ (e : Ent) (g : Hd), Em u 0 W.heap.size e g ∧ u.cell? ⟨W.heap.size, i * 4, none⟩ = some (.slice g.kA e.key.length g.kc) ∧ u.cell? ⟨W.heap.size, i * 4 + 1, none⟩ = some (.int .i64 e.seq) ∧ u.cell? ⟨W.heap.size, i * 4 + 2, none⟩ = some (.int .i64 e.kind) ∧ u.cell? ⟨W.heap.size, i * 4 + 3, none⟩ = some (.slice g.vA e.val.length g.vc)) := fun u hu i hi => by
    obtain ⟨m1, m2, m3, _, hb⟩ := HEE.out u hu
    match i, hi with
    | 0, _ => exact ⟨ea, ga, m1, cell_of hb (k := 0) rfl, cell_of hb (k := 1) rfl, cell_of hb (k := 2) rfl, cell_of hb (k := 3) rfl⟩
    | 1, _ => exact ⟨eb, gb, m2, cell_of hb (k := 4) rfl, cell_of hb (k := 5) rfl, cell_of hb (k := 6) rfl, cell_of hb (k := 7) rfl⟩
    | 2, _ => exact ⟨ec, gc, m3, cell_of hb (k := 8) rfl, cell_of hb (k := 9) rfl, cell_of hb (k := 10) rfl, cell_of hb (k := 11) rfl⟩
    | (n + 3), h => omega
  have HSZ : Hid (∀ u, Ext w1 u → W.heap.size ≤ u.heap.size) := fun u hu => (HEE.out u hu).2.2.2.1
  clear HLA HLB HLC
  go_wp2_with fail
  go_loopw [3] (fun x wr => ∃ i : Nat, i ≤ 3 ∧ x = .int .i64 (i : Int) ∧ Hid (Ext w1 wr)) (fun x _ => 3 - (intOf x).toNat)
  case atStart => exact ⟨0, by omega, rfl, HX4⟩
  case round =>
    obtain ⟨i, hi, rfl, HXR⟩ := hrel
    by_cases hlt : i < 3
    · have e1 : decide ((i : Int) < 3) = true := decide_eq_true (by omega)
      have e1n : decide (i < 3) = true := decide_eq_true hlt
      go_wp2_with fail
      go_loopw [4] (fun x wr => ∃ k : Nat, k ≤ 3 ∧ x = .int .i64 (k : Int) ∧ Hid (Ext w1 wr)) (fun x _ => 3 - (intOf x).toNat)
      case atStart => exact ⟨0, by omega, rfl, HXR⟩
      case round =>
        clear HXR
        obtain ⟨k, hk, rfl, HXR⟩ := hrel
        by_cases hlk : k < 3
        · have e2 : decide ((k : Int) < 3) = true := decide_eq_true (by omega)
          have e2n : decide (k < 3) = true := decide_eq_true hlk
          obtain ⟨e, g, me, c0, c1, c2, c3⟩ := HAT.out wr HXR.out i hlt
          obtain ⟨f, h, mf, d0, d1, d2, d3⟩ := HAT.out wr HXR.out k hlk
          have HME := Lib.hid (And.intro me mf)
          have HWW : Hid (∀ u, Ext wr u → Em u 0 W.heap.size e g ∧ Em u 0 W.heap.size f h ∧ W.heap.size ≤ u.heap.size) := fun u hu => ⟨HME.out.1.below hu (HSZ.out wr HXR.out), HME.out.2.below hu (HSZ.out wr HXR.out), HSZ.out u (Ext.trans HXR.out hu)⟩
          have i1 : (0 : Int) ≤ (i : Int) := by omega
          have i2 : (i : Int) < 3 := by omega
          have k1 : (0 : Int) ≤ (k : Int) := by omega
          have k2 : (k : Int) < 3 := by omega
          obtain ⟨s, hs⟩ : ∃ s, s = cmpE e f := ⟨_, rfl⟩
          have HSR : Hid (s = -1 ∨ s = 0 ∨ s = 1) := by rw [hs]; exact cmpE_range e f
          have HS := Lib.hid hs
          clear me mf hs HME
          go_upto_region 9 with (fail)
          refine flow (by kernel_rfl) [Is (.int .i64 (i : Int)), Is (.pointer (some ⟨W.heap.size, i * 4, none⟩)), Is (.agg #[.slice g.kA e.key.length g.kc, .int .i64 e.seq, .int .i64 e.kind, .slice g.vA e.val.length g.vc]), Is (.int .i64 (k : Int)), Is (.pointer (some ⟨W.heap.size, k * 4, none⟩)), Is (.agg #[.slice h.kA f.key.length h.kc, .int .i64 f.seq, .int .i64 f.kind, .slice h.vA f.val.length h.vc]), Is (.int .i64 s), Is (.int .i64 (k : Int)), Is (.pointer (some ⟨W.heap.size, k * 4, none⟩)), Is (.agg #[.slice h.kA f.key.length h.kc, .int .i64 f.seq, .int .i64 f.kind, .slice h.vA f.val.length h.vc]), Is (.int .i64 (i : Int)), Is (.pointer (some ⟨W.heap.size, i * 4, none⟩)), Is (.agg #[.slice g.kA e.key.length g.kc, .int .i64 e.seq, .int .i64 e.kind, .slice g.vA e.val.length g.vc]), Is (.int .i64 (-s)), Is (.int .i64 s), Is (.bool false)] (by kernel_rfl) (by kernel_rfl) ?mono (fun f1 => ?obl) ?fin
          case mono =>
            simp only [List.forall_mem_cons, List.not_mem_nil, false_imp_iff, implies_true, and_true]
            exact ⟨.is _, .is _, .is _, .is _, .is _, .is _, .is _, .is _, .is _, .is _, .is _, .is _, .is _, .is _, .is _, .is _⟩
          case fin =>
            intro g1 u hu hg
            simp only [puts, Act.put, List.setIfInBounds_toArray, List.set_cons_zero, List.set_cons_succ]
            have h15 : g1 15 = .bool false := hg 15 (by decide)
            rw [h15]
            have HXU : Hid (Ext w1 u) := Ext.trans HXR.out (Ext.trans (Ext.drew wr) hu)
            clear h15 hg hu c0 c1 c2 c3 d0 d1 d2 d3
            go_wp2_with fail
            go_roundw
            case rel => exact ⟨k + 1, by omega, by go_num, HXU⟩
            case measure => simp [intOf]; omega
          case obl =>
            refine ⟨fun u hu hd => ?_, ?_⟩
            · go_simp
              exact ⟨Ext.refl _, rfl⟩
            refine ⟨fun u hu hd => ?_, ?_⟩
            · simp only [Act.put, List.setIfInBounds_toArray, List.set_cons_zero, List.set_cons_succ]
              have e0 : f1 0 = .int .i64 (i : Int) := hd 0 (by kernel_rfl)
              go_simp
              exact ⟨Ext.refl _, rfl⟩
            refine ⟨fun u hu hd => ?_, ?_⟩
            · simp only [Act.put, List.setIfInBounds_toArray, List.set_cons_zero, List.set_cons_succ]
              have e1 : f1 1 = .pointer (some ⟨W.heap.size, i * 4, none⟩) := hd 1 (by kernel_rfl)
              have hu2 := Ext.trans (Ext.drew wr) hu
              have q0 := ext_cell hu2 c0
              have q1 := ext_cell hu2 c1
              have q2 := ext_cell hu2 c2
              have q3 := ext_cell hu2 c3
              go_simp
              exact ⟨Ext.refl _, rfl⟩
            refine ⟨fun u hu hd => ?_, ?_⟩
            · simp only [Act.put, List.setIfInBounds_toArray, List.set_cons_zero, List.set_cons_succ]
              go_simp
              exact ⟨Ext.refl _, rfl⟩
            refine ⟨fun u hu hd => ?_, ?_⟩
            · simp only [Act.put, List.setIfInBounds_toArray, List.set_cons_zero, List.set_cons_succ]
              have e3 : f1 3 = .int .i64 (k : Int) := hd 3 (by kernel_rfl)
              go_simp
              exact ⟨Ext.refl _, rfl⟩
            refine ⟨fun u hu hd => ?_, ?_⟩
            · simp only [Act.put, List.setIfInBounds_toArray, List.set_cons_zero, List.set_cons_succ]
              have e4 : f1 4 = .pointer (some ⟨W.heap.size, k * 4, none⟩) := hd 4 (by kernel_rfl)
              have hu2 := Ext.trans (Ext.drew wr) hu
              have q0 := ext_cell hu2 d0
              have q1 := ext_cell hu2 d1
              have q2 := ext_cell hu2 d2
              have q3 := ext_cell hu2 d3
              go_simp
              exact ⟨Ext.refl _, rfl⟩
            refine ⟨fun u hu hd => ?_, ?_⟩
            · simp only [Act.put, List.setIfInBounds_toArray, List.set_cons_zero, List.set_cons_succ]
              have e2 : f1 2 = .agg #[.slice g.kA e.key.length g.kc, .int .i64 e.seq, .int .i64 e.kind, .slice g.vA e.val.length g.vc] := hd 2 (by kernel_rfl)
              have e5 : f1 5 = .agg #[.slice h.kA f.key.length h.kc, .int .i64 f.seq, .int .i64 f.kind, .slice h.vA f.val.length h.vc] := hd 5 (by kernel_rfl)
              have hu2 := Ext.trans (Ext.drew wr) hu
              obtain ⟨m1, m2, m3⟩ := HWW.out u hu2
              go_simp
              refine (compare_any m1 m2 m3 m3).mono ?_
              rintro x w9 ⟨rfl, hx9⟩
              exact ⟨_, rfl, hx9, by rw [HS.out]; rfl⟩
            refine ⟨fun u hu hd => ?_, ?_⟩
            · simp only [Act.put, List.setIfInBounds_toArray, List.set_cons_zero, List.set_cons_succ]
              go_simp
              exact ⟨Ext.refl _, rfl⟩
            refine ⟨fun u hu hd => ?_, ?_⟩
            · simp only [Act.put, List.setIfInBounds_toArray, List.set_cons_zero, List.set_cons_succ]
              have e7 : f1 7 = .int .i64 (k : Int) := hd 7 (by kernel_rfl)
              go_simp
              exact ⟨Ext.refl _, rfl⟩
            refine ⟨fun u hu hd => ?_, ?_⟩
            · simp only [Act.put, List.setIfInBounds_toArray, List.set_cons_zero, List.set_cons_succ]
              have e8 : f1 8 = .pointer (some ⟨W.heap.size, k * 4, none⟩) := hd 8 (by kernel_rfl)
              have hu2 := Ext.trans (Ext.drew wr) hu
              have q0 := ext_cell hu2 d0
              have q1 := ext_cell hu2 d1
              have q2 := ext_cell hu2 d2
              have q3 := ext_cell hu2 d3
              go_simp
              exact ⟨Ext.refl _, rfl⟩
            refine ⟨fun u hu hd => ?_, ?_⟩
            · simp only [Act.put, List.setIfInBounds_toArray, List.set_cons_zero, List.set_cons_succ]
              go_simp
              exact ⟨Ext.refl _, rfl⟩
            refine ⟨fun u hu hd => ?_, ?_⟩
            · simp only [Act.put, List.setIfInBounds_toArray, List.set_cons_zero, List.set_cons_succ]
              have e10 : f1 10 = .int .i64 (i : Int) := hd 10 (by kernel_rfl)
              go_simp
              exact ⟨Ext.refl _, rfl⟩
            refine ⟨fun u hu hd => ?_, ?_⟩
            · simp only [Act.put, List.setIfInBounds_toArray, List.set_cons_zero, List.set_cons_succ]
              have e11 : f1 11 = .pointer (some ⟨W.heap.size, i * 4, none⟩) := hd 11 (by kernel_rfl)
              have hu2 := Ext.trans (Ext.drew wr) hu
              have q0 := ext_cell hu2 c0
              have q1 := ext_cell hu2 c1
              have q2 := ext_cell hu2 c2
              have q3 := ext_cell hu2 c3
              go_simp
              exact ⟨Ext.refl _, rfl⟩
            refine ⟨fun u hu hd => ?_, ?_⟩
            · simp only [Act.put, List.setIfInBounds_toArray, List.set_cons_zero, List.set_cons_succ]
              have e9 : f1 9 = .agg #[.slice h.kA f.key.length h.kc, .int .i64 f.seq, .int .i64 f.kind, .slice h.vA f.val.length h.vc] := hd 9 (by kernel_rfl)
              have e12 : f1 12 = .agg #[.slice g.kA e.key.length g.kc, .int .i64 e.seq, .int .i64 e.kind, .slice g.vA e.val.length g.vc] := hd 12 (by kernel_rfl)
              have hu2 := Ext.trans (Ext.drew wr) hu
              obtain ⟨m1, m2, m3⟩ := HWW.out u hu2
              go_simp
              refine (compare_any m2 m1 m3 m3).mono ?_
              rintro x w9 ⟨rfl, hx9⟩
              exact ⟨_, rfl, hx9, by rw [HS.out, ← cmpE_turn]; rfl⟩
            refine ⟨fun u hu hd => ?_, ?_⟩
            · simp only [Act.put, List.setIfInBounds_toArray, List.set_cons_zero, List.set_cons_succ]
              have e13 : f1 13 = .int .i64 (-s) := hd 13 (by kernel_rfl)
              have q1 : IntKind.i64.wrap (- -s) = s := by rw [Int.neg_neg]; rcases HSR.out with h | h | h <;> rw [h] <;> rfl
              have q2 : IntKind.i64.wrap s = s := by rcases HSR.out with h | h | h <;> rw [h] <;> rfl
              go_simp
              exact ⟨Ext.refl _, rfl⟩
            refine ⟨fun u hu hd => ?_, ?_⟩
            · simp only [Act.put, List.setIfInBounds_toArray, List.set_cons_zero, List.set_cons_succ]
              have e6 : f1 6 = .int .i64 s := hd 6 (by kernel_rfl)
              have e14 : f1 14 = .int .i64 s := hd 14 (by kernel_rfl)
              go_simp
              exact ⟨Ext.refl _, rfl⟩
            trivial
        · have e2 : decide ((k : Int) < 3) = false := decide_eq_false (by omega)
          have e2n : decide (k < 3) = false := decide_eq_false hlk
          clear hlk hk
          go_wp2_with fail
          go_roundw
          case rel => exact ⟨i + 1, by omega, by go_num, HXR⟩
          case measure => simp [intOf]; omega
    · have e1 : decide ((i : Int) < 3) = false := decide_eq_false (by omega)
      have e1n : decide (i < 3) = false := decide_eq_false hlt
      clear hlt hi HAT
      obtain ⟨m1, m2, m3, m4, hb⟩ := HEE.out wr HXR.out
      have HC1 := Lib.hid (compare_any m1 m2 m4 m4)
      unfold Ent.at_ at HC1
      have HC2 : Hid (∀ u, Ext wr u → Calls Try.prog 19 #[eb.at_ gb, ec.at_ gc] u fun x w' => x = .returned (.int .i64 (cmpE eb ec)) ∧ Ext u w') := fun u hu => by
        obtain ⟨m1, m2, m3, m4, _⟩ := HEE.out u (Ext.trans HXR.out hu)
        exact compare_any m2 m3 m4 m4
      have HC3 : Hid (∀ u, Ext wr u → Calls Try.prog 19 #[ea.at_ ga, ec.at_ gc] u fun x w' => x = .returned (.int .i64 (cmpE ea ec)) ∧ Ext u w') := fun u hu => by
        obtain ⟨m1, m2, m3, m4, _⟩ := HEE.out u (Ext.trans HXR.out hu)
        exact compare_any m1 m3 m4 m4
      unfold Ent.at_ at HC2 HC3
      obtain ⟨s1, hs1⟩ : ∃ s, s = cmpE ea eb := ⟨_, rfl⟩
      obtain ⟨s2, hs2⟩ : ∃ s, s = cmpE eb ec := ⟨_, rfl⟩
      obtain ⟨s3, hs3⟩ : ∃ s, s = cmpE ea ec := ⟨_, rfl⟩
      have HROW : Hid (s1 ≤ 0 → s2 ≤ 0 → s3 ≤ 0) := by rw [hs1, hs2, hs3]; exact fun h k => cmpE_row h k
      rw [← hs1] at HC1
      rw [← hs2] at HC2
      rw [← hs3] at HC3
      clear hs1 hs2 hs3 m1 m2 m3 m4
      have a0 := cell_of (hb) (k := 0) rfl
      have a1 := cell_of (hb) (k := 1) rfl
      have a2 := cell_of (hb) (k := 2) rfl
      have a3 := cell_of (hb) (k := 3) rfl
      have a4 := cell_of (hb) (k := 4) rfl
      have a5 := cell_of (hb) (k := 5) rfl
      have a6 := cell_of (hb) (k := 6) rfl
      have a7 := cell_of (hb) (k := 7) rfl
      have a8 := cell_of (hb) (k := 8) rfl
      have a9 := cell_of (hb) (k := 9) rfl
      have a10 := cell_of (hb) (k := 10) rfl
      have a11 := cell_of (hb) (k := 11) rfl
      clear hb
      go_wp2_with fail
      refine HC1.out.mono ?_
      rintro x w5 ⟨rfl, hx5⟩
      have HX5 : Hid (Ext wr w5) := hx5
      clear hx5 a0 a1 a2 a3 a4 a5 a6 a7 a8 a9 a10 a11
      by_cases h1 : 0 < s1
      · have t1 : decide (0 < s1) = true := decide_eq_true h1
        go_wp2_with fail
        refine (HFIN.out w5 (Ext.trans HXR.out HX5.out)).mono ?_
        rintro x w6 ⟨rfl, hx6⟩
        go_wp2_with fail
        go_ret
        exact ⟨rfl, hx6.out⟩
      have t1 : decide (0 < s1) = false := decide_eq_false h1
      have HN1 := Lib.hid h1
      clear h1
      obtain hb := (HEE.out w5 (Ext.trans HXR.out HX5.out)).2.2.2.2
      have a0 := cell_of (hb) (k := 0) rfl
      have a1 := cell_of (hb) (k := 1) rfl
      have a2 := cell_of (hb) (k := 2) rfl
      have a3 := cell_of (hb) (k := 3) rfl
      have a4 := cell_of (hb) (k := 4) rfl
      have a5 := cell_of (hb) (k := 5) rfl
      have a6 := cell_of (hb) (k := 6) rfl
      have a7 := cell_of (hb) (k := 7) rfl
      have a8 := cell_of (hb) (k := 8) rfl
      have a9 := cell_of (hb) (k := 9) rfl
      have a10 := cell_of (hb) (k := 10) rfl
      have a11 := cell_of (hb) (k := 11) rfl
      clear hb
      go_wp2_with fail
      refine (HC2.out w5 HX5.out).mono ?_
      rintro x w6 ⟨rfl, hx6⟩
      have HX6 : Hid (Ext wr w6) := Ext.trans HX5.out hx6
      clear hx6 a0 a1 a2 a3 a4 a5 a6 a7 a8 a9 a10 a11
      by_cases h2 : 0 < s2
      · have t2 : decide (0 < s2) = true := decide_eq_true h2
        go_wp2_with fail
        refine (HFIN.out w6 (Ext.trans HXR.out HX6.out)).mono ?_
        rintro x w7 ⟨rfl, hx7⟩
        go_wp2_with fail
        go_ret
        exact ⟨rfl, hx7.out⟩
      have t2 : decide (0 < s2) = false := decide_eq_false h2
      have HN2 := Lib.hid h2
      clear h2
      obtain hb := (HEE.out w6 (Ext.trans HXR.out HX6.out)).2.2.2.2
      have a0 := cell_of (hb) (k := 0) rfl
      have a1 := cell_of (hb) (k := 1) rfl
      have a2 := cell_of (hb) (k := 2) rfl
      have a3 := cell_of (hb) (k := 3) rfl
      have a4 := cell_of (hb) (k := 4) rfl
      have a5 := cell_of (hb) (k := 5) rfl
      have a6 := cell_of (hb) (k := 6) rfl
      have a7 := cell_of (hb) (k := 7) rfl
      have a8 := cell_of (hb) (k := 8) rfl
      have a9 := cell_of (hb) (k := 9) rfl
      have a10 := cell_of (hb) (k := 10) rfl
      have a11 := cell_of (hb) (k := 11) rfl
      clear hb
      have t3 : decide (s3 ≤ 0) = true := decide_eq_true (HROW.out (by have := HN1.out; omega) (by have := HN2.out; omega))
      go_wp2_with fail
      refine (HC3.out w6 HX6.out).mono ?_
      rintro x w7 ⟨rfl, hx7⟩
      have HX7 : Hid (Ext wr w7) := Ext.trans HX6.out hx7
      clear hx7 a0 a1 a2 a3 a4 a5 a6 a7 a8 a9 a10 a11
      go_wp2_with fail
      refine (HFIN.out w7 (Ext.trans HXR.out HX7.out)).mono ?_
      rintro x w8 ⟨rfl, hx8⟩
      go_wp2_with fail
      go_ret
      exact ⟨rfl, hx8.out⟩
end Go.Proofs.Ytfalpagimmaipaa.ikeyOrder
