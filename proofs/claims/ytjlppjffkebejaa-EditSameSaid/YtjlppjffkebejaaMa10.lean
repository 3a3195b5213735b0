/- Lesame, joined. -/
import Derived.Test.YtjlppjffkebejaaMa8

/- The law EditSame, where its known sentence is given. -/
namespace Go.Proofs.Ytjlppjffkebejaa
open Go.ChangeShapes Go.WideShapes Go.ChangeAt Go.RowKit

set_option maxRecDepth 100000 in
set_option maxHeartbeats 4000000 in
theorem lesame_any {w : World} {A A2 : Option Addr} {c cc : Nat} {L R : List (Tab × TabH)} (V W : Ver) (h : tabs w 0 w.heap.size A L) (h2 : tabs w 0 w.heap.size A2 R)
    (hk : ∀ u, Ext w u → Calls Try.prog 19 #[] u fun e w' => e = .returned (.bool true) ∧ Ext u w') :
    Calls Try.prog 6 #[.agg #[.int .i64 V.next, .int .i64 V.log, .int .i64 V.index, .int .i64 V.seq, .slice A L.length c], .agg #[.int .i64 W.next, .int .i64 W.log, .int .i64 W.index, .int .i64 W.seq, .slice A2 R.length cc]] w fun e w' => e = .returned (.bool true) ∧ Ext w w' := by
  obtain ⟨w1, hw1⟩ : ∃ w1, w1 = (w.alloc (.cells #[.int .i64 V.next, .int .i64 V.log, .int .i64 V.index, .int .i64 V.seq, .slice A L.length c] 36)).alloc (.cells #[.int .i64 W.next, .int .i64 W.log, .int .i64 W.index, .int .i64 W.seq, .slice A2 R.length cc] 36) := ⟨_, rfl⟩
  have HX : Hid (Ext w w1) := by rw [hw1]; exact Ext.trans (ext_alloc _ _) (ext_alloc _ _)
  have HV : Hid (w1.heap[w.heap.size]? = some (.cells #[.int .i64 V.next, .int .i64 V.log, .int .i64 V.index, .int .i64 V.seq, .slice A L.length c] 36 (0, 0))) := by rw [hw1]; exact ext_heap (ext_alloc _ _) (heap_at _ _ rfl)
  have HW : Hid (w1.heap[w.heap.size + 1]? = some (.cells #[.int .i64 W.next, .int .i64 W.log, .int .i64 W.index, .int .i64 W.seq, .slice A2 R.length cc] 36 (0, 0))) := by rw [hw1]; exact heap_at _ _ (by simp)
  have HK : Hid (∀ u, Ext w1 u → Calls Try.prog 19 #[] u fun e w' => e = .returned (.bool true) ∧ Ext u w') := fun u hu => hk u (Ext.trans HX.out hu)
  have c0 := cell_of HV.out (k := 0) rfl
  have d0 := cell_of HW.out (k := 0) rfl
  have c1 := cell_of HV.out (k := 1) rfl
  have d1 := cell_of HW.out (k := 1) rfl
  have c2 := cell_of HV.out (k := 2) rfl
  have d2 := cell_of HW.out (k := 2) rfl
  have c3 := cell_of HV.out (k := 3) rfl
  have d3 := cell_of HW.out (k := 3) rfl
  have c4 := cell_of HV.out (k := 4) rfl
  have d4 := cell_of HW.out (k := 4) rfl
  by_cases hlt : 50 < L.length
  · have e1 : decide ((50 : Int) < (L.length : Int)) = true := by simp; omega
    have e2 : decide (50 < L.length) = true := by simp; omega
    have HK1 := Lib.hid (HK.out w1 (Ext.refl _))
    clear hk h h2 c0 c1 c2 c3 d0 d1 d2 d3 hlt
    go_enter Try.func6, Try.ntmps6
    rw [hw1] at c4 d4 HK1
    go_wp2_with fail
    refine Calls.mono HK1.out ?_
    rintro e w2 ⟨rfl, hx2⟩
    rw [← hw1] at hx2
    have HX2 : Hid (Ext w w2) := Ext.trans HX.out hx2
    clear hx2
    go_wp2_with fail
    go_ret
    exact ⟨rfl, HX2.out⟩
  have e1 : decide ((50 : Int) < (L.length : Int)) = false := by simp; omega
  have e2 : decide (50 < L.length) = false := by simp; omega
  by_cases hlt2 : 50 < R.length
  · have e3 : decide ((50 : Int) < (R.length : Int)) = true := by simp; omega
    have e4 : decide (50 < R.length) = true := by simp; omega
    have HK1 := Lib.hid (HK.out w1 (Ext.refl _))
    clear hk h h2 c0 c1 c2 c3 d0 d1 d2 d3 hlt hlt2
    go_enter Try.func6, Try.ntmps6
    rw [hw1] at c4 d4 HK1
    go_wp2_with fail
    refine Calls.mono HK1.out ?_
    rintro e w2 ⟨rfl, hx2⟩
    rw [← hw1] at hx2
    have HX2 : Hid (Ext w w2) := Ext.trans HX.out hx2
    clear hx2
    go_wp2_with fail
    go_ret
    exact ⟨rfl, HX2.out⟩
  · have e3 : decide ((50 : Int) < (R.length : Int)) = false := by simp; omega
    have e4 : decide (50 < R.length) = false := by simp; omega
    obtain ⟨z, hz⟩ : ∃ z : Bool, z = true ↔ V = W ∧ L.map Prod.fst = R.map Prod.fst := by
      by_cases hv : V = W ∧ L.map Prod.fst = R.map Prod.fst
      · exact ⟨true, fun _ => hv, fun _ => rfl⟩
      · exact ⟨false, fun h => (by cases h), fun h => absurd h hv⟩
    have HM : Hid (∀ u, Ext w1 u → Calls Try.prog 27 #[.agg #[.int .i64 V.next, .int .i64 V.log, .int .i64 V.index, .int .i64 V.seq, .slice A L.length c], .agg #[.int .i64 W.next, .int .i64 W.log, .int .i64 W.index, .int .i64 W.seq, .slice A2 R.length cc]] u fun e w' => e = .returned (.bool z) ∧ Ext u w') := fun u hu =>
      (vsame_any (c := c) (c2 := cc) V W (h.up (Ext.trans HX.out hu)) (h2.up (Ext.trans HX.out hu)) (by omega) (by omega)).mono fun e w' ⟨y, hy, he, hx⟩ => ⟨by rw [he, show y = z by rw [Bool.eq_iff_iff, hy, hz]], hx⟩
    have HR : Hid (∀ u, Ext w1 u → Calls Try.prog 26 #[.agg #[.int .i64 V.next, .int .i64 V.log, .int .i64 V.index, .int .i64 V.seq, .slice A L.length c], .agg #[.int .i64 W.next, .int .i64 W.log, .int .i64 W.index, .int .i64 W.seq, .slice A2 R.length cc]] u fun e w' => e = .returned (.bool z) ∧ Ext u w') := fun u hu =>
      (rsame_any (c := c) (c2 := cc) V W (h.up (Ext.trans HX.out hu)) (h2.up (Ext.trans HX.out hu)) (by omega) (by omega)).mono fun e w' ⟨y, hy, he, hx⟩ => ⟨by rw [he, show y = z by rw [Bool.eq_iff_iff, hy, hz]], hx⟩
    have HS : Hid (∀ u, Ext w1 u → Calls Try.prog 27 #[.agg #[.int .i64 V.next, .int .i64 V.log, .int .i64 V.index, .int .i64 V.seq, .slice A L.length c], .agg #[.int .i64 V.next, .int .i64 V.log, .int .i64 V.index, .int .i64 V.seq, .slice A L.length c]] u fun e w' => e = .returned (.bool true) ∧ Ext u w') := fun u hu =>
      (vsame_any (c := c) (c2 := c) V V (h.up (Ext.trans HX.out hu)) (h.up (Ext.trans HX.out hu)) (by omega) (by omega)).mono fun e w' ⟨y, hy, he, hx⟩ => ⟨by rw [he, show y = true from hy.2 ⟨rfl, rfl⟩], hx⟩
    have e5 : (z == z) = true := by simp
    clear hk hlt hlt2 h h2 hz
    go_enter Try.func6, Try.ntmps6
    have k4 := c4
    have m4 := d4
    rw [hw1] at k4 m4
    go_upto_region 3 with (fail)
    rw [← hw1]
    clear hw1 k4 m4
    refine flow (by kernel_rfl) [Is (.agg #[.int .i64 V.next, .int .i64 V.log, .int .i64 V.index, .int .i64 V.seq, .slice A L.length c]), Is (.agg #[.int .i64 W.next, .int .i64 W.log, .int .i64 W.index, .int .i64 W.seq, .slice A2 R.length cc]), Is (.bool z), Is (.agg #[.int .i64 V.next, .int .i64 V.log, .int .i64 V.index, .int .i64 V.seq, .slice A L.length c]), Is (.agg #[.int .i64 W.next, .int .i64 W.log, .int .i64 W.index, .int .i64 W.seq, .slice A2 R.length cc]), Is (.bool z), Is (.bool true), Is (.bool true), Is (.agg #[.int .i64 V.next, .int .i64 V.log, .int .i64 V.index, .int .i64 V.seq, .slice A L.length c]), Is (.agg #[.int .i64 V.next, .int .i64 V.log, .int .i64 V.index, .int .i64 V.seq, .slice A L.length c]), Is (.bool true), Is (.bool true), Is (.bool true), Is (.bool true), Is (.bool true), Is (.bool true)] (by kernel_rfl) (by kernel_rfl) ?mono (fun f1 => ?obl) ?fin
    case mono =>
      simp only [List.forall_mem_cons, List.not_mem_nil, false_imp_iff, implies_true, and_true]
      exact ⟨.is _, .is _, .is _, .is _, .is _, .is _, .is _, .is _, .is _, .is _, .is _, .is _, .is _, .is _, .is _, .is _⟩
    case fin =>
      intro g1 u hu hg
      simp only [puts, Act.put, List.setIfInBounds_toArray, List.set_cons_zero, List.set_cons_succ]
      have hl : g1 15 = .bool true := hg 15 (by decide)
      have h7 : g1 14 = .bool true := hg 14 (by decide)
      rw [hl]
      have HXU : Hid (Ext w u) := Ext.trans HX.out (Ext.trans (Ext.drew w1) hu)
      clear hl h7 hg hu c0 c1 c2 c3 c4 d0 d1 d2 d3 d4
      go_wp2_with fail
      go_ret
      exact ⟨rfl, HXU.out⟩
    case obl =>
      refine ⟨fun u hu hd => ?_, ?_⟩
      · have hu2 := Ext.trans (Ext.drew w1) hu
        have q0 := ext_cell hu2 c0
        have q1 := ext_cell hu2 c1
        have q2 := ext_cell hu2 c2
        have q3 := ext_cell hu2 c3
        have q4 := ext_cell hu2 c4
        go_simp
        exact ⟨Ext.refl _, rfl⟩
      refine ⟨fun u hu hd => ?_, ?_⟩
      · simp only [Act.put, List.setIfInBounds_toArray, List.set_cons_zero, List.set_cons_succ]
        have hu2 := Ext.trans (Ext.drew w1) hu
        have q0 := ext_cell hu2 d0
        have q1 := ext_cell hu2 d1
        have q2 := ext_cell hu2 d2
        have q3 := ext_cell hu2 d3
        have q4 := ext_cell hu2 d4
        go_simp
        exact ⟨Ext.refl _, rfl⟩
      refine ⟨fun u hu hd => ?_, ?_⟩
      · simp only [Act.put, List.setIfInBounds_toArray, List.set_cons_zero, List.set_cons_succ]
        have e0 : f1 0 = .agg #[.int .i64 V.next, .int .i64 V.log, .int .i64 V.index, .int .i64 V.seq, .slice A L.length c] := hd 0 (by kernel_rfl)
        have e1 : f1 1 = .agg #[.int .i64 W.next, .int .i64 W.log, .int .i64 W.index, .int .i64 W.seq, .slice A2 R.length cc] := hd 1 (by kernel_rfl)
        go_simp
        refine (HM.out u (Ext.trans (Ext.drew w1) hu)).mono ?_
        rintro x w9 ⟨rfl, hb9⟩
        exact ⟨_, rfl, hb9, rfl⟩
      refine ⟨fun u hu hd => ?_, ?_⟩
      · simp only [Act.put, List.setIfInBounds_toArray, List.set_cons_zero, List.set_cons_succ]
        have hu2 := Ext.trans (Ext.drew w1) hu
        have q0 := ext_cell hu2 c0
        have q1 := ext_cell hu2 c1
        have q2 := ext_cell hu2 c2
        have q3 := ext_cell hu2 c3
        have q4 := ext_cell hu2 c4
        go_simp
        exact ⟨Ext.refl _, rfl⟩
      refine ⟨fun u hu hd => ?_, ?_⟩
      · simp only [Act.put, List.setIfInBounds_toArray, List.set_cons_zero, List.set_cons_succ]
        have hu2 := Ext.trans (Ext.drew w1) hu
        have q0 := ext_cell hu2 d0
        have q1 := ext_cell hu2 d1
        have q2 := ext_cell hu2 d2
        have q3 := ext_cell hu2 d3
        have q4 := ext_cell hu2 d4
        go_simp
        exact ⟨Ext.refl _, rfl⟩
      refine ⟨fun u hu hd => ?_, ?_⟩
      · simp only [Act.put, List.setIfInBounds_toArray, List.set_cons_zero, List.set_cons_succ]
        have e3 : f1 3 = .agg #[.int .i64 V.next, .int .i64 V.log, .int .i64 V.index, .int .i64 V.seq, .slice A L.length c] := hd 3 (by kernel_rfl)
        have e4 : f1 4 = .agg #[.int .i64 W.next, .int .i64 W.log, .int .i64 W.index, .int .i64 W.seq, .slice A2 R.length cc] := hd 4 (by kernel_rfl)
        go_simp
        refine (HR.out u (Ext.trans (Ext.drew w1) hu)).mono ?_
        rintro x w9 ⟨rfl, hb9⟩
        exact ⟨_, rfl, hb9, rfl⟩
      refine ⟨fun u hu hd => ?_, ?_⟩
      · simp only [Act.put, List.setIfInBounds_toArray, List.set_cons_zero, List.set_cons_succ]
        have e2 : f1 2 = .bool z := hd 2 (by kernel_rfl)
        have e5 : f1 5 = .bool z := hd 5 (by kernel_rfl)
        go_simp
        exact ⟨Ext.refl _, rfl⟩
      refine ⟨fun u hu hd => ?_, ?_⟩
      · simp only [Act.put, List.setIfInBounds_toArray, List.set_cons_zero, List.set_cons_succ]
        have e6 : f1 6 = .bool true := hd 6 (by kernel_rfl)
        go_simp
        exact ⟨Ext.refl _, rfl⟩
      refine ⟨fun u hu hd => ?_, ?_⟩
      · simp only [Act.put, List.setIfInBounds_toArray, List.set_cons_zero, List.set_cons_succ]
        have e7 : f1 7 = .bool true := hd 7 (by kernel_rfl)
        have hu2 := Ext.trans (Ext.drew w1) hu
        have q0 := ext_cell hu2 c0
        have q1 := ext_cell hu2 c1
        have q2 := ext_cell hu2 c2
        have q3 := ext_cell hu2 c3
        have q4 := ext_cell hu2 c4
        go_simp
        exact ⟨Ext.refl _, rfl⟩
      refine ⟨fun u hu hd => ?_, ?_⟩
      · simp only [Act.put, List.setIfInBounds_toArray, List.set_cons_zero, List.set_cons_succ]
        have e7 : f1 7 = .bool true := hd 7 (by kernel_rfl)
        have hu2 := Ext.trans (Ext.drew w1) hu
        have q0 := ext_cell hu2 c0
        have q1 := ext_cell hu2 c1
        have q2 := ext_cell hu2 c2
        have q3 := ext_cell hu2 c3
        have q4 := ext_cell hu2 c4
        go_simp
        exact ⟨Ext.refl _, rfl⟩
      refine ⟨fun u hu hd => ?_, ?_⟩
      · simp only [Act.put, List.setIfInBounds_toArray, List.set_cons_zero, List.set_cons_succ]
        have e7 : f1 7 = .bool true := hd 7 (by kernel_rfl)
        have e8 : f1 8 = .agg #[.int .i64 V.next, .int .i64 V.log, .int .i64 V.index, .int .i64 V.seq, .slice A L.length c] := hd 8 (by kernel_rfl)
        have e9 : f1 9 = .agg #[.int .i64 V.next, .int .i64 V.log, .int .i64 V.index, .int .i64 V.seq, .slice A L.length c] := hd 9 (by kernel_rfl)
        go_simp
        refine (HS.out u (Ext.trans (Ext.drew w1) hu)).mono ?_
        rintro x w9 ⟨rfl, hb9⟩
        exact ⟨_, rfl, hb9, rfl⟩
      refine ⟨fun u hu hd => ?_, ?_⟩
      · simp only [Act.put, List.setIfInBounds_toArray, List.set_cons_zero, List.set_cons_succ]
        have e7 : f1 7 = .bool true := hd 7 (by kernel_rfl)
        have e10 : f1 10 = .bool true := hd 10 (by kernel_rfl)
        go_simp
        exact ⟨Ext.refl _, rfl⟩
      refine ⟨fun u hu hd => ?_, ?_⟩
      · simp only [Act.put, List.setIfInBounds_toArray, List.set_cons_zero, List.set_cons_succ]
        have e11 : f1 11 = .bool true := hd 11 (by kernel_rfl)
        go_simp
        exact ⟨Ext.refl _, rfl⟩
      refine ⟨fun u hu hd => ?_, ?_⟩
      · simp only [Act.put, List.setIfInBounds_toArray, List.set_cons_zero, List.set_cons_succ]
        have e12 : f1 12 = .bool true := hd 12 (by kernel_rfl)
        go_simp
        refine (HK.out u (Ext.trans (Ext.drew w1) hu)).mono ?_
        rintro x w9 ⟨rfl, hb9⟩
        exact ⟨_, rfl, hb9, rfl⟩
      refine ⟨fun u hu hd => ?_, ?_⟩
      · simp only [Act.put, List.setIfInBounds_toArray, List.set_cons_zero, List.set_cons_succ]
        have e12 : f1 12 = .bool true := hd 12 (by kernel_rfl)
        have e13 : f1 13 = .bool true := hd 13 (by kernel_rfl)
        go_simp
        exact ⟨Ext.refl _, rfl⟩
      refine ⟨fun u hu hd => ?_, ?_⟩
      · simp only [Act.put, List.setIfInBounds_toArray, List.set_cons_zero, List.set_cons_succ]
        have e14 : f1 14 = .bool true := hd 14 (by kernel_rfl)
        go_simp
        exact ⟨Ext.refl _, rfl⟩
      trivial
end Go.Proofs.Ytjlppjffkebejaa
