/- IkeyCompares: entries, and keys, are compared as the chapter says. -/
import Derived.Test.YtfalpagimmaipaaIref
import Derived.Test.YtfalpagimmaipaaIknown
namespace Go.Proofs.Ytfalpagimmaipaa.ikeyCompares
open Go.ChangeShapes Go.WideShapes Go.ChangeAt Go.RowKit

set_option maxRecDepth 100000 in
set_option maxHeartbeats 8000000 in
theorem walk (W : World) (a : Ent) (g : Hd) (ha : Em W 0 W.heap.size a g) (l1 : a.key.length ≤ 140737488351232) (l2 : a.val.length ≤ 140737488351232) (b : Ent) (h : Hd) (hb : Em W 0 W.heap.size b h) (l3 : b.key.length ≤ 140737488351232) (l4 : b.val.length ≤ 140737488351232) :
    Calls Try.prog 4 #[a.at_ g, b.at_ h] W fun e w' => e = .returned (.bool true) ∧ Below W.heap.size W w' := by
  obtain ⟨w1, hw1⟩ : ∃ w1, w1 = (W.alloc (.cells #[.slice g.kA a.key.length g.kc, .int .i64 a.seq, .int .i64 a.kind, .slice g.vA a.val.length g.vc] 25)).alloc (.cells #[.slice h.kA b.key.length h.kc, .int .i64 b.seq, .int .i64 b.kind, .slice h.vA b.val.length h.vc] 25) := ⟨_, rfl⟩
  have HX1 : Hid (Ext W w1) := by rw [hw1]; exact Ext.trans (ext_alloc _ _) (ext_alloc _ _)
  have HB1 : Hid (w1.heap[W.heap.size]? = some (.cells #[.slice g.kA a.key.length g.kc, .int .i64 a.seq, .int .i64 a.kind, .slice g.vA a.val.length g.vc] 25 (0, 0))) := by rw [hw1]; exact ext_heap (ext_alloc _ _) (heap_at _ _ rfl)
  have HB2 : Hid (w1.heap[W.heap.size + 1]? = some (.cells #[.slice h.kA b.key.length h.kc, .int .i64 b.seq, .int .i64 b.kind, .slice h.vA b.val.length h.vc] 25 (0, 0))) := by rw [hw1]; exact heap_at _ _ (by simp)
  have HA := Lib.hid ha
  have HB := Lib.hid hb
  have HL1 := Lib.hid (long_any (w := w1) (g := g) l1 l2)
  have HL2 : Hid (∀ u, Calls Try.prog 13 #[b.at_ h] u fun x w' => x = .returned (.bool (decide (100000 < b.key.length + b.val.length))) ∧ Ext u w') := fun u => long_any (w := u) (g := h) l3 l4
  have HKL := Lib.hid (And.intro l1 l3)
  clear ha hb l1 l2 l3 l4
  unfold Ent.at_ at HL1 HL2 ⊢
  obtain ⟨z1, hz1⟩ : ∃ z, z = decide (100000 < a.key.length + a.val.length) := ⟨_, rfl⟩
  obtain ⟨z2, hz2⟩ : ∃ z, z = decide (100000 < b.key.length + b.val.length) := ⟨_, rfl⟩
  rw [← hz1] at HL1
  rw [← hz2] at HL2
  clear hz1 hz2
  obtain ⟨z, hz⟩ : ∃ z : Bool, (z = true ↔ a = b) := by
    by_cases e : a = b
    · exact ⟨true, by simp [e]⟩
    · exact ⟨false, by simp [e]⟩
  have HZ := Lib.hid hz
  clear hz
  go_enter Try.func4, Try.ntmps4
  go_wp2_with fail
  rw [← hw1]
  clear hw1
  refine Calls.mono HL1.out ?_
  rintro x w2 ⟨rfl, hx2⟩
  have HX2 := Lib.hid hx2
  clear hx2
  rcases z1 with _ | _
  rotate_left
  · go_wp2_with fail
    refine (known_any w2).mono ?_
    rintro x w3 ⟨rfl, hx3⟩
    have HX3 := Lib.hid (Ext.trans HX1.out (Ext.trans HX2.out hx3))
    clear hx3
    go_wp2_with fail
    go_ret
    exact ⟨rfl, HX3.out⟩
  · have q0 := cell_of (ext_heap HX2.out HB2.out) (k := 0) rfl
    have q1 := cell_of (ext_heap HX2.out HB2.out) (k := 1) rfl
    have q2 := cell_of (ext_heap HX2.out HB2.out) (k := 2) rfl
    have q3 := cell_of (ext_heap HX2.out HB2.out) (k := 3) rfl
    go_wp2_with fail
    refine (HL2.out w2).mono ?_
    rintro x w3 ⟨rfl, hx3⟩
    have HX3 : Hid (Ext w1 w3) := Ext.trans HX2.out hx3
    clear hx3 q0 q1 q2 q3
    rcases z2 with _ | _
    rotate_left
    · go_wp2_with fail
      refine (known_any w3).mono ?_
      rintro x w4 ⟨rfl, hx4⟩
      have HX4 := Lib.hid (Ext.trans HX1.out (Ext.trans HX3.out hx4))
      clear hx4
      go_wp2_with fail
      go_ret
      exact ⟨rfl, HX4.out⟩
    · have HXW := Lib.hid (Ext.trans HX1.out HX3.out)
      have HAE : Hid (∀ u, Ext w3 u → Em u 0 W.heap.size a g ∧ Em u 0 W.heap.size b h ∧ W.heap.size ≤ u.heap.size) := fun u hu => ⟨HA.out.below (Ext.trans HXW.out hu) (Nat.le_refl _), HB.out.below (Ext.trans HXW.out hu) (Nat.le_refl _), (Ext.trans HXW.out hu).size⟩
      have a0 := cell_of (ext_heap HX3.out HB1.out) (k := 0) rfl
      have a1 := cell_of (ext_heap HX3.out HB1.out) (k := 1) rfl
      have a2 := cell_of (ext_heap HX3.out HB1.out) (k := 2) rfl
      have a3 := cell_of (ext_heap HX3.out HB1.out) (k := 3) rfl
      have b0 := cell_of (ext_heap HX3.out HB2.out) (k := 0) rfl
      have b1 := cell_of (ext_heap HX3.out HB2.out) (k := 1) rfl
      have b2 := cell_of (ext_heap HX3.out HB2.out) (k := 2) rfl
      have b3 := cell_of (ext_heap HX3.out HB2.out) (k := 3) rfl
      go_upto_region 3 with (fail)
      refine flow (by kernel_rfl) [Is (.agg #[.slice g.kA a.key.length g.kc, .int .i64 a.seq, .int .i64 a.kind, .slice g.vA a.val.length g.vc]), Is (.agg #[.slice h.kA b.key.length h.kc, .int .i64 b.seq, .int .i64 b.kind, .slice h.vA b.val.length h.vc]), Is (.int .i64 (cmpE a b)), Is (.agg #[.slice g.kA a.key.length g.kc, .int .i64 a.seq, .int .i64 a.kind, .slice g.vA a.val.length g.vc]), Is (.agg #[.slice h.kA b.key.length h.kc, .int .i64 b.seq, .int .i64 b.kind, .slice h.vA b.val.length h.vc]), Is (.int .i64 (cmpE a b)), Is (.bool true), Is (.bool true), Is (.pointer (some ⟨W.heap.size, 0, none⟩)), Is (.slice g.kA a.key.length g.kc), Is (.pointer (some ⟨W.heap.size + 1, 0, none⟩)), Is (.slice h.kA b.key.length h.kc), Is (.int .i64 (cmpK a.key b.key)), Is (.pointer (some ⟨W.heap.size, 0, none⟩)), Is (.slice g.kA a.key.length g.kc), Is (.pointer (some ⟨W.heap.size + 1, 0, none⟩)), Is (.slice h.kA b.key.length h.kc), Is (.int .i64 (cmpK a.key b.key)), Is (.bool true), Is (.bool true), Is (.bool true), Is (.agg #[.slice g.kA a.key.length g.kc, .int .i64 a.seq, .int .i64 a.kind, .slice g.vA a.val.length g.vc]), Is (.agg #[.slice h.kA b.key.length h.kc, .int .i64 b.seq, .int .i64 b.kind, .slice h.vA b.val.length h.vc]), Is (.bool z), Is (.agg #[.slice g.kA a.key.length g.kc, .int .i64 a.seq, .int .i64 a.kind, .slice g.vA a.val.length g.vc]), Is (.agg #[.slice h.kA b.key.length h.kc, .int .i64 b.seq, .int .i64 b.kind, .slice h.vA b.val.length h.vc]), Is (.bool z), Is (.bool true), Is (.bool true), Is (.bool true), Is (.bool true), Is (.bool true), Is (.bool true)] (by kernel_rfl) (by kernel_rfl) ?mono (fun f1 => ?obl) ?fin
      case mono =>
        simp only [List.forall_mem_cons, List.not_mem_nil, false_imp_iff, implies_true, and_true]
        exact ⟨.is _, .is _, .is _, .is _, .is _, .is _, .is _, .is _, .is _, .is _, .is _, .is _, .is _, .is _, .is _, .is _, .is _, .is _, .is _, .is _, .is _, .is _, .is _, .is _, .is _, .is _, .is _, .is _, .is _, .is _, .is _, .is _, .is _⟩
      case fin =>
        intro g1 u hu hg
        simp only [puts, Act.put, List.setIfInBounds_toArray, List.set_cons_zero, List.set_cons_succ]
        have h32 : g1 32 = .bool true := hg 32 (by decide)
        rw [h32]
        have HU := Lib.hid (Ext.trans HXW.out (Ext.trans (Ext.drew w3) hu))
        clear h32 hg hu a0 a1 a2 a3 b0 b1 b2 b3
        go_wp2_with fail
        go_ret
        exact ⟨rfl, HU.out⟩
      case obl =>
        refine ⟨fun u hu hd => ?_, ?_⟩
        · have hu2 := Ext.trans (Ext.drew w3) hu
          have q0 := ext_cell hu2 a0
          have q1 := ext_cell hu2 a1
          have q2 := ext_cell hu2 a2
          have q3 := ext_cell hu2 a3
          go_simp
          exact ⟨Ext.refl _, rfl⟩
        refine ⟨fun u hu hd => ?_, ?_⟩
        · simp only [Act.put, List.setIfInBounds_toArray, List.set_cons_zero, List.set_cons_succ]
          have hu2 := Ext.trans (Ext.drew w3) hu
          have q0 := ext_cell hu2 b0
          have q1 := ext_cell hu2 b1
          have q2 := ext_cell hu2 b2
          have q3 := ext_cell hu2 b3
          go_simp
          exact ⟨Ext.refl _, rfl⟩
        refine ⟨fun u hu hd => ?_, ?_⟩
        · simp only [Act.put, List.setIfInBounds_toArray, List.set_cons_zero, List.set_cons_succ]
          have e0 : f1 0 = .agg #[.slice g.kA a.key.length g.kc, .int .i64 a.seq, .int .i64 a.kind, .slice g.vA a.val.length g.vc] := hd 0 (by kernel_rfl)
          have e1 : f1 1 = .agg #[.slice h.kA b.key.length h.kc, .int .i64 b.seq, .int .i64 b.kind, .slice h.vA b.val.length h.vc] := hd 1 (by kernel_rfl)
          have hu2 := Ext.trans (Ext.drew w3) hu
          obtain ⟨m1, m2, m3⟩ := HAE.out u hu2
          go_simp
          refine (compare_any m1 m2 m3 m3).mono ?_
          rintro x w9 ⟨rfl, hx9⟩
          exact ⟨_, rfl, hx9, rfl⟩
        refine ⟨fun u hu hd => ?_, ?_⟩
        · simp only [Act.put, List.setIfInBounds_toArray, List.set_cons_zero, List.set_cons_succ]
          have hu2 := Ext.trans (Ext.drew w3) hu
          have q0 := ext_cell hu2 a0
          have q1 := ext_cell hu2 a1
          have q2 := ext_cell hu2 a2
          have q3 := ext_cell hu2 a3
          go_simp
          exact ⟨Ext.refl _, rfl⟩
        refine ⟨fun u hu hd => ?_, ?_⟩
        · simp only [Act.put, List.setIfInBounds_toArray, List.set_cons_zero, List.set_cons_succ]
          have hu2 := Ext.trans (Ext.drew w3) hu
          have q0 := ext_cell hu2 b0
          have q1 := ext_cell hu2 b1
          have q2 := ext_cell hu2 b2
          have q3 := ext_cell hu2 b3
          go_simp
          exact ⟨Ext.refl _, rfl⟩
        refine ⟨fun u hu hd => ?_, ?_⟩
        · simp only [Act.put, List.setIfInBounds_toArray, List.set_cons_zero, List.set_cons_succ]
          have e3 : f1 3 = .agg #[.slice g.kA a.key.length g.kc, .int .i64 a.seq, .int .i64 a.kind, .slice g.vA a.val.length g.vc] := hd 3 (by kernel_rfl)
          have e4 : f1 4 = .agg #[.slice h.kA b.key.length h.kc, .int .i64 b.seq, .int .i64 b.kind, .slice h.vA b.val.length h.vc] := hd 4 (by kernel_rfl)
          have hu2 := Ext.trans (Ext.drew w3) hu
          obtain ⟨m1, m2, m3⟩ := HAE.out u hu2
          go_simp
          refine (rcompare_any m1 m2 m3 m3 HKL.out.1 HKL.out.2).mono ?_
          rintro x w9 ⟨rfl, hx9⟩
          exact ⟨_, rfl, hx9, rfl⟩
        refine ⟨fun u hu hd => ?_, ?_⟩
        · simp only [Act.put, List.setIfInBounds_toArray, List.set_cons_zero, List.set_cons_succ]
          have e2 : f1 2 = .int .i64 (cmpE a b) := hd 2 (by kernel_rfl)
          have e5 : f1 5 = .int .i64 (cmpE a b) := hd 5 (by kernel_rfl)
          go_simp
          exact ⟨Ext.refl _, rfl⟩
        refine ⟨fun u hu hd => ?_, ?_⟩
        · simp only [Act.put, List.setIfInBounds_toArray, List.set_cons_zero, List.set_cons_succ]
          have e6 : f1 6 = .bool true := hd 6 (by kernel_rfl)
          go_simp
          exact ⟨Ext.refl _, rfl⟩
        refine ⟨fun u hu hd => ?_, ?_⟩
        · simp only [Act.put, List.setIfInBounds_toArray, List.set_cons_zero, List.set_cons_succ]
          have e7 : f1 7 = .bool true := hd 7 (by kernel_rfl)
          go_simp
          exact ⟨Ext.refl _, rfl⟩
        refine ⟨fun u hu hd => ?_, ?_⟩
        · simp only [Act.put, List.setIfInBounds_toArray, List.set_cons_zero, List.set_cons_succ]
          have e7 : f1 7 = .bool true := hd 7 (by kernel_rfl)
          have e8 : f1 8 = .pointer (some ⟨W.heap.size, 0, none⟩) := hd 8 (by kernel_rfl)
          have hu2 := Ext.trans (Ext.drew w3) hu
          have q0 := ext_cell hu2 a0
          go_simp
          exact ⟨Ext.refl _, rfl⟩
        refine ⟨fun u hu hd => ?_, ?_⟩
        · simp only [Act.put, List.setIfInBounds_toArray, List.set_cons_zero, List.set_cons_succ]
          have e7 : f1 7 = .bool true := hd 7 (by kernel_rfl)
          go_simp
          exact ⟨Ext.refl _, rfl⟩
        refine ⟨fun u hu hd => ?_, ?_⟩
        · simp only [Act.put, List.setIfInBounds_toArray, List.set_cons_zero, List.set_cons_succ]
          have e7 : f1 7 = .bool true := hd 7 (by kernel_rfl)
          have e10 : f1 10 = .pointer (some ⟨W.heap.size + 1, 0, none⟩) := hd 10 (by kernel_rfl)
          have hu2 := Ext.trans (Ext.drew w3) hu
          have q0 := ext_cell hu2 b0
          go_simp
          exact ⟨Ext.refl _, rfl⟩
        refine ⟨fun u hu hd => ?_, ?_⟩
        · simp only [Act.put, List.setIfInBounds_toArray, List.set_cons_zero, List.set_cons_succ]
          have e7 : f1 7 = .bool true := hd 7 (by kernel_rfl)
          have e9 : f1 9 = .slice g.kA a.key.length g.kc := hd 9 (by kernel_rfl)
          have e11 : f1 11 = .slice h.kA b.key.length h.kc := hd 11 (by kernel_rfl)
          have hu2 := Ext.trans (Ext.drew w3) hu
          obtain ⟨m1, m2, m3⟩ := HAE.out u hu2
          go_simp
          refine (keys_any m1.k m2.k m1.bk m2.bk).mono ?_
          rintro x w9 ⟨rfl, rfl⟩
          exact ⟨_, rfl, Ext.refl _, rfl⟩
        refine ⟨fun u hu hd => ?_, ?_⟩
        · simp only [Act.put, List.setIfInBounds_toArray, List.set_cons_zero, List.set_cons_succ]
          have e7 : f1 7 = .bool true := hd 7 (by kernel_rfl)
          go_simp
          exact ⟨Ext.refl _, rfl⟩
        refine ⟨fun u hu hd => ?_, ?_⟩
        · simp only [Act.put, List.setIfInBounds_toArray, List.set_cons_zero, List.set_cons_succ]
          have e7 : f1 7 = .bool true := hd 7 (by kernel_rfl)
          have e13 : f1 13 = .pointer (some ⟨W.heap.size, 0, none⟩) := hd 13 (by kernel_rfl)
          have hu2 := Ext.trans (Ext.drew w3) hu
          have q0 := ext_cell hu2 a0
          go_simp
          exact ⟨Ext.refl _, rfl⟩
        refine ⟨fun u hu hd => ?_, ?_⟩
        · simp only [Act.put, List.setIfInBounds_toArray, List.set_cons_zero, List.set_cons_succ]
          have e7 : f1 7 = .bool true := hd 7 (by kernel_rfl)
          go_simp
          exact ⟨Ext.refl _, rfl⟩
        refine ⟨fun u hu hd => ?_, ?_⟩
        · simp only [Act.put, List.setIfInBounds_toArray, List.set_cons_zero, List.set_cons_succ]
          have e7 : f1 7 = .bool true := hd 7 (by kernel_rfl)
          have e15 : f1 15 = .pointer (some ⟨W.heap.size + 1, 0, none⟩) := hd 15 (by kernel_rfl)
          have hu2 := Ext.trans (Ext.drew w3) hu
          have q0 := ext_cell hu2 b0
          go_simp
          exact ⟨Ext.refl _, rfl⟩
        refine ⟨fun u hu hd => ?_, ?_⟩
        · simp only [Act.put, List.setIfInBounds_toArray, List.set_cons_zero, List.set_cons_succ]
          have e7 : f1 7 = .bool true := hd 7 (by kernel_rfl)
          have e14 : f1 14 = .slice g.kA a.key.length g.kc := hd 14 (by kernel_rfl)
          have e16 : f1 16 = .slice h.kA b.key.length h.kc := hd 16 (by kernel_rfl)
          have hu2 := Ext.trans (Ext.drew w3) hu
          obtain ⟨m1, m2, m3⟩ := HAE.out u hu2
          go_simp
          refine (rkeys_any m1.k m2.k m1.bk m2.bk m3 m3 HKL.out.1 HKL.out.2).mono ?_
          rintro x w9 ⟨rfl, hx9⟩
          exact ⟨_, rfl, hx9, rfl⟩
        refine ⟨fun u hu hd => ?_, ?_⟩
        · simp only [Act.put, List.setIfInBounds_toArray, List.set_cons_zero, List.set_cons_succ]
          have e7 : f1 7 = .bool true := hd 7 (by kernel_rfl)
          have e12 : f1 12 = .int .i64 (cmpK a.key b.key) := hd 12 (by kernel_rfl)
          have e17 : f1 17 = .int .i64 (cmpK a.key b.key) := hd 17 (by kernel_rfl)
          go_simp
          exact ⟨Ext.refl _, rfl⟩
        refine ⟨fun u hu hd => ?_, ?_⟩
        · simp only [Act.put, List.setIfInBounds_toArray, List.set_cons_zero, List.set_cons_succ]
          have e7 : f1 7 = .bool true := hd 7 (by kernel_rfl)
          have e18 : f1 18 = .bool true := hd 18 (by kernel_rfl)
          go_simp
          exact ⟨Ext.refl _, rfl⟩
        refine ⟨fun u hu hd => ?_, ?_⟩
        · simp only [Act.put, List.setIfInBounds_toArray, List.set_cons_zero, List.set_cons_succ]
          have e19 : f1 19 = .bool true := hd 19 (by kernel_rfl)
          go_simp
          exact ⟨Ext.refl _, rfl⟩
        refine ⟨fun u hu hd => ?_, ?_⟩
        · simp only [Act.put, List.setIfInBounds_toArray, List.set_cons_zero, List.set_cons_succ]
          have e20 : f1 20 = .bool true := hd 20 (by kernel_rfl)
          have hu2 := Ext.trans (Ext.drew w3) hu
          have q0 := ext_cell hu2 a0
          have q1 := ext_cell hu2 a1
          have q2 := ext_cell hu2 a2
          have q3 := ext_cell hu2 a3
          go_simp
          exact ⟨Ext.refl _, rfl⟩
        refine ⟨fun u hu hd => ?_, ?_⟩
        · simp only [Act.put, List.setIfInBounds_toArray, List.set_cons_zero, List.set_cons_succ]
          have e20 : f1 20 = .bool true := hd 20 (by kernel_rfl)
          have hu2 := Ext.trans (Ext.drew w3) hu
          have q0 := ext_cell hu2 b0
          have q1 := ext_cell hu2 b1
          have q2 := ext_cell hu2 b2
          have q3 := ext_cell hu2 b3
          go_simp
          exact ⟨Ext.refl _, rfl⟩
        refine ⟨fun u hu hd => ?_, ?_⟩
        · simp only [Act.put, List.setIfInBounds_toArray, List.set_cons_zero, List.set_cons_succ]
          have e20 : f1 20 = .bool true := hd 20 (by kernel_rfl)
          have e21 : f1 21 = .agg #[.slice g.kA a.key.length g.kc, .int .i64 a.seq, .int .i64 a.kind, .slice g.vA a.val.length g.vc] := hd 21 (by kernel_rfl)
          have e22 : f1 22 = .agg #[.slice h.kA b.key.length h.kc, .int .i64 b.seq, .int .i64 b.kind, .slice h.vA b.val.length h.vc] := hd 22 (by kernel_rfl)
          have hu2 := Ext.trans (Ext.drew w3) hu
          obtain ⟨m1, m2, m3⟩ := HAE.out u hu2
          go_simp
          refine (same_any m1 m2 m3 m3).mono ?_
          rintro x w9 ⟨z', hz', rfl, hx9⟩
          have : z' = z := by rw [Bool.eq_iff_iff, hz', HZ.out]
          subst this
          exact ⟨_, rfl, hx9, rfl⟩
        refine ⟨fun u hu hd => ?_, ?_⟩
        · simp only [Act.put, List.setIfInBounds_toArray, List.set_cons_zero, List.set_cons_succ]
          have e20 : f1 20 = .bool true := hd 20 (by kernel_rfl)
          have hu2 := Ext.trans (Ext.drew w3) hu
          have q0 := ext_cell hu2 a0
          have q1 := ext_cell hu2 a1
          have q2 := ext_cell hu2 a2
          have q3 := ext_cell hu2 a3
          go_simp
          exact ⟨Ext.refl _, rfl⟩
        refine ⟨fun u hu hd => ?_, ?_⟩
        · simp only [Act.put, List.setIfInBounds_toArray, List.set_cons_zero, List.set_cons_succ]
          have e20 : f1 20 = .bool true := hd 20 (by kernel_rfl)
          have hu2 := Ext.trans (Ext.drew w3) hu
          have q0 := ext_cell hu2 b0
          have q1 := ext_cell hu2 b1
          have q2 := ext_cell hu2 b2
          have q3 := ext_cell hu2 b3
          go_simp
          exact ⟨Ext.refl _, rfl⟩
        refine ⟨fun u hu hd => ?_, ?_⟩
        · simp only [Act.put, List.setIfInBounds_toArray, List.set_cons_zero, List.set_cons_succ]
          have e20 : f1 20 = .bool true := hd 20 (by kernel_rfl)
          have e24 : f1 24 = .agg #[.slice g.kA a.key.length g.kc, .int .i64 a.seq, .int .i64 a.kind, .slice g.vA a.val.length g.vc] := hd 24 (by kernel_rfl)
          have e25 : f1 25 = .agg #[.slice h.kA b.key.length h.kc, .int .i64 b.seq, .int .i64 b.kind, .slice h.vA b.val.length h.vc] := hd 25 (by kernel_rfl)
          have hu2 := Ext.trans (Ext.drew w3) hu
          obtain ⟨m1, m2, m3⟩ := HAE.out u hu2
          go_simp
          refine (rsame_any m1 m2 m3 m3).mono ?_
          rintro x w9 ⟨z', hz', rfl, hx9⟩
          have : z' = z := by rw [Bool.eq_iff_iff, hz', HZ.out]
          subst this
          exact ⟨_, rfl, hx9, rfl⟩
        refine ⟨fun u hu hd => ?_, ?_⟩
        · simp only [Act.put, List.setIfInBounds_toArray, List.set_cons_zero, List.set_cons_succ]
          have e20 : f1 20 = .bool true := hd 20 (by kernel_rfl)
          have e23 : f1 23 = .bool z := hd 23 (by kernel_rfl)
          have e26 : f1 26 = .bool z := hd 26 (by kernel_rfl)
          go_simp
          exact ⟨Ext.refl _, rfl⟩
        refine ⟨fun u hu hd => ?_, ?_⟩
        · simp only [Act.put, List.setIfInBounds_toArray, List.set_cons_zero, List.set_cons_succ]
          have e20 : f1 20 = .bool true := hd 20 (by kernel_rfl)
          have e27 : f1 27 = .bool true := hd 27 (by kernel_rfl)
          go_simp
          exact ⟨Ext.refl _, rfl⟩
        refine ⟨fun u hu hd => ?_, ?_⟩
        · simp only [Act.put, List.setIfInBounds_toArray, List.set_cons_zero, List.set_cons_succ]
          have e28 : f1 28 = .bool true := hd 28 (by kernel_rfl)
          go_simp
          exact ⟨Ext.refl _, rfl⟩
        refine ⟨fun u hu hd => ?_, ?_⟩
        · simp only [Act.put, List.setIfInBounds_toArray, List.set_cons_zero, List.set_cons_succ]
          have e29 : f1 29 = .bool true := hd 29 (by kernel_rfl)
          go_simp
          refine (known_any u).mono ?_
          rintro x w9 ⟨rfl, hx9⟩
          exact ⟨_, rfl, hx9, rfl⟩
        refine ⟨fun u hu hd => ?_, ?_⟩
        · simp only [Act.put, List.setIfInBounds_toArray, List.set_cons_zero, List.set_cons_succ]
          have e29 : f1 29 = .bool true := hd 29 (by kernel_rfl)
          have e30 : f1 30 = .bool true := hd 30 (by kernel_rfl)
          go_simp
          exact ⟨Ext.refl _, rfl⟩
        refine ⟨fun u hu hd => ?_, ?_⟩
        · simp only [Act.put, List.setIfInBounds_toArray, List.set_cons_zero, List.set_cons_succ]
          have e31 : f1 31 = .bool true := hd 31 (by kernel_rfl)
          go_simp
          exact ⟨Ext.refl _, rfl⟩
        trivial
end Go.Proofs.Ytfalpagimmaipaa.ikeyCompares
