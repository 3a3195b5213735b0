/- IkeyWrites: every entry has the bytes that the chapter writes, or is refused. -/
import Derived.Test.YtfalpagimmaipaaIrefb
import Derived.Test.YtfalpagimmaipaaIknown
namespace Go.Proofs.Ytfalpagimmaipaa.ikeyWrites
open Go.ChangeShapes Go.WideShapes Go.ChangeAt Go.RowKit

set_option maxRecDepth 100000 in
set_option maxHeartbeats 8000000 in
theorem walk (W : World) (e : Ent) (g : Hd) (he : Em W 0 W.heap.size e g) (l1 : e.key.length ≤ 140737488351232) (l2 : e.val.length ≤ 140737488351232) :
    Calls Try.prog 6 #[e.at_ g] W fun x w' => x = .returned (.bool true) ∧ Below W.heap.size W w' := by
  obtain ⟨w1, hw1⟩ : ∃ w1, w1 = W.alloc (.cells #[.slice g.kA e.key.length g.kc, .int .i64 e.seq, .int .i64 e.kind, .slice g.vA e.val.length g.vc] 25) := ⟨_, rfl⟩
  have HX1 : Hid (Ext W w1) := by rw [hw1]; exact ext_alloc _ _
  have HB1 : Hid (w1.heap[W.heap.size]? = some (.cells #[.slice g.kA e.key.length g.kc, .int .i64 e.seq, .int .i64 e.kind, .slice g.vA e.val.length g.vc] 25 (0, 0))) := by rw [hw1]; exact heap_at _ _ rfl
  have HE := Lib.hid he
  have HL1 := Lib.hid (long_any (w := w1) (g := g) l1 l2)
  clear he l1 l2
  unfold Ent.at_ at HL1 ⊢
  obtain ⟨z1, hz1⟩ : ∃ z, z = decide (100000 < e.key.length + e.val.length) := ⟨_, rfl⟩
  rw [← hz1] at HL1
  clear hz1
  go_enter Try.func6, Try.ntmps6
  go_wp2_with fail
  rw [← hw1]
  clear hw1
  refine Calls.mono HL1.out ?_
  rintro x w2 ⟨rfl, hx2⟩
  have HX2 := Lib.hid hx2
  clear hx2
  rcases z1 with _ | _
  rotate_left
  · go_wp2_with fail
    refine (known_any w2).mono ?_
    rintro x w3 ⟨rfl, hx3⟩
    have HX3 := Lib.hid (Ext.trans HX1.out (Ext.trans HX2.out hx3))
    clear hx3
    go_wp2_with fail
    go_ret
    exact ⟨rfl, HX3.out⟩
  · have HXW := Lib.hid (Ext.trans HX1.out HX2.out)
    have HEE : Hid (∀ u, Ext w2 u → Em u 0 W.heap.size e g ∧ W.heap.size ≤ u.heap.size) := fun u hu => ⟨HE.out.below (Ext.trans HXW.out hu) (Nat.le_refl _), (Ext.trans HXW.out hu).size⟩
    have a0 := cell_of (ext_heap HX2.out HB1.out) (k := 0) rfl
    have a1 := cell_of (ext_heap HX2.out HB1.out) (k := 1) rfl
    have a2 := cell_of (ext_heap HX2.out HB1.out) (k := 2) rfl
    have a3 := cell_of (ext_heap HX2.out HB1.out) (k := 3) rfl
    have hby := ebytes_any (HEE.out w2 (Ext.refl _)).1 (HEE.out w2 (Ext.refl _)).2
    unfold Ent.at_ at hby
    have HBY := Lib.hid hby
    clear hby
    go_wp2_with fail
    refine Calls.mono HBY.out ?_
    rintro x w3 ⟨hx3, (⟨hmay, A, c, rfl, ho⟩ | ⟨hmay, rfl⟩)⟩
    · have HMAY := Lib.hid hmay
      have HO := Lib.hid ho
      have HX3 : Hid (Ext w2 w3) := hx3
      have b0 := ext_cell hx3 a0
      have b1 := ext_cell hx3 a1
      have b2 := ext_cell hx3 a2
      have b3 := ext_cell hx3 a3
      clear hmay ho hx3 a0 a1 a2 a3
      go_wp2_with fail
      refine (rmay_any _ _ _ _ _ _ _ _ w3).mono ?_
      rintro x w4 ⟨rfl, hx4⟩
      have hm : mayN e.key.length e.seq e.kind e.val.length = true := HMAY.out
      rw [hm]
      have HX4 : Hid (Ext w3 w4) := hx4
      have c0 := ext_cell hx4 b0
      have c1 := ext_cell hx4 b1
      have c2 := ext_cell hx4 b2
      have c3 := ext_cell hx4 b3
      have HE4 : Hid (∀ u, Ext w4 u → Em u 0 W.heap.size e g ∧ W.heap.size ≤ u.heap.size) := fun u hu => HEE.out u (Ext.trans HX3.out (Ext.trans HX4.out hu))
      have HCV : Hid (∀ u, Ext w4 u → (convert 22 9 (.slice A e.form.length c)).run Try.prog u = .ok (.string (tx e.form)) u) := fun u hu => cv_any ((HO.out.below (Ext.trans HX4.out hu)).bs)
      have htt : ((tx e.form).toList == (tx e.form).toList) = true := by simp
      clear hx4 b0 b1 b2 b3 hm
      go_upto_region 6 with (fail)
      refine flow (by kernel_rfl) [Is (.slice A e.form.length c), Is (.string (tx e.form)), Is (.agg #[.slice g.kA e.key.length g.kc, .int .i64 e.seq, .int .i64 e.kind, .slice g.vA e.val.length g.vc]), Own w4.heap.size e.form, Is (.string (tx e.form)), Is (.bool true), Is (.bool true), Is (.int .i64 (0 : Int)), Is (.int .i64 0), Is (.bool true), Is (.bool true), Is (.bool true), Is (.bool true), Is (.bool true), Is (.bool true)] (by kernel_rfl) (by kernel_rfl) ?mono (fun f1 => ?obl) ?fin
      case mono =>
        simp only [List.forall_mem_cons, List.not_mem_nil, false_imp_iff, implies_true, and_true]
        exact ⟨.is _, .is _, .is _, .own _ _, .is _, .is _, .is _, .is _, .is _, .is _, .is _, .is _, .is _, .is _, .is _⟩
      case fin =>
        intro g1 u hu hg
        simp only [puts, Act.put, List.setIfInBounds_toArray, List.set_cons_zero, List.set_cons_succ]
        have h14 : g1 14 = .bool true := hg 14 (by decide)
        rw [h14]
        have HU := Lib.hid (Ext.trans HXW.out (Ext.trans HX3.out (Ext.trans HX4.out (Ext.trans (Ext.drew w4) hu))))
        clear h14 hg hu c0 c1 c2 c3
        go_wp2_with fail
        go_ret
        exact ⟨rfl, HU.out⟩
      case obl =>
        refine ⟨fun u hu hd => ?_, ?_⟩
        · go_simp
          exact ⟨Ext.refl _, rfl⟩
        refine ⟨fun u hu hd => ?_, ?_⟩
        · simp only [Act.put, List.setIfInBounds_toArray, List.set_cons_zero, List.set_cons_succ]
          have e0 : f1 0 = .slice A e.form.length c := hd 0 (by kernel_rfl)
          have hu2 := Ext.trans (Ext.drew w4) hu
          have cv := HCV.out u hu2
          go_simp
          exact ⟨Ext.refl _, rfl⟩
        refine ⟨fun u hu hd => ?_, ?_⟩
        · simp only [Act.put, List.setIfInBounds_toArray, List.set_cons_zero, List.set_cons_succ]
          have hu2 := Ext.trans (Ext.drew w4) hu
          have q0 := ext_cell hu2 c0
          have q1 := ext_cell hu2 c1
          have q2 := ext_cell hu2 c2
          have q3 := ext_cell hu2 c3
          go_simp
          exact ⟨Ext.refl _, rfl⟩
        refine ⟨fun u hu hd => ?_, ?_⟩
        · simp only [Act.put, List.setIfInBounds_toArray, List.set_cons_zero, List.set_cons_succ]
          have e2 : f1 2 = .agg #[.slice g.kA e.key.length g.kc, .int .i64 e.seq, .int .i64 e.kind, .slice g.vA e.val.length g.vc] := hd 2 (by kernel_rfl)
          have hu2 := Ext.trans (Ext.drew w4) hu
          go_simp
          refine (rform_any (HE4.out u hu2).1 (HE4.out u hu2).2 HMAY.out).mono ?_
          rintro x w9 ⟨X, d, rfl, hown, hx9⟩
          exact ⟨_, rfl, hx9, hown.base hu2.size⟩
        refine ⟨fun u hu hd => ?_, ?_⟩
        · simp only [Act.put, List.setIfInBounds_toArray, List.set_cons_zero, List.set_cons_succ]
          have h3 : Own w4.heap.size e.form (f1 3) u := hd 3 (by kernel_rfl)
          obtain ⟨X, d, e3⟩ := h3.slice
          rw [e3] at h3
          have cv := cv_any h3.bs
          have H3 := Lib.hid h3
          clear h3
          go_simp
          exact ⟨Ext.refl _, rfl⟩
        refine ⟨fun u hu hd => ?_, ?_⟩
        · simp only [Act.put, List.setIfInBounds_toArray, List.set_cons_zero, List.set_cons_succ]
          have e1 : f1 1 = .string (tx e.form) := hd 1 (by kernel_rfl)
          have e4 : f1 4 = .string (tx e.form) := hd 4 (by kernel_rfl)
          go_simp
          exact ⟨Ext.refl _, rfl⟩
        refine ⟨fun u hu hd => ?_, ?_⟩
        · simp only [Act.put, List.setIfInBounds_toArray, List.set_cons_zero, List.set_cons_succ]
          have e5 : f1 5 = .bool true := hd 5 (by kernel_rfl)
          go_simp
          exact ⟨Ext.refl _, rfl⟩
        refine ⟨fun u hu hd => ?_, ?_⟩
        · simp only [Act.put, List.setIfInBounds_toArray, List.set_cons_zero, List.set_cons_succ]
          have e6 : f1 6 = .bool true := hd 6 (by kernel_rfl)
          go_simp
          exact ⟨Ext.refl _, rfl⟩
        refine ⟨fun u hu hd => ?_, ?_⟩
        · simp only [Act.put, List.setIfInBounds_toArray, List.set_cons_zero, List.set_cons_succ]
          have e6 : f1 6 = .bool true := hd 6 (by kernel_rfl)
          have e7 : f1 7 = .int .i64 (0 : Int) := hd 7 (by kernel_rfl)
          go_simp
          refine (errnum 0 u).mono ?_
          rintro x w9 ⟨rfl, rfl⟩
          exact ⟨_, rfl, Ext.refl _, rfl⟩
        refine ⟨fun u hu hd => ?_, ?_⟩
        · simp only [Act.put, List.setIfInBounds_toArray, List.set_cons_zero, List.set_cons_succ]
          have e6 : f1 6 = .bool true := hd 6 (by kernel_rfl)
          have e8 : f1 8 = .int .i64 0 := hd 8 (by kernel_rfl)
          go_simp
          exact ⟨Ext.refl _, rfl⟩
        refine ⟨fun u hu hd => ?_, ?_⟩
        · simp only [Act.put, List.setIfInBounds_toArray, List.set_cons_zero, List.set_cons_succ]
          have e6 : f1 6 = .bool true := hd 6 (by kernel_rfl)
          have e9 : f1 9 = .bool true := hd 9 (by kernel_rfl)
          go_simp
          exact ⟨Ext.refl _, rfl⟩
        refine ⟨fun u hu hd => ?_, ?_⟩
        · simp only [Act.put, List.setIfInBounds_toArray, List.set_cons_zero, List.set_cons_succ]
          have e10 : f1 10 = .bool true := hd 10 (by kernel_rfl)
          go_simp
          exact ⟨Ext.refl _, rfl⟩
        refine ⟨fun u hu hd => ?_, ?_⟩
        · simp only [Act.put, List.setIfInBounds_toArray, List.set_cons_zero, List.set_cons_succ]
          have e11 : f1 11 = .bool true := hd 11 (by kernel_rfl)
          go_simp
          refine (known_any u).mono ?_
          rintro x w9 ⟨rfl, hx9⟩
          exact ⟨_, rfl, hx9, rfl⟩
        refine ⟨fun u hu hd => ?_, ?_⟩
        · simp only [Act.put, List.setIfInBounds_toArray, List.set_cons_zero, List.set_cons_succ]
          have e11 : f1 11 = .bool true := hd 11 (by kernel_rfl)
          have e12 : f1 12 = .bool true := hd 12 (by kernel_rfl)
          go_simp
          exact ⟨Ext.refl _, rfl⟩
        refine ⟨fun u hu hd => ?_, ?_⟩
        · simp only [Act.put, List.setIfInBounds_toArray, List.set_cons_zero, List.set_cons_succ]
          have e13 : f1 13 = .bool true := hd 13 (by kernel_rfl)
          go_simp
          exact ⟨Ext.refl _, rfl⟩
        trivial
    · have HMAY := Lib.hid hmay
      have HX3 : Hid (Ext w2 w3) := hx3
      have b0 := ext_cell hx3 a0
      have b1 := ext_cell hx3 a1
      have b2 := ext_cell hx3 a2
      have b3 := ext_cell hx3 a3
      clear hmay hx3 a0 a1 a2 a3
      go_wp2_with fail
      refine (rmay_any _ _ _ _ _ _ _ _ w3).mono ?_
      rintro x w4 ⟨rfl, hx4⟩
      have hm : mayN e.key.length e.seq e.kind e.val.length = false := HMAY.out
      rw [hm]
      have HX4 : Hid (Ext W w4) := Ext.trans HXW.out (Ext.trans HX3.out hx4)
      clear hx4 b0 b1 b2 b3 hm
      go_wp2_with fail
      refine (errnum 2 _).mono ?_
      rintro x w5 ⟨rfl, rfl⟩
      go_wp2_with fail
      refine (known_any w4).mono ?_
      rintro x w6 ⟨rfl, hx6⟩
      have HX6 := Lib.hid (Ext.trans HX4.out hx6)
      clear hx6
      go_wp2_with fail
      go_ret
      exact ⟨rfl, HX6.out⟩
end Go.Proofs.Ytfalpagimmaipaa.ikeyWrites
