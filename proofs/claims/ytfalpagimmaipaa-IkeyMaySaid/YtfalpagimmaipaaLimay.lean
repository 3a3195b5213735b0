/- IkeyMay: which entries may be, and how many bytes they have, is what the chapter says. -/
import Derived.Test.YtfalpagimmaipaaIrefb
import Derived.Test.YtfalpagimmaipaaIknown
namespace Go.Proofs.Ytfalpagimmaipaa.ikeyMay
open Go.ChangeShapes Go.WideShapes Go.ChangeAt Go.RowKit

/-- A slice of so many. -/
def SlN (N : Nat) (v : Value) (_ : World) : Prop := ∃ A c, v = .slice A N c
theorem Mono.sln (N : Nat) : Mono (SlN N) := fun _ _ _ h _ => h

set_option maxRecDepth 100000 in
set_option maxHeartbeats 8000000 in
theorem walk (W : World) (e : Ent) (g : Hd) (he : Em W 0 W.heap.size e g) (l1 : e.key.length ≤ 140737488351232) (l2 : e.val.length ≤ 140737488351232) :
    Calls Try.prog 3 #[e.at_ g] W fun x w' => x = .returned (.bool true) ∧ Below W.heap.size W w' := by
  obtain ⟨w1, hw1⟩ : ∃ w1, w1 = W.alloc (.cells #[.slice g.kA e.key.length g.kc, .int .i64 e.seq, .int .i64 e.kind, .slice g.vA e.val.length g.vc] 25) := ⟨_, rfl⟩
  have HX1 : Hid (Ext W w1) := by rw [hw1]; exact ext_alloc _ _
  have HB1 : Hid (w1.heap[W.heap.size]? = some (.cells #[.slice g.kA e.key.length g.kc, .int .i64 e.seq, .int .i64 e.kind, .slice g.vA e.val.length g.vc] 25 (0, 0))) := by rw [hw1]; exact heap_at _ _ rfl
  have HE := Lib.hid he
  have HL1 := Lib.hid (long_any (w := w1) (g := g) l1 l2)
  clear he l1 l2
  unfold Ent.at_ at HL1 ⊢
  obtain ⟨z1, hz1⟩ : ∃ z, z = decide (100000 < e.key.length + e.val.length) := ⟨_, rfl⟩
  rw [← hz1] at HL1
  clear hz1
  go_enter Try.func3, Try.ntmps3
  go_wp2_with fail
  rw [← hw1]
  clear hw1
  refine Calls.mono HL1.out ?_
  rintro x w2 ⟨rfl, hx2⟩
  have HX2 := Lib.hid hx2
  clear hx2
  rcases z1 with _ | _
  rotate_left
  · go_wp2_with fail
    refine (known_any w2).mono ?_
    rintro x w3 ⟨rfl, hx3⟩
    have HX3 := Lib.hid (Ext.trans HX1.out (Ext.trans HX2.out hx3))
    clear hx3
    go_wp2_with fail
    go_ret
    exact ⟨rfl, HX3.out⟩
  · have HXW := Lib.hid (Ext.trans HX1.out HX2.out)
    have HEE : Hid (∀ u, Ext w2 u → Em u 0 W.heap.size e g ∧ W.heap.size ≤ u.heap.size) := fun u hu => ⟨HE.out.below (Ext.trans HXW.out hu) (Nat.le_refl _), (Ext.trans HXW.out hu).size⟩
    have a0 := cell_of (ext_heap HX2.out HB1.out) (k := 0) rfl
    have a1 := cell_of (ext_heap HX2.out HB1.out) (k := 1) rfl
    have a2 := cell_of (ext_heap HX2.out HB1.out) (k := 2) rfl
    have a3 := cell_of (ext_heap HX2.out HB1.out) (k := 3) rfl
    cases hmay : e.may with
    | false =>
      have HMAY := Lib.hid hmay
      clear hmay
      go_wp2_with fail
      refine (rmay_any _ _ _ _ _ _ _ _ w2).mono ?_
      rintro x w3 ⟨rfl, hx3⟩
      have hm : mayN e.key.length e.seq e.kind e.val.length = false := HMAY.out
      rw [hm]
      have HX3 : Hid (Ext w2 w3) := hx3
      have b0 := ext_cell hx3 a0
      have b1 := ext_cell hx3 a1
      have b2 := ext_cell hx3 a2
      have b3 := ext_cell hx3 a3
      clear hx3 a0 a1 a2 a3 hm
      go_wp2_with fail
      refine (may_any _ _ _ _ _ _ _ _ w3).mono ?_
      rintro x w4 ⟨rfl, hx4⟩
      have hm : mayN e.key.length e.seq e.kind e.val.length = false := HMAY.out
      rw [hm]
      have HX4 : Hid (Ext w2 w4) := Ext.trans HX3.out hx4
      have c0 := ext_cell hx4 b0
      have c1 := ext_cell hx4 b1
      have c2 := ext_cell hx4 b2
      have c3 := ext_cell hx4 b3
      have hsz := size_any (HEE.out w4 HX4.out).1 (HEE.out w4 HX4.out).2
      rw [HMAY.out] at hsz
      unfold Ent.at_ at hsz
      have HSZ := Lib.hid hsz
      clear hx4 b0 b1 b2 b3 hm hsz
      go_wp2_with fail
      refine Calls.mono HSZ.out ?_
      rintro x w5 ⟨rfl, hx5⟩
      have HX5 : Hid (Ext W w5) := Ext.trans HXW.out (Ext.trans HX4.out hx5)
      clear hx5 c0 c1 c2 c3
      go_wp2_with fail
      refine (known_any w5).mono ?_
      rintro x w6 ⟨rfl, hx6⟩
      have HX6 := Lib.hid (Ext.trans HX5.out hx6)
      clear hx6
      go_wp2_with fail
      go_ret
      exact ⟨rfl, HX6.out⟩
    | true =>
      have HMAY := Lib.hid hmay
      clear hmay
      go_wp2_with fail
      refine (rmay_any _ _ _ _ _ _ _ _ w2).mono ?_
      rintro x w3 ⟨rfl, hx3⟩
      have hm : mayN e.key.length e.seq e.kind e.val.length = true := HMAY.out
      rw [hm]
      have HX3 : Hid (Ext w2 w3) := hx3
      have b0 := ext_cell hx3 a0
      have b1 := ext_cell hx3 a1
      have b2 := ext_cell hx3 a2
      have b3 := ext_cell hx3 a3
      have HE3 : Hid (∀ u, Ext w3 u → Em u 0 W.heap.size e g ∧ W.heap.size ≤ u.heap.size) := fun u hu => HEE.out u (Ext.trans HX3.out hu)
      clear hx3 a0 a1 a2 a3 hm
      go_upto_region 5 with (fail)
      refine flow (by kernel_rfl) [Is (.agg #[.slice g.kA e.key.length g.kc, .int .i64 e.seq, .int .i64 e.kind, .slice g.vA e.val.length g.vc]), Is (.bool true), Is (.bool true), Is (.agg #[.slice g.kA e.key.length g.kc, .int .i64 e.seq, .int .i64 e.kind, .slice g.vA e.val.length g.vc]), Is (.int .i64 (e.form.length : Int)), Is (.agg #[.slice g.kA e.key.length g.kc, .int .i64 e.seq, .int .i64 e.kind, .slice g.vA e.val.length g.vc]), SlN e.form.length, Is (.int .i64 (e.form.length : Int)), Is (.bool true), Is (.bool true), Is (.bool true), Is (.bool true), Is (.bool true), Is (.bool true)] (by kernel_rfl) (by kernel_rfl) ?mono (fun f1 => ?obl) ?fin
      case mono =>
        simp only [List.forall_mem_cons, List.not_mem_nil, false_imp_iff, implies_true, and_true]
        exact ⟨.is _, .is _, .is _, .is _, .is _, .is _, Mono.sln _, .is _, .is _, .is _, .is _, .is _, .is _, .is _⟩
      case fin =>
        intro g1 u hu hg
        simp only [puts, Act.put, List.setIfInBounds_toArray, List.set_cons_zero, List.set_cons_succ]
        have h13 : g1 13 = .bool true := hg 13 (by decide)
        rw [h13]
        have HU := Lib.hid (Ext.trans HXW.out (Ext.trans HX3.out (Ext.trans (Ext.drew w3) hu)))
        clear h13 hg hu b0 b1 b2 b3
        go_wp2_with fail
        go_ret
        exact ⟨rfl, HU.out⟩
      case obl =>
        refine ⟨fun u hu hd => ?_, ?_⟩
        · have hu2 := Ext.trans (Ext.drew w3) hu
          have q0 := ext_cell hu2 b0
          have q1 := ext_cell hu2 b1
          have q2 := ext_cell hu2 b2
          have q3 := ext_cell hu2 b3
          go_simp
          exact ⟨Ext.refl _, rfl⟩
        refine ⟨fun u hu hd => ?_, ?_⟩
        · simp only [Act.put, List.setIfInBounds_toArray, List.set_cons_zero, List.set_cons_succ]
          have e0 : f1 0 = .agg #[.slice g.kA e.key.length g.kc, .int .i64 e.seq, .int .i64 e.kind, .slice g.vA e.val.length g.vc] := hd 0 (by kernel_rfl)
          go_simp
          refine (may_any _ _ _ _ _ _ _ _ u).mono ?_
          rintro x w9 ⟨rfl, hx9⟩
          exact ⟨_, rfl, hx9, congrArg Value.bool HMAY.out⟩
        refine ⟨fun u hu hd => ?_, ?_⟩
        · simp only [Act.put, List.setIfInBounds_toArray, List.set_cons_zero, List.set_cons_succ]
          have e1 : f1 1 = .bool true := hd 1 (by kernel_rfl)
          go_simp
          exact ⟨Ext.refl _, rfl⟩
        refine ⟨fun u hu hd => ?_, ?_⟩
        · simp only [Act.put, List.setIfInBounds_toArray, List.set_cons_zero, List.set_cons_succ]
          have e2 : f1 2 = .bool true := hd 2 (by kernel_rfl)
          have hu2 := Ext.trans (Ext.drew w3) hu
          have q0 := ext_cell hu2 b0
          have q1 := ext_cell hu2 b1
          have q2 := ext_cell hu2 b2
          have q3 := ext_cell hu2 b3
          go_simp
          exact ⟨Ext.refl _, rfl⟩
        refine ⟨fun u hu hd => ?_, ?_⟩
        · simp only [Act.put, List.setIfInBounds_toArray, List.set_cons_zero, List.set_cons_succ]
          have e2 : f1 2 = .bool true := hd 2 (by kernel_rfl)
          have e3 : f1 3 = .agg #[.slice g.kA e.key.length g.kc, .int .i64 e.seq, .int .i64 e.kind, .slice g.vA e.val.length g.vc] := hd 3 (by kernel_rfl)
          have hu2 := Ext.trans (Ext.drew w3) hu
          go_simp
          refine (size_any (HE3.out u hu2).1 (HE3.out u hu2).2).mono ?_
          rintro x w9 ⟨rfl, hx9⟩
          refine ⟨_, rfl, hx9, ?_⟩
          show Value.int .i64 (if e.may = true then (e.form.length : Int) else 0) = _
          rw [if_pos HMAY.out]
        refine ⟨fun u hu hd => ?_, ?_⟩
        · simp only [Act.put, List.setIfInBounds_toArray, List.set_cons_zero, List.set_cons_succ]
          have e2 : f1 2 = .bool true := hd 2 (by kernel_rfl)
          have hu2 := Ext.trans (Ext.drew w3) hu
          have q0 := ext_cell hu2 b0
          have q1 := ext_cell hu2 b1
          have q2 := ext_cell hu2 b2
          have q3 := ext_cell hu2 b3
          go_simp
          exact ⟨Ext.refl _, rfl⟩
        refine ⟨fun u hu hd => ?_, ?_⟩
        · simp only [Act.put, List.setIfInBounds_toArray, List.set_cons_zero, List.set_cons_succ]
          have e2 : f1 2 = .bool true := hd 2 (by kernel_rfl)
          have e5 : f1 5 = .agg #[.slice g.kA e.key.length g.kc, .int .i64 e.seq, .int .i64 e.kind, .slice g.vA e.val.length g.vc] := hd 5 (by kernel_rfl)
          have hu2 := Ext.trans (Ext.drew w3) hu
          go_simp
          refine (rform_any (HE3.out u hu2).1 (HE3.out u hu2).2 HMAY.out).mono ?_
          rintro x w9 ⟨X, c, rfl, _, hx9⟩
          exact ⟨_, rfl, hx9, X, c, rfl⟩
        refine ⟨fun u hu hd => ?_, ?_⟩
        · simp only [Act.put, List.setIfInBounds_toArray, List.set_cons_zero, List.set_cons_succ]
          have e2 : f1 2 = .bool true := hd 2 (by kernel_rfl)
          obtain ⟨X, c, e6⟩ := (show SlN e.form.length (f1 6) u from hd 6 (by kernel_rfl))
          go_simp
          exact ⟨Ext.refl _, rfl⟩
        refine ⟨fun u hu hd => ?_, ?_⟩
        · simp only [Act.put, List.setIfInBounds_toArray, List.set_cons_zero, List.set_cons_succ]
          have e2 : f1 2 = .bool true := hd 2 (by kernel_rfl)
          have e4 : f1 4 = .int .i64 (e.form.length : Int) := hd 4 (by kernel_rfl)
          have e7 : f1 7 = .int .i64 (e.form.length : Int) := hd 7 (by kernel_rfl)
          go_simp
          exact ⟨Ext.refl _, rfl⟩
        refine ⟨fun u hu hd => ?_, ?_⟩
        · simp only [Act.put, List.setIfInBounds_toArray, List.set_cons_zero, List.set_cons_succ]
          have e2 : f1 2 = .bool true := hd 2 (by kernel_rfl)
          have e8 : f1 8 = .bool true := hd 8 (by kernel_rfl)
          go_simp
          exact ⟨Ext.refl _, rfl⟩
        refine ⟨fun u hu hd => ?_, ?_⟩
        · simp only [Act.put, List.setIfInBounds_toArray, List.set_cons_zero, List.set_cons_succ]
          have e9 : f1 9 = .bool true := hd 9 (by kernel_rfl)
          go_simp
          exact ⟨Ext.refl _, rfl⟩
        refine ⟨fun u hu hd => ?_, ?_⟩
        · simp only [Act.put, List.setIfInBounds_toArray, List.set_cons_zero, List.set_cons_succ]
          have e10 : f1 10 = .bool true := hd 10 (by kernel_rfl)
          go_simp
          refine (known_any u).mono ?_
          rintro x w9 ⟨rfl, hx9⟩
          exact ⟨_, rfl, hx9, rfl⟩
        refine ⟨fun u hu hd => ?_, ?_⟩
        · simp only [Act.put, List.setIfInBounds_toArray, List.set_cons_zero, List.set_cons_succ]
          have e10 : f1 10 = .bool true := hd 10 (by kernel_rfl)
          have e11 : f1 11 = .bool true := hd 11 (by kernel_rfl)
          go_simp
          exact ⟨Ext.refl _, rfl⟩
        refine ⟨fun u hu hd => ?_, ?_⟩
        · simp only [Act.put, List.setIfInBounds_toArray, List.set_cons_zero, List.set_cons_succ]
          have e12 : f1 12 = .bool true := hd 12 (by kernel_rfl)
          go_simp
          exact ⟨Ext.refl _, rfl⟩
        trivial
end Go.Proofs.Ytfalpagimmaipaa.ikeyMay
