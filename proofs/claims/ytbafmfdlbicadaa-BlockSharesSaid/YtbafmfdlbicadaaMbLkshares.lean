/- Lkshares Pkshares, joined. -/
import Derived.Test.YtbafmfdlbicadaaMb11
import Derived.Test.YtbafmfdlbicadaaMb12
import Derived.Test.YtbafmfdlbicadaaMb6
import Derived.Test.YtbafmfdlbicadaaMb1

/- BlockShares: the walk. -/
namespace Go.Proofs.Ytbafmfdlbicadaa.kshares
open Go.ChangeShapes Go.WideShapes Go.ChangeAt Go.RowKit

set_option maxRecDepth 100000 in
set_option maxHeartbeats 8000000 in
theorem walk (W : World) (v : Value) (a : List Nat) (_ba : ∀ x ∈ a, x < 256) (ha : Bs W 0 W.heap.size v a) (v2 : Value) (b : List Nat) (_bb : ∀ x ∈ b, x < 256) (hb : Bs W 0 W.heap.size v2 b) :
    Calls Try.prog 3 #[v, v2] W fun e w' => e = .returned (.bool true) ∧ Below W.heap.size W w' := by
  have HA := Lib.hid ha
  have HB := Lib.hid hb
  obtain ⟨A, c, rfl, _, _, _, _⟩ := ha
  obtain ⟨A2, c2, rfl, _, _, _, _⟩ := hb
  go_enter Try.func3, Try.ntmps3
  by_cases h1 : 9000 < a.length
  · have d : decide ((9000 : Int) < (a.length : Int)) = true := decide_eq_true (by omega)
    have dn : decide (9000 < a.length) = true := decide_eq_true h1
    clear h1
    go_wp2_with fail
    refine (known_any W).mono ?_
    rintro x w3 ⟨rfl, hx3⟩
    have HX3 := Lib.hid hx3
    clear hx3
    go_wp2_with fail
    go_ret
    exact ⟨rfl, HX3.out⟩
  have d1 : decide ((9000 : Int) < (a.length : Int)) = false := decide_eq_false (by omega)
  have d1n : decide (9000 < a.length) = false := decide_eq_false h1
  by_cases h2 : 9000 < b.length
  · have d : decide ((9000 : Int) < (b.length : Int)) = true := decide_eq_true (by omega)
    have dn : decide (9000 < b.length) = true := decide_eq_true h2
    clear h1 h2
    go_wp2_with fail
    refine (known_any W).mono ?_
    rintro x w3 ⟨rfl, hx3⟩
    have HX3 := Lib.hid hx3
    clear hx3
    go_wp2_with fail
    go_ret
    exact ⟨rfl, HX3.out⟩
  have d2 : decide ((9000 : Int) < (b.length : Int)) = false := decide_eq_false (by omega)
  have d2n : decide (9000 < b.length) = false := decide_eq_false h2
  have HL : Hid (a.length ≤ 9000 ∧ b.length ≤ 9000) := by unfold Hid; omega
  clear h1 h2
  go_wp2_with fail
  refine (shared_any HA.out HB.out (Nat.le_refl _) (Nat.le_refl _) (by have := HL.out; omega) (by have := HL.out; omega)).mono ?_
  rintro x w2 ⟨rfl, hx2⟩
  have HX2 := Lib.hid hx2
  clear hx2
  go_wp2_with fail
  refine (rshared_any (HA.out.below HX2.out (Nat.le_refl _)) (HB.out.below HX2.out (Nat.le_refl _)) HX2.out.size HX2.out.size (by have := HL.out; omega) (by have := HL.out; omega)).mono ?_
  rintro x w3 ⟨rfl, hx3⟩
  have HX3 : Hid (Ext W w3) := Ext.trans HX2.out hx3
  clear hx3
  have e : (((shr a b : Nat) : Int) == ((shr a b : Nat) : Int)) = true := by simp
  go_wp2_with fail
  refine (known_any w3).mono ?_
  rintro x w4 ⟨rfl, hx4⟩
  have HX4 : Hid (Ext W w4) := Ext.trans HX3.out hx4
  clear hx4
  go_wp2_with fail
  go_ret
  exact ⟨rfl, HX4.out⟩
end Go.Proofs.Ytbafmfdlbicadaa.kshares

/- BlockShares: from the walk to the statement. For every input the law answers true and leaves its arguments as they were. -/
namespace Go.Proofs.Ytbafmfdlbicadaa.kshares
open Go.ChangeShapes Go.WideShapes Go.ChangeAt Go.RowKit
set_option linter.unusedVariables false

set_option maxRecDepth 100000 in
theorem lifted (os : Os) (started : os.Started) (H : Type) (enc : TypeId × Value → H) :
    ReturnsInHanded {} Try.checked os 3 .any (Rows.blockSharesSpec.pre6 enc Try.prog Try.f3 Rows.blockSharesRow.domain false) (Rows.blockSharesSpec.post enc Try.prog Try.f3 false true false false) := by
  refine returnsInHanded_of_change (C := Try.checked) own started (by kernel_rfl) Try.func3
    (ChangeSpec.witness6 (enc := enc) (C := Try.checked) false ⟨#[], #[.slice none 0 0, .slice none 0 0], []⟩ 8 (by kernel_rfl) (by kernel_rfl) (by kernel_rfl) (by kernel_rfl)) ?_
  intro W base args ds gs before hval0 hW hcnd _
  have hval : ∀ (j : Nat) t v, Try.f3.params[j]? = some t → args[j]? = some v → Value.okWide Try.prog W .any base t v := hval0
  have hW' := hW
  obtain ⟨p, q, hA0, hV, rfl, hfz, hnd⟩ := hW
  have hA : DataW.TrodAll enc Try.prog W 0 (fun _ => true) true Try.f3.params.toList args.toList ds p := hA0
  rw [Try.params3] at hA hval
  obtain ⟨v0, vs0, d0, ds0, p0, q0, hargs, rfl, rfl, h0, r0⟩ := trodAll_cons hA
  obtain ⟨v1, vs1, d1, ds1, p1, q1, rfl, rfl, rfl, h1, r1⟩ := trodAll_cons r0
  obtain ⟨rfl, rfl, rfl⟩ := trodAll_nil r1
  obtain rfl : args = #[v0, v1] := by cases args; simp_all
  obtain ⟨rfl, rfl⟩ := trodVars_none hV
  have k0 := h0
  have lt0 : ∀ x ∈ p0, x.block < W.heap.size := by obtain ⟨m, hm⟩ := k0; exact DataW.trod_lt m _ _ _ hm
  obtain ⟨l0, y0, b0⟩ := open_bytes (hval 0 22 v0 rfl rfl) h0
  have k1 := h1
  have lt1 : ∀ x ∈ p1, x.block < W.heap.size := by obtain ⟨m, hm⟩ := k1; exact DataW.trod_lt m _ _ _ hm
  obtain ⟨l1, y1, b1⟩ := open_bytes (hval 1 22 v1 rfl rfl) h1
  clear hA0 hval0
  refine (walk W v0 l0 y0 b0 v1 l1 y1 b1).mono fun e W' ⟨he, bel⟩ => ?_
  subst he
  exact ⟨_, rfl, _, _, _, [], _, [], hW', trodAll_mk1 (shut_bool Try.underlying4 _), (trodAll_cons_mk (Below.trod laidOut (by kernel_rfl) (of_decide_eq_true (by kernel_rfl)) k0 bel lt0) (trodAll_cons_mk (Below.trod laidOut (by kernel_rfl) (of_decide_eq_true (by kernel_rfl)) k1 bel lt1) trodAll_mk0)), rfl, bel.frame _, fun h => by cases h⟩

theorem over : Rows.blockSharesRow.holds Try.pinned (OpenSpec.ofChange Rows.blockSharesSpec) :=
  OpenClaim.holds_of_wide 3 Try.f3 rfl rfl rfl rfl rfl rfl rfl ⟨rfl, rfl, rfl, rfl, rfl⟩ rfl rfl rfl rfl rfl (by kernel_rfl) Try.func3 (by kernel_rfl)
    (of_decide_eq_true (by kernel_rfl)) (by unfold Func.isWrapper; first | (rw [if_pos (by decide +kernel)]; kernel_rfl) | (rw [if_neg (by decide +kernel)]; exact ⟨rfl, rfl⟩))
    (fun os started H enc _ => lifted os started H enc)

theorem proved : Rows.BlockSharesSaid := over
end Go.Proofs.Ytbafmfdlbicadaa.kshares
