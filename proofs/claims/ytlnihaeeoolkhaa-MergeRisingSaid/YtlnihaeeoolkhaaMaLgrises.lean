/- MergeRising: from the walk to the statement. For every input the law answers true and leaves its arguments as they were. -/
import Derived.Test.YtlnihaeeoolkhaaMa9

/- MergeRising: which lists are orders is what the document says. -/
namespace Go.Proofs.Ytlnihaeeoolkhaa
open Go.ChangeShapes Go.WideShapes Go.ChangeAt Go.RowKit

set_option maxRecDepth 100000 in
set_option maxHeartbeats 8000000 in
theorem rising_walk (W : World) (A : Option Addr) (c : Nat) (L : List (Ent × Hd)) (hlc : L.length ≤ c) (_hc : c ≤ maxLen) (hE : Es W 0 W.heap.size A L) (hln : ∀ p ∈ L, p.1.key.length ≤ 140737488351232 ∧ p.1.val.length ≤ 140737488351232) (_hn : L.length ≤ 2199023255552) :
    Calls Try.prog 5 #[.slice A L.length c] W fun e w' => e = .returned (.bool true) ∧ Below W.heap.size W w' := by
  have HE := Lib.hid hE
  have HLN := Lib.hid hln
  have HLC := Lib.hid hlc
  by_cases hbig : 100 < L.length
  · have d : decide ((100 : Int) < (L.length : Int)) = true := by simp; omega
    have dn : decide (100 < L.length) = true := by simp; omega
    clear hE hln hlc hbig
    go_enter Try.func5, Try.ntmps5
    go_wp2_with fail
    refine (known11_any _).mono ?_
    rintro x w9 ⟨rfl, hx⟩
    have HX := Lib.hid hx
    clear hx
    go_wp2_with fail
    go_ret
    exact ⟨rfl, HX.out⟩
  have d : decide ((100 : Int) < (L.length : Int)) = false := by simp; omega
  have dn : decide (100 < L.length) = false := by simp; omega
  have HL100 : Hid (L.length ≤ 100) := by unfold Hid; omega
  clear hE hln hlc hbig
  go_enter Try.func5, Try.ntmps5
  go_wp2_with fail
  refine (of_goes (c := c) HE.out (by have := HL100.out; omega) HLN.out).mono ?_
  rintro x w1 ⟨b, rfl, hg, hx⟩
  have HX1 := Lib.hid hx
  have HG := Lib.hid hg
  clear hx hg
  go_wp2_with fail
  refine (rising_goes HG.out).mono ?_
  rintro x w2 ⟨z, hz, rfl, hx⟩
  have HX2 : Hid (Ext w1 w2) := hx
  have HXX : Hid (Ext W w2) := HX1.out.trans HX2.out
  have HZ := Lib.hid hz
  clear hx hz
  go_wp2_with fail
  refine (ris11_any (c := c) (HE.out.below HXX.out (Nat.le_refl _)) HXX.out.size (by have := HL100.out; omega) (fun p hp => (HLN.out p hp).1)).mono ?_
  rintro x w3 ⟨z2, hz2, rfl, hx⟩
  have HX3 := Lib.hid hx
  have hzz : z2 = z := by
    have h1 := HZ.out
    cases z <;> cases z2
    · rfl
    · exact absurd (h1.2 (hz2.1 rfl)) (by decide)
    · exact absurd (hz2.2 (h1.1 rfl)) (by decide)
    · rfl
  subst hzz
  have e1 : (z2 == z2) = true := by simp
  have hnil : Es w3 0 w3.heap.size Option.none ([] : List (Ent × Hd)) := ⟨Sl.nil _ _ _ _, fun p hp => (by cases hp)⟩
  have HNIL := Lib.hid (of_goes (c := 0) hnil (by simp) (fun p hp => (by cases hp)))
  simp only [List.length_nil] at HNIL
  clear hx hz2 hnil
  go_wp2_with fail
  refine HNIL.out.mono ?_
  rintro x w4 ⟨b4, rfl, hg, hx⟩
  have HX4 := Lib.hid hx
  have HG4 := Lib.hid hg
  clear hx hg
  go_wp2_with fail
  refine (rising_goes HG4.out).mono ?_
  rintro x w5 ⟨z5, hz5, rfl, hx⟩
  have HX5 : Hid (Ext w4 w5) := hx
  have h5 : z5 = true := hz5.2 (fun j a b ha => by simp at ha)
  subst h5
  clear hx hz5
  go_wp2_with fail
  refine (known11_any _).mono ?_
  rintro x w9 ⟨rfl, hx⟩
  have HX9 := Lib.hid hx
  clear hx
  go_wp2_with fail
  go_ret
  exact ⟨rfl, (((HXX.out.trans HX3.out).trans HX4.out).trans HX5.out).trans HX9.out⟩
end Go.Proofs.Ytlnihaeeoolkhaa

/- MergeRising: from the walk to the statement. For every input the law answers true and leaves its arguments as they were. -/
namespace Go.Proofs.Ytlnihaeeoolkhaa.mergeRising
open Go.ChangeShapes Go.WideShapes Go.ChangeAt Go.RowKit
set_option linter.unusedVariables false

set_option maxRecDepth 100000 in
theorem lifted (os : Os) (started : os.Started) (H : Type) (enc : TypeId × Value → H) :
    ReturnsInHanded {} Try.checked os 5 .any (Rows.mergeRisingSpec.pre6 enc Try.prog Try.f5 Rows.mergeRisingRow.domain false) (Rows.mergeRisingSpec.post enc Try.prog Try.f5 false true false false) := by
  refine returnsInHanded_of_change_sized (C := Try.checked) own started (by kernel_rfl) Try.func5
    (ChangeSpec.witness6 (enc := enc) (C := Try.checked) false ⟨#[], #[.slice none 0 0], []⟩ 8 (by kernel_rfl) (by kernel_rfl) (by kernel_rfl) (by kernel_rfl)) ?_
  intro W base args ds gs before hval0 hW hcnd hsz0 _
  have hsz : (DataW.weightsEach Try.prog (Try.f5.params.toList ++ Rows.mergeRisingSpec.plain.varTypes Try.prog) (ds ++ gs)).all (· ≤ reachBytes) = true := hsz0
  have hval : ∀ (j : Nat) t v, Try.f5.params[j]? = some t → args[j]? = some v → Value.okWide Try.prog W .any base t v := hval0
  have hW' := hW
  obtain ⟨p, q, hA0, hV, rfl, hfz, hnd⟩ := hW
  have hA : DataW.TrodAll enc Try.prog W 0 (fun _ => true) true Try.f5.params.toList args.toList ds p := hA0
  rw [Try.params5] at hA hval hsz
  obtain ⟨v0, vs0, d0, ds0, p0, q0, hargs, rfl, rfl, h0, r0⟩ := trodAll_cons hA
  obtain ⟨rfl, rfl, rfl⟩ := trodAll_nil r0
  obtain rfl : args = #[v0] := by cases args; simp_all
  obtain ⟨rfl, rfl⟩ := trodVars_none hV
  have k0 := h0
  have lt0 : ∀ x ∈ p0, x.block < W.heap.size := by obtain ⟨m, hm⟩ := k0; exact DataW.trod_lt m _ _ _ hm
  obtain ⟨A0, c0, L0, rfl, x0, y0, m0, z0, n0⟩ := open_entries (hval 0 22 v0 rfl rfl) h0 hsz (jj := 0) rfl rfl
  clear hA0 hval0 hsz0
  refine (rising_walk W A0 c0 L0 x0 y0 m0 z0 n0).mono fun e W' ⟨he, bel⟩ => ?_
  subst he
  exact ⟨_, rfl, _, _, _, [], _, [], hW', trodAll_mk1 (shut_bool Try.underlying4 _), (trodAll_cons_mk (Below.trod laidOut (by kernel_rfl) (of_decide_eq_true (by kernel_rfl)) k0 bel lt0) trodAll_mk0), rfl, bel.frame _, fun h => by cases h⟩

theorem over : Rows.mergeRisingRow.holds Try.pinned (OpenSpec.ofChange Rows.mergeRisingSpec) :=
  OpenClaim.holds_of_wide 5 Try.f5 rfl rfl rfl rfl rfl rfl rfl ⟨rfl, rfl, rfl, rfl, rfl⟩ rfl rfl rfl rfl rfl (by kernel_rfl) Try.func5 (by kernel_rfl)
    (of_decide_eq_true (by kernel_rfl)) (by unfold Func.isWrapper; first | (rw [if_pos (by decide +kernel)]; kernel_rfl) | (rw [if_neg (by decide +kernel)]; exact ⟨rfl, rfl⟩))
    (fun os started H enc _ => lifted os started H enc)

theorem proved : Rows.MergeRisingSaid := over
end Go.Proofs.Ytlnihaeeoolkhaa.mergeRising
