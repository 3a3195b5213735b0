/- EditSame: from the walk to the statement. For every input the law answers true and leaves its arguments as they were. -/
import Derived.Test.YtjlppjffkebejaaMa10
import Derived.Test.YtjlppjffkebejaaMa9

/- The law EditSame: whatever the versions, the answer is true. -/
namespace Go.Proofs.Ytjlppjffkebejaa
open Go.ChangeShapes Go.WideShapes Go.ChangeAt Go.RowKit

theorem editSame.walk (w : World) (V : Ver) (A : Option Addr) (c : Nat) (L : List (Tab × TabH)) (_hb : I64 V.next ∧ I64 V.log ∧ I64 V.index ∧ I64 V.seq) (h : tabs w 0 w.heap.size A L) (_hln : ∀ p ∈ L, p.1.fst.length ≤ 140737488351232 ∧ p.1.lst.length ≤ 140737488351232) (_hn : A = none → c = 0)
    (V2 : Ver) (A2 : Option Addr) (c2 : Nat) (L2 : List (Tab × TabH)) (_hb2 : I64 V2.next ∧ I64 V2.log ∧ I64 V2.index ∧ I64 V2.seq) (h2 : tabs w 0 w.heap.size A2 L2) (_hln2 : ∀ p ∈ L2, p.1.fst.length ≤ 140737488351232 ∧ p.1.lst.length ≤ 140737488351232) (_hn2 : A2 = none → c2 = 0) :
    Calls Try.prog 6 #[.agg #[.int .i64 V.next, .int .i64 V.log, .int .i64 V.index, .int .i64 V.seq, .slice A L.length c], .agg #[.int .i64 V2.next, .int .i64 V2.log, .int .i64 V2.index, .int .i64 V2.seq, .slice A2 L2.length c2]] w fun e w' => e = .returned (.bool true) ∧ Ext w w' :=
  lesame_any V V2 h h2 fun u _ => known10_any u
end Go.Proofs.Ytjlppjffkebejaa

/- EditSame: from the walk to the statement. For every input the law answers true and leaves its arguments as they were. -/
namespace Go.Proofs.Ytjlppjffkebejaa.editSame
open Go.ChangeShapes Go.WideShapes Go.ChangeAt Go.RowKit
set_option linter.unusedVariables false

set_option maxRecDepth 100000 in
theorem lifted (os : Os) (started : os.Started) (H : Type) (enc : TypeId × Value → H) :
    ReturnsInHanded {} Try.checked os 6 .any (Rows.editSameSpec.pre6 enc Try.prog Try.f6 Rows.editSameRow.domain false) (Rows.editSameSpec.post enc Try.prog Try.f6 false true false false) := by
  refine returnsInHanded_of_change_sized (C := Try.checked) own started (by kernel_rfl) Try.func6
    (ChangeSpec.witness6 (enc := enc) (C := Try.checked) false ⟨#[], #[.agg #[.int .i64 0, .int .i64 0, .int .i64 0, .int .i64 0, .slice none 0 0], .agg #[.int .i64 0, .int .i64 0, .int .i64 0, .int .i64 0, .slice none 0 0]], []⟩ 8 (by kernel_rfl) (by kernel_rfl) (by kernel_rfl) (by kernel_rfl)) ?_
  intro W base args ds gs before hval0 hW hcnd hsz0 _
  have hsz : (DataW.weightsEach Try.prog (Try.f6.params.toList ++ Rows.editSameSpec.plain.varTypes Try.prog) (ds ++ gs)).all (· ≤ reachBytes) = true := hsz0
  have hval : ∀ (j : Nat) t v, Try.f6.params[j]? = some t → args[j]? = some v → Value.okWide Try.prog W .any base t v := hval0
  have hW' := hW
  obtain ⟨p, q, hA0, hV, rfl, hfz, hnd⟩ := hW
  have hA : DataW.TrodAll enc Try.prog W 0 (fun _ => true) true Try.f6.params.toList args.toList ds p := hA0
  rw [Try.params6] at hA hval hsz
  obtain ⟨v0, vs0, d0, ds0, p0, q0, hargs, rfl, rfl, h0, r0⟩ := trodAll_cons hA
  obtain ⟨v1, vs1, d1, ds1, p1, q1, rfl, rfl, rfl, h1, r1⟩ := trodAll_cons r0
  obtain ⟨rfl, rfl, rfl⟩ := trodAll_nil r1
  obtain rfl : args = #[v0, v1] := by cases args; simp_all
  obtain ⟨rfl, rfl⟩ := trodVars_none hV
  have k0 := h0
  have lt0 : ∀ x ∈ p0, x.block < W.heap.size := by obtain ⟨m, hm⟩ := k0; exact DataW.trod_lt m _ _ _ hm
  obtain ⟨V0, A0, c0, L0, rfl, b0, m0, z0, n0⟩ := open_ver (hval 0 36 v0 rfl rfl) h0 hsz (jj := 0) rfl rfl
  have k1 := h1
  have lt1 : ∀ x ∈ p1, x.block < W.heap.size := by obtain ⟨m, hm⟩ := k1; exact DataW.trod_lt m _ _ _ hm
  obtain ⟨V1, A1, c1, L1, rfl, b1, m1, z1, n1⟩ := open_ver (hval 1 36 v1 rfl rfl) h1 hsz (jj := 1) rfl rfl
  clear hA0 hval0 hsz0
  refine (walk W V0 A0 c0 L0 b0 m0 z0 n0 V1 A1 c1 L1 b1 m1 z1 n1).mono fun e W' ⟨he, bel⟩ => ?_
  subst he
  exact ⟨_, rfl, _, _, _, [], _, [], hW', trodAll_mk1 (shut_bool Try.underlying4 _), (trodAll_cons_mk (Below.trod laidOut (by kernel_rfl) (of_decide_eq_true (by kernel_rfl)) k0 bel lt0) (trodAll_cons_mk (Below.trod laidOut (by kernel_rfl) (of_decide_eq_true (by kernel_rfl)) k1 bel lt1) trodAll_mk0)), rfl, bel.frame _, fun h => by cases h⟩

theorem over : Rows.editSameRow.holds Try.pinned (OpenSpec.ofChange Rows.editSameSpec) :=
  OpenClaim.holds_of_wide 6 Try.f6 rfl rfl rfl rfl rfl rfl rfl ⟨rfl, rfl, rfl, rfl, rfl⟩ rfl rfl rfl rfl rfl (by kernel_rfl) Try.func6 (by kernel_rfl)
    (of_decide_eq_true (by kernel_rfl)) (by unfold Func.isWrapper; first | (rw [if_pos (by decide +kernel)]; kernel_rfl) | (rw [if_neg (by decide +kernel)]; exact ⟨rfl, rfl⟩))
    (fun os started H enc _ => lifted os started H enc)

theorem proved : Rows.EditSameSaid := over
end Go.Proofs.Ytjlppjffkebejaa.editSame
