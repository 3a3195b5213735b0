/- EditMay: from the walk to the statement. For every input the law answers true and leaves its arguments as they were. -/
import Derived.Test.YtjlppjffkebejaaMa9

/- The law EditMay: whatever the versions, the answer is true. -/
namespace Go.Proofs.Ytjlppjffkebejaa
open Go.ChangeShapes Go.WideShapes Go.ChangeAt Go.RowKit

theorem editMay.walk (w : World) (V : Ver) (A : Option Addr) (c : Nat) (L : List (Tab × TabH)) (_hb : I64 V.next ∧ I64 V.log ∧ I64 V.index ∧ I64 V.seq) (h : tabs w 0 w.heap.size A L) (hln : ∀ p ∈ L, p.1.fst.length ≤ 140737488351232 ∧ p.1.lst.length ≤ 140737488351232) (_hn : A = none → c = 0) :
    Calls Try.prog 4 #[.agg #[.int .i64 V.next, .int .i64 V.log, .int .i64 V.index, .int .i64 V.seq, .slice A L.length c]] w fun e w' => e = .returned (.bool true) ∧ Ext w w' :=
  lemay_any V h hln fun u _ => known10_any u
end Go.Proofs.Ytjlppjffkebejaa

/- EditMay: from the walk to the statement. For every input the law answers true and leaves its arguments as they were. -/
namespace Go.Proofs.Ytjlppjffkebejaa.editMay
open Go.ChangeShapes Go.WideShapes Go.ChangeAt Go.RowKit
set_option linter.unusedVariables false

set_option maxRecDepth 100000 in
theorem lifted (os : Os) (started : os.Started) (H : Type) (enc : TypeId × Value → H) :
    ReturnsInHanded {} Try.checked os 4 .any (Rows.editMaySpec.pre6 enc Try.prog Try.f4 Rows.editMayRow.domain false) (Rows.editMaySpec.post enc Try.prog Try.f4 false true false false) := by
  refine returnsInHanded_of_change_sized (C := Try.checked) own started (by kernel_rfl) Try.func4
    (ChangeSpec.witness6 (enc := enc) (C := Try.checked) false ⟨#[], #[.agg #[.int .i64 0, .int .i64 0, .int .i64 0, .int .i64 0, .slice none 0 0]], []⟩ 8 (by kernel_rfl) (by kernel_rfl) (by kernel_rfl) (by kernel_rfl)) ?_
  intro W base args ds gs before hval0 hW hcnd hsz0 _
  have hsz : (DataW.weightsEach Try.prog (Try.f4.params.toList ++ Rows.editMaySpec.plain.varTypes Try.prog) (ds ++ gs)).all (· ≤ reachBytes) = true := hsz0
  have hval : ∀ (j : Nat) t v, Try.f4.params[j]? = some t → args[j]? = some v → Value.okWide Try.prog W .any base t v := hval0
  have hW' := hW
  obtain ⟨p, q, hA0, hV, rfl, hfz, hnd⟩ := hW
  have hA : DataW.TrodAll enc Try.prog W 0 (fun _ => true) true Try.f4.params.toList args.toList ds p := hA0
  rw [Try.params4] at hA hval hsz
  obtain ⟨v0, vs0, d0, ds0, p0, q0, hargs, rfl, rfl, h0, r0⟩ := trodAll_cons hA
  obtain ⟨rfl, rfl, rfl⟩ := trodAll_nil r0
  obtain rfl : args = #[v0] := by cases args; simp_all
  obtain ⟨rfl, rfl⟩ := trodVars_none hV
  have k0 := h0
  have lt0 : ∀ x ∈ p0, x.block < W.heap.size := by obtain ⟨m, hm⟩ := k0; exact DataW.trod_lt m _ _ _ hm
  obtain ⟨V0, A0, c0, L0, rfl, b0, m0, z0, n0⟩ := open_ver (hval 0 36 v0 rfl rfl) h0 hsz (jj := 0) rfl rfl
  clear hA0 hval0 hsz0
  refine (walk W V0 A0 c0 L0 b0 m0 z0 n0).mono fun e W' ⟨he, bel⟩ => ?_
  subst he
  exact ⟨_, rfl, _, _, _, [], _, [], hW', trodAll_mk1 (shut_bool Try.underlying4 _), (trodAll_cons_mk (Below.trod laidOut (by kernel_rfl) (of_decide_eq_true (by kernel_rfl)) k0 bel lt0) trodAll_mk0), rfl, bel.frame _, fun h => by cases h⟩

theorem over : Rows.editMayRow.holds Try.pinned (OpenSpec.ofChange Rows.editMaySpec) :=
  OpenClaim.holds_of_wide 4 Try.f4 rfl rfl rfl rfl rfl rfl rfl ⟨rfl, rfl, rfl, rfl, rfl⟩ rfl rfl rfl rfl rfl (by kernel_rfl) Try.func4 (by kernel_rfl)
    (of_decide_eq_true (by kernel_rfl)) (by unfold Func.isWrapper; first | (rw [if_pos (by decide +kernel)]; kernel_rfl) | (rw [if_neg (by decide +kernel)]; exact ⟨rfl, rfl⟩))
    (fun os started H enc _ => lifted os started H enc)

theorem proved : Rows.EditMaySaid := over
end Go.Proofs.Ytjlppjffkebejaa.editMay
