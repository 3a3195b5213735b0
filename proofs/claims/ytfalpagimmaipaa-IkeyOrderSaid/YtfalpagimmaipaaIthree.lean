/- Three entries that came in, in an array. -/
import Derived.Test.YtfalpagimmaipaaIargs
namespace Go.Proofs.Ytfalpagimmaipaa
open Go.ChangeShapes Go.WideShapes Go.ChangeAt Go.RowKit Go.Joins

/-- The three as one value. -/
def three (a b c : Ent × Hd) : Value := .agg (ecells a ++ (ecells b ++ ecells c)).toArray

section
variable {H : Type} {enc : TypeId × Value → H} {W : World}
set_option maxRecDepth 100000 in
theorem open_three {v : Value} {d : DataW H} {p : List MemPlace} {b0 : Nat} (hv : Value.okWide Try.prog W .any b0 33 v) (h : DataW.Trod enc Try.prog W 0 (fun _ => true) true 33 v d p)
    {ts : List TypeId} {ds : List (DataW H)} (hsz : (DataW.weightsEach Try.prog ts ds).all (· ≤ reachBytes) = true) {jj : Nat} (hts : ts[jj]? = some 33) (hds : ds[jj]? = some d) :
    ∃ (ea : Ent) (ga : Hd) (eb : Ent) (gb : Hd) (ec : Ent) (gc : Hd), v = three (ea, ga) (eb, gb) (ec, gc) ∧ Em W 0 W.heap.size ea ga ∧ Em W 0 W.heap.size eb gb ∧ Em W 0 W.heap.size ec gc ∧
      (ea.key.length ≤ 140737488351232 ∧ ea.val.length ≤ 140737488351232) ∧ (eb.key.length ≤ 140737488351232 ∧ eb.val.length ≤ 140737488351232) ∧ (ec.key.length ≤ 140737488351232 ∧ ec.val.length ≤ 140737488351232) := by
  simp only [Value.okWide, Try.underlying33] at hv
  obtain ⟨cs, rfl, hs, _⟩ := hv
  obtain ⟨fuel, hf⟩ := h
  obtain ⟨xs, m, rfl, hx, hl, hn, hat⟩ := DataW.trod_array Try.underlying33 hf
  have hC : Try.prog.cellsOf 25 = 4 := by kernel_rfl
  have hC3 : Try.prog.cellsOf 33 = 12 := by kernel_rfl
  rw [hC3] at hl
  rw [hC] at hat
  obtain ⟨x0, x1, x2, rfl⟩ : ∃ a b c, xs = [a, b, c] := by
    match xs, hn with
    | [a, b, c], _ => exact ⟨a, b, c, rfl⟩
  have hd : d = .agg [x0.1, x1.1, x2.1] := congrArg Prod.fst hx
  have hw : ∀ y ∈ [x0.1, x1.1, x2.1], ∀ n ∈ DataW.weights Try.prog 25 y, n ≤ reachBytes := fun y hy n hn => by
    refine of_decide_eq_true (List.all_eq_true.1 hsz _ (DataW.weights_mem_each hts hds n ?_))
    rw [hd]
    simp only [DataW.weights, Try.underlying33]
    exact weightsAll_at hy n hn
  obtain ⟨ea, ga, h0, m0, w0⟩ := cells_entry ((hat 0 (by omega)).trans (show [x0, x1, x2][0]? = some x0 from rfl))
  obtain ⟨eb, gb, h1, m1, w1⟩ := cells_entry ((hat 1 (by omega)).trans (show [x0, x1, x2][1]? = some x1 from rfl))
  obtain ⟨ec, gc, h2, m2, w2⟩ := cells_entry ((hat 2 (by omega)).trans (show [x0, x1, x2][2]? = some x2 from rfl))
  have l0 := w0 (hw _ (by simp))
  have l1 := w1 (hw _ (by simp))
  have l2 := w2 (hw _ (by simp))
  rw [reach_is] at l0 l1 l2
  refine ⟨ea, ga, eb, gb, ec, gc, ?_, m0, m1, m2, l0, l1, l2⟩
  unfold three
  congr 1
  have hv : (Value.agg cs).cells = cs := rfl
  rw [hv] at hl h0 h1 h2
  rw [← h0, ← h1, ← h2]
  have e : cs.toList.take 4 ++ ((cs.toList.drop 4).take 4 ++ (cs.toList.drop 8).take 4) = cs.toList := by
    have e2 : (cs.toList.drop 8).take 4 = cs.toList.drop 8 := List.take_of_length_le (by rw [List.length_drop]; omega)
    have e3 : cs.toList.drop 8 = (cs.toList.drop 4).drop 4 := by rw [List.drop_drop]
    rw [e2, e3, List.take_append_drop, List.take_append_drop]
  simp only [Nat.zero_mul, Nat.one_mul, List.drop_zero, Nat.reduceMul]
  rw [e]
end
end Go.Proofs.Ytfalpagimmaipaa
