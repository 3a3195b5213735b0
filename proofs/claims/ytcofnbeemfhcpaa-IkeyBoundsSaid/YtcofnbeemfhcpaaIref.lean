/- The reference: May, CompareKeys, Compare, Bytes; the law's long. -/
import Derived.Test.YtcofnbeemfhcpaaIread
import Derived.Test.YtcofnbeemfhcpaaTail
import Derived.Test.YtcofnbeemfhcpaaRmore
import Derived.LoopTactic
import Derived.BigQuiet
namespace Go.Proofs.Ytcofnbeemfhcpaa
open Go.ChangeShapes Go.WideShapes Go.ChangeAt Go.RowKit

theorem cmpK_nil (b : List Nat) : cmpK [] b = if b.length = 0 then 0 else -1 := by cases b <;> simp [cmpK]
theorem cmpK_nil2 (a : List Nat) : cmpK a [] = if a.length = 0 then 0 else 1 := by cases a <;> simp [cmpK]
theorem cmpK_take {a b : List Nat} : ∀ {k : Nat}, k ≤ a.length → k ≤ b.length → a.take k = b.take k → cmpK a b = cmpK (a.drop k) (b.drop k)
  | 0, _, _, _ => by simp
  | k + 1, ha, hb, h => by
    cases a with
    | nil => simp at ha
    | cons x l =>
      cases b with
      | nil => simp at hb
      | cons y r =>
        simp only [List.take_succ_cons, List.cons.injEq] at h
        obtain ⟨rfl, h⟩ := h
        simp only [List.drop_succ_cons, cmpK]
        rw [if_neg (by omega), if_neg (by omega)]
        exact cmpK_take (by simpa using ha) (by simpa using hb) h

end Go.Proofs.Ytcofnbeemfhcpaa
