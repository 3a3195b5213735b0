/- The reference's reader. -/
import Derived.Test.YtcofnbeemfhcpaaWyes
import Derived.Test.YtcofnbeemfhcpaaWtake
import Derived.Test.YtcofnbeemfhcpaaRmore
import Derived.Test.YtcofnbeemfhcpaaOrd
import Derived.Deep.DeepCutAuto
import Derived.Deep.QuietTactic
import Derived.BigQuiet
namespace Go.Proofs.Ytcofnbeemfhcpaa
open Go.ChangeShapes Go.WideShapes Go.ChangeAt Go.RowKit
theorem below_drewN {B : Nat} {w w' : World} (h : Below B w w') (n : Nat) : Below B w (w'.drewN n) := h.trans ⟨rfl, rfl, rfl, Nat.le_refl _, fun _ _ => rfl⟩
theorem grown_refl (w : World) (row : Option Nat) : w.grownBy w row := ⟨rfl, rfl, rfl, Nat.le_refl _, fun _ _ _ => rfl⟩
theorem grown_then {a b c : World} {r : Nat} (h : a.grownBy b (some r)) (k : Below b.heap.size b c) : a.grownBy c (some r) := grownBy_below h (k.mono h.size)

/-- How many bytes the form has that stands first. -/
def Wh (l : List Nat) (m : Nat) : Prop := (m = 0 ∧ NoNum l) ∨ ∃ (i : Nat) (hi : i < l.length), m = i + 1 ∧ i ≤ 9 ∧ l[i] < 128 ∧ Begins l (val (l.take i) + 128 ^ i * l[i]) (l.drop (i + 1))

end Go.Proofs.Ytcofnbeemfhcpaa
