/- The reference's reader: bytes. -/
import Derived.Test.YtcofnbeemfhcpaaRnumb
namespace Go.Proofs.Ytcofnbeemfhcpaa
open Go.ChangeShapes Go.WideShapes Go.ChangeAt Go.RowKit

def RErrText (most : Int) (l : List Nat) (n : Int) : Prop := RErrCount most l n ∨ (n = 4 ∧ ∃ m rest, Begins l m rest ∧ (m : Int) ≤ most ∧ rest.length < m)

end Go.Proofs.Ytcofnbeemfhcpaa
