/- The reference's reader: a list of numbers. -/
import Derived.Test.YtcofnbeemfhcpaaRtext
namespace Go.Proofs.Ytcofnbeemfhcpaa
open Go.ChangeShapes Go.WideShapes Go.ChangeAt Go.RowKit

def RErrList (most : Int) (l : List Nat) (n : Int) : Prop := RErrCount most l n ∨ (n = 4 ∧ ∃ m mid, Begins l m mid ∧ (m : Int) ≤ most ∧ ∃ xs rest, xs.length < m ∧ AllNum mid xs rest ∧ NoNum rest)
def lenOf : Value → Nat
  | .slice _ n _ => n
  | _ => 0

end Go.Proofs.Ytcofnbeemfhcpaa
