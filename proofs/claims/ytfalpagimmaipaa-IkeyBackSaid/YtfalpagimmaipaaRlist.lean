/- The reference's reader: a list of numbers. -/
import Derived.Test.YtfalpagimmaipaaRtext
namespace Go.Proofs.Ytfalpagimmaipaa
open Go.ChangeShapes Go.WideShapes Go.ChangeAt Go.RowKit

def RErrList (most : Int) (l : List Nat) (n : Int) : Prop := RErrCount most l n ∨ (n = 4 ∧ ∃ m mid, Begins l m mid ∧ (m : Int) ≤ most ∧ ∃ xs rest, xs.length < m ∧ AllNum mid xs rest ∧ NoNum rest)
def lenOf : Value → Nat
  | .slice _ n _ => n
  | _ => 0

def RIn (w : World) (q lo hi n : Nat) (mid : List Nat) (e v : Value) (wr : World) : Prop :=
  w.grownBy wr (some q) ∧ ((∃ (xs rest : List Nat), xs.length ≤ n ∧ e = .int .i64 0 ∧ AllNum mid xs rest ∧ Qd wr q lo hi rest ∧ wr.ownsRow w.heap.size 64 1 v xs.length (uv xs)) ∨
    (∃ (xs ys rest : List Nat), e = .int .i64 4 ∧ xs.length < n ∧ AllNum mid xs rest ∧ NoNum rest ∧ Qd wr q lo hi rest ∧ wr.ownsRow w.heap.size 64 1 v ys.length (uv ys) ∧ ys.length = xs.length + 1))

end Go.Proofs.Ytfalpagimmaipaa
