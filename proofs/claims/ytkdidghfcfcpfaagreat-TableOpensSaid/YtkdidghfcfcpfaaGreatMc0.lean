import Derived.Lib.Hide
namespace Go.Proofs.YtkdidghfcfcpfaaGreat
theorem zq.{u} : (∀ {α : Type u} {l : List α} {i : Nat} {a : α}, l.toArray.setIfInBounds i a = (l.set i a).toArray) ∧ (∀ {α : Type u} {a b : α} {l : List α}, (a :: l).set 0 b = b :: l) ∧ (∀ {α : Type u} {a b : α} {n : Nat} {l : List α}, (a :: l).set (n + 1) b = a :: l.set n b) := ⟨List.setIfInBounds_toArray .., rfl, rfl⟩
theorem zHd {p : Prop} (h : p) : RowKit.Hid p := Lib.hid h
theorem zNr (n : Nat) : n ≤ n := Nat.le_refl n
theorem zNt {n m k : Nat} (h : n ≤ m) (h2 : m ≤ k) : n ≤ k := Nat.le_trans h h2
theorem zAg.{u} {α : Type u} {xs : Array α} {i : Nat} {b : α} : xs[i]? = some b ↔ ∃ h : i < xs.size, xs[i] = b := Array.getElem?_eq_some_iff
theorem zLg.{u} {α : Type u} {l : List α} {i : Nat} {a : α} : l[i]? = some a ↔ ∃ h : i < l.length, l[i] = a := List.getElem?_eq_some_iff
end Go.Proofs.YtkdidghfcfcpfaaGreat
