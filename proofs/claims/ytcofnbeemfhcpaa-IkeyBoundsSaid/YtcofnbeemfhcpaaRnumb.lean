/- The reference's reader: its numbers. -/
import Derived.Test.YtcofnbeemfhcpaaRread
namespace Go.Proofs.Ytcofnbeemfhcpaa
open Go.ChangeShapes Go.WideShapes Go.ChangeAt Go.RowKit

/-- The digits from place j on. -/
def Vd (l : List Nat) (m j : Nat) : Nat := val ((l.take m).drop j)
theorem vd_step {l : List Nat} {m j : Nat} (hm : m ≤ l.length) (hj : j < m) : Vd l m j = l[j]'(by omega) % 128 + 128 * Vd l m (j + 1) := by
  unfold Vd
  have h1 : j < (l.take m).length := by simp; omega
  rw [List.drop_eq_getElem_cons h1, val]
  simp
theorem vd_le (l : List Nat) (m : Nat) : ∀ j, Vd l m j ≤ val (l.take m) := by
  intro j
  have h := val_append ((l.take m).take j) ((l.take m).drop j)
  rw [List.take_append_drop] at h
  unfold Vd
  have h2 : 0 < 128 ^ ((l.take m).take j).length := Nat.pow_pos (by omega)
  have := Nat.le_mul_of_pos_left (val ((l.take m).drop j)) h2
  omega
theorem vd_top (l : List Nat) (m : Nat) (hm : m ≤ l.length) : Vd l m m = 0 := by
  unfold Vd; rw [List.drop_of_length_le (by simp; omega)]; rfl
theorem vd_zero (l : List Nat) (m : Nat) : Vd l m 0 = val (l.take m) := by simp [Vd]
theorem vd_sum {a x s : Nat} (h : s = x % 128 + 128 * a) (h2 : s < 18446744073709551616) : a * 128 < 18446744073709551616 ∧ a * 128 + x % 128 = s := by omega

theorem wrap_step {a x s : Nat} (h : a * 128 < 18446744073709551616) (h2 : a * 128 + x % 128 = s) (hs : s < 18446744073709551616) :
    IntKind.u64.wrap (IntKind.u64.wrap ((a : Int) * 128) + (x : Int) % 128) = (s : Int) := by
  have e1 : ∀ n : Int, 0 ≤ n → n < 18446744073709551616 → IntKind.u64.wrap n = n := fun n h0 h1 => by
    simp only [IntKind.wrap_u64]; omega
  have h3 : (a : Int) * 128 < 18446744073709551616 := by omega
  rw [e1 _ (by omega) h3, e1 _ (by omega) (by omega)]
  omega

theorem half_even {n : Nat} (h : n < 18446744073709551616) : ((n : Int) / 2) < 9223372036854775808 := by omega
theorem zz_half (n : Nat) : (n % 2 = 0 → zz ((n : Int) / 2) = n) ∧ (n % 2 = 1 → zz (-1 - (n : Int) / 2) = n) := by
  constructor
  · intro h; unfold zz; rw [if_pos (by omega)]; omega
  · intro h; unfold zz; rw [if_neg (by omega)]; omega

/-- Why the reference counts none. -/
def RErrCount (most : Int) (l : List Nat) (n : Int) : Prop := (n = 4 ∧ NoNum l) ∨ (n = 3 ∧ ∃ m rest, Begins l m rest ∧ most < (m : Int))

end Go.Proofs.Ytcofnbeemfhcpaa
