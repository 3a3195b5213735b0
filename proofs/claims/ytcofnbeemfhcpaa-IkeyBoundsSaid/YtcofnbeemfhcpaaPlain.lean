/- Plain arithmetic of the forms of numbers: nothing of the program stands here. -/
namespace Go.Proofs.Ytcofnbeemfhcpaa

/-- The form of a number. -/
def form (n : Nat) : List Nat := if n < 128 then [n] else (n % 128 + 128) :: form (n / 128)
termination_by n
decreasing_by omega
theorem form_lo {n : Nat} (h : n < 128) : form n = [n] := by rw [form, if_pos h]
theorem form_hi {n : Nat} (h : ¬ n < 128) : form n = (n % 128 + 128) :: form (n / 128) := by rw [form, if_neg h]
theorem form_len (k : Nat) : ∀ n, n < 128 ^ (k + 1) → (form n).length ≤ k + 1 := by
  induction k with
  | zero => intro n h; rw [form_lo (by simpa using h)]; simp
  | succ k ih =>
    intro n h
    by_cases h0 : n < 128
    · rw [form_lo h0]; simp
    · rw [form_hi h0]
      have := ih (n / 128) (by rw [Nat.div_lt_iff_lt_mul (by omega)]; rw [Nat.pow_succ] at h; exact h)
      simp only [List.length_cons]; omega
theorem form_bytes (n : Nat) : ∀ b ∈ form n, b < 256 := by
  induction n using Nat.strongRecOn with
  | ind n ih =>
    by_cases h0 : n < 128
    · rw [form_lo h0]; intro b hb; simp at hb; omega
    · rw [form_hi h0]
      intro b hb
      rcases List.mem_cons.1 hb with rfl | hb
      · omega
      · exact ih (n / 128) (by omega) b hb
end Go.Proofs.Ytcofnbeemfhcpaa
namespace Go.Proofs.Ytcofnbeemfhcpaa
/-- A number of 64 bits (closed to the walk). -/
structure U64 (n : Nat) : Prop where
  lt : n < 18446744073709551616
theorem U64.div {n : Nat} (h : U64 n) (k : Nat) : U64 (n / k) := ⟨Nat.lt_of_le_of_lt (Nat.div_le_self _ _) h.lt⟩
theorem form_len64 {n : Nat} (h : U64 n) : (form n).length ≤ 10 := form_len 9 n (Nat.lt_of_lt_of_le h.lt (by decide))

/-- A signed number as one from 0 on: near 0 stays near 0. -/
def zz (n : Int) : Nat := if 0 ≤ n then (2 * n).toNat else (-2 * n - 1).toNat
theorem zz_pos {n : Int} (h : 0 ≤ n) : (zz n : Int) = n * 2 := by unfold zz; rw [if_pos h]; omega
theorem zz_neg {n : Int} (h : n < 0) : (zz n : Int) = -2 * n - 1 := by unfold zz; rw [if_neg (by omega)]; omega
theorem zz_64 {n : Int} (h1 : -9223372036854775808 ≤ n) (h2 : n ≤ 9223372036854775807) : U64 (zz n) := by
  constructor
  rcases Int.lt_or_le n 0 with h | h
  · have := zz_neg h; omega
  · have := zz_pos h; omega
theorem xor_ones (x : Nat) (h : x < 18446744073709551616) : x ^^^ 18446744073709551615 = 18446744073709551615 - x := by
  have h1 : ((BitVec.ofNat 64 x) ^^^ BitVec.allOnes 64).toNat = (~~~ (BitVec.ofNat 64 x)).toNat := by rw [BitVec.xor_allOnes]
  rw [BitVec.toNat_xor, BitVec.toNat_not, BitVec.toNat_allOnes, BitVec.toNat_ofNat] at h1
  have e : x % 2 ^ 64 = x := Nat.mod_eq_of_lt (by omega)
  rw [e] at h1
  simpa using h1

theorem flat_take_le (ls : List (List Nat)) (k : Nat) : (ls.take k).flatten.length ≤ ls.flatten.length := by
  have h := congrArg List.flatten (List.take_append_drop k ls)
  rw [List.flatten_append] at h
  have := congrArg List.length h
  simp only [List.length_append] at this
  omega
theorem flat_take_succ (ls : List (List Nat)) {k : Nat} (h : k < ls.length) : (ls.take (k + 1)).flatten = (ls.take k).flatten ++ ls[k] := by
  rw [List.take_succ_eq_append_getElem h, List.flatten_append]; simp
/-- How many bytes the first k rows have together. -/
def tot (ls : List (List Nat)) (k : Nat) : Nat := (ls.take k).flatten.length
theorem tot_zero (ls : List (List Nat)) : tot ls 0 = 0 := by simp [tot]
theorem tot_le (ls : List (List Nat)) (k : Nat) : tot ls k ≤ ls.flatten.length := flat_take_le ls k
theorem tot_succ (ls : List (List Nat)) {k : Nat} (h : k < ls.length) : tot ls (k + 1) = tot ls k + ls[k].length := by
  unfold tot; rw [flat_take_succ ls h, List.length_append]
theorem tot_all (ls : List (List Nat)) : tot ls ls.length = ls.flatten.length := by unfold tot; rw [List.take_length]
end Go.Proofs.Ytcofnbeemfhcpaa
