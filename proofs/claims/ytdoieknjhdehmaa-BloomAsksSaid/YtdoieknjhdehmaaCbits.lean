/- What crc does to its register, bit by bit. -/
import Derived.Test.YtdoieknjhdehmaaWords
import Derived.Test.YtdoieknjhdehmaaCplain
import Derived.WalkLawsBesides
import Derived.WalkSpells
import Derived.ProofKit
import Derived.Outline
namespace Go.Proofs.Ytdoieknjhdehmaa
open Go.ChangeShapes Go.WideShapes Go.ChangeAt Go.RowKit

theorem and_one (m : Nat) (h : m < 4294967296) : bits .and .u32 (m : Int) 1 = ((m % 2 : Nat) : Int) := by
  have := u32_and_nat m 1 h (by omega)
  rw [nat_mask1] at this
  exact this
theorem and_all (p : Nat) (h : p < 4294967296) : bits .and .u32 (p : Int) 4294967295 = (p : Int) := by
  have := u32_and_nat p 4294967295 h (by omega)
  rw [show p &&& 4294967295 = p % 4294967296 from Nat.and_two_pow_sub_one_eq_mod p 32, Nat.mod_eq_of_lt h] at this
  exact this
theorem and_none (p : Nat) (h : p < 4294967296) : bits .and .u32 (p : Int) 0 = 0 := by
  have := u32_and_nat p 0 h (by omega)
  simpa using this
theorem and_mask (p m : Nat) (hp : p < 4294967296) (h : m < 4294967296) : bits .and .u32 (p : Int) (-bits .and .u32 (m : Int) 1 % 4294967296) = ((m % 2 * p : Nat) : Int) := by
  rw [and_one m h]
  rcases Nat.mod_two_eq_zero_or_one m with k | k
  · rw [k]; simpa using and_none p hp
  · rw [k]; simpa using and_all p hp
theorem xor_u32 {a b : Nat} (h : a < 4294967296) (k : b < 4294967296) : bits .xor .u32 (a : Int) (b : Int) = ((a ^^^ b : Nat) : Int) := u32_xor_nat a b h k
theorem sh_bits {m : Nat} (h : m < 4294967296) : bits .xor .u32 ((m : Int) / 2) (bits .and .u32 2197175160 (-bits .and .u32 (m : Int) 1 % 4294967296)) = (sh m : Nat) := by
  have e := and_mask 2197175160 m (by omega) h
  have e1 : ((2197175160 : Nat) : Int) = 2197175160 := rfl
  rw [e1] at e
  have e2 : ((m / 2 : Nat) : Int) = (m : Int) / 2 := by omega
  have hb : m % 2 * 2197175160 < 4294967296 := by omega
  rw [e, ← e2, xor_u32 (by omega) hb]
  rfl

theorem shifted_any (s n : Nat) (hs : s < 4294967296) (hn : n ≤ 100) (w : World) :
    Calls Try.prog 43 #[.int .u32 (s : Int), .int .i64 (n : Int)] w fun e w' => e = .returned (.int .u32 (shn n s : Nat)) ∧ w = w' := by
  have HS := Lib.hid hs
  clear hs
  go_enter Try.func43, Try.ntmps43
  go_wp2_with fail
  go_loop [0, 7] (fun x i => ∃ (k m : Nat), k ≤ n ∧ i = .int .i64 (k : Int) ∧ x = .int .u32 (m : Int) ∧ Hid (m = shn k s)) (fun _ i => n - (intOf i).toNat)
  case atStart => exact ⟨0, s, Nat.zero_le _, rfl, rfl, Lib.hid rfl⟩
  case round =>
    obtain ⟨k, m, hk, rfl, rfl, hm⟩ := hrel
    have e := Lib.hid (sh_bits (m := m) (by rw [hm.out]; exact shn_lt HS.out))
    by_cases hlt : k < n
    · go_wp2_with fail
      go_round
      case rel => exact ⟨k + 1, sh m, by omega, by go_num, by rw [e.out], Lib.hid (by rw [hm.out, shn_succ'])⟩
      case measure => simp [intOf]; omega
    · go_wp2_with fail
      go_ret
      obtain rfl : k = n := by omega
      exact ⟨by rw [hm.out]; rfl, rfl⟩
end Go.Proofs.Ytdoieknjhdehmaa
