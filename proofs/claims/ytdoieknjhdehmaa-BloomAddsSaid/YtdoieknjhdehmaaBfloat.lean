/- A whole number below 2^32, as a float64 and back, is what it was: nothing of the program stands here. -/
import Derived.Laws.FloatArith
import Derived.Laws.Cover3
namespace Go.Proofs.Ytdoieknjhdehmaa
open Go Ieee

theorem dbl_nearest (n : Nat) (h0 : 0 < n) (L : Nat) (hL : n.log2 = L) (h : L ≤ 31) : Ieee.double.nearest false n 0 = (L + 1022) * 2 ^ 52 + n * 2 ^ (52 - L) := by
  have hlo : 2 ^ L ≤ n := by rw [← hL]; exact Nat.log2_self_le (by omega)
  have hhi : n < 2 ^ (L + 1) := by rw [← hL]; exact Nat.lt_log2_self
  have hK : n * 2 ^ (52 - L) < 2 ^ 53 := by
    have : n * 2 ^ (52 - L) < 2 ^ (L + 1) * 2 ^ (52 - L) := Nat.mul_lt_mul_of_pos_right hhi (Nat.two_pow_pos _)
    rw [← Nat.pow_add, show L + 1 + (52 - L) = 53 by omega] at this
    exact this
  unfold Ieee.Format.nearest
  rw [if_neg (by omega), hL]
  have e1 : Ieee.double.leastPlace = -1074 := by decide
  have e2 : Ieee.double.fractionBits = 52 := rfl
  have e3 : Ieee.double.binade = 2 ^ 52 := rfl
  have e4 : Ieee.double.infRung = 2047 * 2 ^ 52 := by decide
  have e5 : max ((0 : Int) + (L : Int) - ((52 : Nat) : Int)) (-1074) = (L : Int) - 52 := by omega
  rw [e1, e2, e3, e4, e5]
  have e6 : ((0 : Int) - ((L : Int) - 52)).toNat = 52 - L := by omega
  have e7 : ((L : Int) - 52 - 0).toNat = 0 := by omega
  have e8 : ((L : Int) - 52 - -1074).toNat = L + 1022 := by omega
  dsimp only
  rw [e6, e7, e8, Nat.shiftLeft_eq]
  have e9 : Ieee.Toward.even.cut false (n * 2 ^ (52 - L)) 0 = n * 2 ^ (52 - L) := by
    unfold Ieee.Toward.cut
    simp [Nat.mod_one]
  rw [e9]
  unfold Ieee.Format.word
  rw [if_neg (by simp), Nat.min_eq_left]
  generalize n * 2 ^ (52 - L) = K at hK
  clear hlo hhi hL h0 e1 e2 e3 e4 e5 e6 e7 e8 e9
  rw [show (2 : Nat) ^ 53 = 9007199254740992 from rfl] at hK
  rw [show (2 : Nat) ^ 52 = 4503599627370496 from rfl]
  omega

theorem read_normal (f : Ieee.Format) (w : Nat) (h1 : ¬ w % f.signWeight < f.binade) (h2 : w % f.signWeight < f.infRung) :
    f.read w = .number (w / f.signWeight % 2 == 1) (f.binade + w % f.signWeight % f.binade) (f.leastPlace + (w % f.signWeight / f.binade - 1 : Nat)) := by
  unfold Ieee.Format.read
  exact (if_neg h1).trans (if_pos h2)

theorem dbl_read (L K : Nat) (h : L ≤ 31) (h1 : 2 ^ 52 ≤ K) (h2 : K < 2 ^ 53) : Ieee.double.read ((L + 1022) * 2 ^ 52 + K) = .number false K ((L : Int) - 52) := by
  have e1 : Ieee.double.leastPlace = -1074 := by decide
  have e3 : Ieee.double.binade = 2 ^ 52 := rfl
  have e4 : Ieee.double.infRung = 2047 * 2 ^ 52 := by decide
  have e5 : Ieee.double.signWeight = 2 ^ 63 := rfl
  have hb : (L + 1022) * 2 ^ 52 + K < 2 ^ 63 := by omega
  rw [read_normal _ _ (by rw [e5, e3, Nat.mod_eq_of_lt hb]; omega) (by rw [e5, e4, Nat.mod_eq_of_lt hb]; omega), e1, e3, e5, Nat.mod_eq_of_lt hb, Nat.div_eq_of_lt hb]
  have h3 : 2 ^ 52 + ((L + 1022) * 2 ^ 52 + K) % 2 ^ 52 = K := by omega
  have h4 : ((L + 1022) * 2 ^ 52 + K) / 2 ^ 52 - 1 = L + 1022 := by omega
  rw [h3, h4]
  have h6 : (-1074 : Int) + ((L + 1022 : Nat) : Int) = (L : Int) - 52 := by omega
  rw [h6]
  rfl

/-- float64 of a whole number, cut to a whole number again. -/
theorem round_u32 (n : Nat) (h : n < 4294967296) : floatToIntVal .f64 (floatOfInt .f64 (n : Int)) .u32 = some (n : Int) := by
  have key : ((FloatKind.f64).decode ((FloatKind.f64).nearest (n : Int))).toInt .zero = some (n : Int) := by
    have ed : ∀ b, (FloatKind.f64).decode b = Ieee.double.read b := fun _ => rfl
    have ee : (FloatKind.f64).nearest (n : Int) = Ieee.double.nearest false n 0 := by
      show Ieee.double.nearest (decide ((n : Int) < 0)) (n : Int).natAbs 0 = _
      rw [decide_eq_false (by omega), Int.natAbs_natCast]
    rw [ed, ee]
    rcases Nat.eq_zero_or_pos n with rfl | h0
    · decide +kernel
    · obtain ⟨L, hL⟩ : ∃ L, n.log2 = L := ⟨_, rfl⟩
      have hlo : 2 ^ L ≤ n := by rw [← hL]; exact Nat.log2_self_le (by omega)
      have hhi : n < 2 ^ (L + 1) := by rw [← hL]; exact Nat.lt_log2_self
      have hL31 : L ≤ 31 := by
        rcases Nat.lt_or_ge 31 L with h' | h'
        · have : 2 ^ 32 ≤ 2 ^ L := Nat.pow_le_pow_right (by decide) h'
          omega
        · exact h'
      have hK1 : 2 ^ 52 ≤ n * 2 ^ (52 - L) := by
        have : 2 ^ L * 2 ^ (52 - L) ≤ n * 2 ^ (52 - L) := Nat.mul_le_mul_right _ hlo
        rw [← Nat.pow_add, show L + (52 - L) = 52 by omega] at this
        exact this
      have hK2 : n * 2 ^ (52 - L) < 2 ^ 53 := by
        have : n * 2 ^ (52 - L) < 2 ^ (L + 1) * 2 ^ (52 - L) := Nat.mul_lt_mul_of_pos_right hhi (Nat.two_pow_pos _)
        rw [← Nat.pow_add, show L + 1 + (52 - L) = 53 by omega] at this
        exact this
      rw [dbl_nearest n h0 L hL hL31, dbl_read L _ hL31 hK1 hK2]
      unfold Ieee.Datum.toInt Ieee.Datum.integral
      dsimp only
      have e1 : ((L : Int) - 52).toNat = 0 := by omega
      have e2 : (-((L : Int) - 52)).toNat = 52 - L := by omega
      rw [e1, e2, Nat.shiftLeft_zero]
      have e3 : Ieee.Toward.zero.cut false (n * 2 ^ (52 - L)) (52 - L) = n := by
        unfold Ieee.Toward.cut
        dsimp only
        have hlg : 52 - L ≤ (n * 2 ^ (52 - L)).log2 + 2 := by
          have : 52 ≤ (n * 2 ^ (52 - L)).log2 := (Nat.le_log2 (by omega)).2 hK1
          omega
        rw [Nat.min_eq_left hlg, Nat.one_shiftLeft, Nat.mul_div_cancel _ (Nat.two_pow_pos _)]
        rfl
      rw [e3]
      unfold Ieee.signed
      simp
  unfold floatToIntVal floatOfInt
  rw [key]
  have e : IntKind.u32.min = 0 := by decide
  have e' : IntKind.u32.max = 4294967295 := by decide
  rw [e, e']
  dsimp only
  rw [if_pos (by omega)]
end Go.Proofs.Ytdoieknjhdehmaa
