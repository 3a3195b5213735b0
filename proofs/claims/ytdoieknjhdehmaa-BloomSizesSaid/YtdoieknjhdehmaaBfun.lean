/- bloom's Size, Check and mask; a key's two numbers, and its five bits. -/
import Derived.Test.YtdoieknjhdehmaaBplain
import Derived.Test.YtdoieknjhdehmaaBfloat
import Derived.Test.YtdoieknjhdehmaaCsum
import Derived.Test.YtdoieknjhdehmaaFlow
namespace Go.Proofs.Ytdoieknjhdehmaa
open Go.ChangeShapes Go.WideShapes Go.ChangeAt Go.RowKit

/-- Size, of any number. -/
def sizeI (n : Int) : Nat := if n < 0 ∨ 65536 < n then 0 else bsize n.toNat
theorem sizeI_nat {n : Nat} (h : n ≤ 65536) : sizeI (n : Int) = bsize n := by unfold sizeI; rw [if_neg (by omega)]; rfl
theorem size_any (n : Int) (h1 : -9223372036854775808 ≤ n) (h2 : n ≤ 9223372036854775807) (w : World) :
    Calls Try.prog 10 #[.int .i64 n] w fun e w' => e = .returned (.int .i64 (sizeI n : Nat)) ∧ w = w' := by
  by_cases ha : n < 0
  · have hd : decide (n < 0) = true := by simpa using ha
    have HS : Hid (sizeI n = 0) := by unfold sizeI Hid; rw [if_pos (.inl ha)]
    go_enter Try.func10, Try.ntmps10
    go_wp2_with fail
    go_ret
    exact ⟨by rw [HS.out]; rfl, rfl⟩
  · have hd : decide (n < 0) = false := by simpa using ha
    by_cases hb : 65536 < n
    · have hd2 : decide (65536 < n) = true := by simpa using hb
      have HS : Hid (sizeI n = 0) := by unfold sizeI Hid; rw [if_pos (.inr hb)]
      go_enter Try.func10, Try.ntmps10
      go_wp2_with fail
      go_ret
      exact ⟨by rw [HS.out]; rfl, rfl⟩
    · have hd2 : decide (65536 < n) = false := by simpa using hb
      obtain ⟨m, rfl⟩ : ∃ m : Nat, n = (m : Int) := ⟨n.toNat, by omega⟩
      have HS : Hid (sizeI (m : Int) = bsize m) := sizeI_nat (by omega)
      have hm : m ≤ 65536 := by omega
      clear ha hb h1 h2
      go_enter Try.func10, Try.ntmps10
      go_wp2_with fail
      go_ret
      exact ⟨by rw [HS.out]; unfold bsize; rfl, rfl⟩

/-- Check, by the length. -/
def chk (n : Nat) : Int := if okF n = true then 0 else 4
theorem check_any {w : World} {A : Option Addr} {n c : Nat} (hn : n ≤ 9223372036854775807) :
    Calls Try.prog 19 #[.slice A n c] w fun e w' => e = .returned (.int .i64 (chk n)) ∧ w = w' := by
  by_cases h0 : n = 0
  · subst h0
    have HS : Hid (chk 0 = 4) := rfl
    go_enter Try.func19, Try.ntmps19
    go_wp2_with fail
    go_ret
    exact ⟨by rw [HS.out]; rfl, rfl⟩
  · have hd : ((n : Int) == 0) = false := by simpa using h0
    by_cases h1 : n % 8 = 0
    · have hd1 : ((n : Int) % 8 != 0) = false := by simp; omega
      by_cases h2 : n ≤ 131072
      · have hd2 : decide ((131072 : Int) < (n : Int)) = false := by simp; omega
        have HS : Hid (chk n = 0) := by unfold chk okF Hid; rw [if_pos (by simp; omega)]
        clear h0 h1 h2
        go_enter Try.func19, Try.ntmps19
        go_wp2_with fail
        go_ret
        exact ⟨by rw [HS.out]; rfl, rfl⟩
      · have hd2 : decide ((131072 : Int) < (n : Int)) = true := by simp; omega
        have HS : Hid (chk n = 4) := by unfold chk okF Hid; rw [if_neg (by simp; omega)]
        clear h0 h1 h2
        go_enter Try.func19, Try.ntmps19
        go_wp2_with fail
        go_ret
        exact ⟨by rw [HS.out]; rfl, rfl⟩
    · have hd1 : ((n : Int) % 8 != 0) = true := by simp; omega
      have HS : Hid (chk n = 4) := by unfold chk okF Hid; rw [if_neg (by simp; omega)]
      clear h0 h1
      go_enter Try.func19, Try.ntmps19
      go_wp2_with fail
      go_ret
      exact ⟨by rw [HS.out]; rfl, rfl⟩

theorem shl8 (p : Nat) : (2 : Int) ^ (p % 8) % 256 = ((2 ^ (p % 8) : Nat) : Int) := by
  have : p % 8 < 8 := Nat.mod_lt _ (by decide)
  generalize p % 8 = q at this
  match q, this with
  | 0, _ => rfl
  | 1, _ => rfl
  | 2, _ => rfl
  | 3, _ => rfl
  | 4, _ => rfl
  | 5, _ => rfl
  | 6, _ => rfl
  | 7, _ => rfl
theorem mask_any (j : Nat) (hj : j ≤ 9223372036854775807) (w : World) :
    Calls Try.prog 36 #[.int .i64 (j : Int)] w fun e w' => e = .returned (.int .u8 (2 ^ (j % 8) : Nat)) ∧ w = w' := by
  have H8 := Lib.hid (shl8 j)
  go_enter Try.func36, Try.ntmps36
  go_wp2_with fail
  go_ret
  exact ⟨by rw [H8.out]; rfl, rfl⟩

theorem or_u32_nat (a b : Nat) (ha : a < 4294967296) (hb : b < 4294967296) : bits .or .u32 (a : Int) (b : Int) = ((a ||| b : Nat) : Int) := by
  have hx : a ||| b < 2 ^ 32 := Nat.or_lt_two_pow (by omega) (by omega)
  have h1 : (BitVec.ofInt 32 (a : Int)).toNat = a := by
    rw [BitVec.ofInt_natCast, BitVec.toNat_ofNat]; exact Nat.mod_eq_of_lt (by omega)
  have h2 : (BitVec.ofInt 32 (b : Int)).toNat = b := by
    rw [BitVec.ofInt_natCast, BitVec.toNat_ofNat]; exact Nat.mod_eq_of_lt (by omega)
  show IntKind.u32.wrap ((BitVec.ofInt 32 (a : Int) ||| BitVec.ofInt 32 (b : Int)).toNat : Int) = _
  rw [BitVec.toNat_or, h1, h2]
  simp only [IntKind.wrap, IntKind.signed, IntKind.bits]
  simp
  omega
theorem one_lt : ∀ x ∈ [1], x < 256 := by decide
theorem way_bits {l : List Nat} (hl : ∀ x ∈ l, x < 256) : bits .or .u32 ((more (crc l) [1] : Nat) : Int) 1 = ((way l : Nat) : Int) := by
  have h := or_u32_nat (more (crc l) [1]) 1 (more_lt (crc_lt hl) one_lt) (by decide)
  rw [crc_more] at h ⊢
  exact h
theorem way_lt {l : List Nat} (hl : ∀ x ∈ l, x < 256) : way l < 4294967296 := by
  unfold way
  refine or_lt (crc_lt fun x hx => ?_) (by decide)
  rcases List.mem_append.1 hx with hx | hx
  · exact hl x hx
  · exact one_lt x hx
/-- A literal of bytes, in a block of its own. -/
theorem bs_new (w : World) (l : List Nat) (hl : l.length ≤ 100) : Bs (w.alloc (.cells (bv l).toArray 5)) w.heap.size (w.heap.size + 1) (.slice (some ⟨w.heap.size, 0, none⟩) l.length l.length) l := by
  refine ⟨_, _, rfl, Nat.le_refl _, by simp [maxLen]; omega, (fun h => by cases h), .inr ⟨w.heap.size, 0, rfl, Nat.le_refl _, Nat.lt_succ_self _, fun i u hu => ?_⟩⟩
  rw [World.cell?_alloc_at _ _ _ _ rfl, Nat.zero_add]
  simpa using hu

set_option maxHeartbeats 1000000 in
theorem numbers_any (v : Value) (lo hi : Nat) (l : List Nat) (w : World) (hv : Bs w lo hi v l) (hhi : hi ≤ w.heap.size) (hl : ∀ c ∈ l, c < 256) :
    Calls Try.prog 34 #[v] w fun e w' => e = .returned (.complex .f64 (floatOfInt .f64 ((crc l : Nat) : Int)) (floatOfInt .f64 ((way l : Nat) : Int))) ∧ Below w.heap.size w w' := by
  have HR := Lib.hid (rows_one hv hhi)
  have HL := Lib.hid hl
  have HW := Lib.hid (way_bits hl)
  have HC2 := Lib.hid (crc_lt hl)
  obtain ⟨A, c, rfl, _, _, _, _⟩ := hv
  clear hl
  have HC := Lib.hid (sum_any _ 1 _ _ _ [l] _ HR.out (by simp) (by simp [maxLen]) (by simp) (by simpa using HL.out))
  rw [show [l].flatten = l by simp] at HC
  go_enter Try.func34, Try.ntmps34
  go_wp2_with fail
  refine Calls.mono HC.out ?_
  rintro e w1 ⟨rfl, hb1⟩
  have HB1 : Hid (Below w.heap.size w w1) := ((Below.refl w.heap.size w).alloc (Nat.le_refl _) _).trans (hb1.mono (by simp))
  clear hb1
  go_wp2_with fail
  refine (more_any _ HC2.out _ _ _ [1] _ (bs_new w1 [1] (by simp)) (by simp) one_lt).mono ?_
  rintro e w2 ⟨rfl, hb2⟩
  have HB2 : Hid (Below w.heap.size w w2) := (HB1.out.alloc HB1.out.size _).trans (hb2.mono (by have := HB1.out.size; simp; omega))
  clear hb2
  go_wp2_with fail
  rw [HW.out]
  go_wp2_with fail
  go_ret
  exact ⟨rfl, HB2.out⟩
end Go.Proofs.Ytdoieknjhdehmaa
