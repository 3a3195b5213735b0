/- The document's own answers: the sum, bit by bit. -/
import Derived.Test.YtdoieknjhdehmaaCsum
namespace Go.Proofs.Ytdoieknjhdehmaa
open Go.ChangeShapes Go.WideShapes Go.ChangeAt Go.RowKit

theorem rem_one {m : Nat} (h : m % 2 = 1) : ((m : Int) % 2 == 1) = true := by simp; omega
theorem rem_none {m : Nat} (h : m % 2 = 0) : ((m : Int) % 2 == 1) = false := by simp; omega
theorem sh_odd {m : Nat} (hm : m < 4294967296) (h : m % 2 = 1) : bits .xor .u32 ((m : Int) / 2 % 4294967296) 2197175160 = ((sh m : Nat) : Int) := by
  rw [show (m : Int) / 2 % 4294967296 = (m : Int) / 2 by omega]
  have e : ((m / 2 : Nat) : Int) = (m : Int) / 2 := by omega
  have := xor_u32 (a := m / 2) (b := 2197175160) (by omega) (by omega)
  rw [e] at this
  rw [sh, h, Nat.one_mul]
  exact this
theorem sh_even {m : Nat} (hm : m < 4294967296) (h : m % 2 = 0) : (m : Int) / 2 % 4294967296 = ((sh m : Nat) : Int) := by
  rw [show (m : Int) / 2 % 4294967296 = (m : Int) / 2 by omega]
  rw [sh, h, Nat.zero_mul, Nat.xor_zero]; omega
theorem step_any (s : Nat) (hs : s < 4294967296) (w : World) : Calls Try.prog 40 #[.int .u32 (s : Int)] w fun e w' => e = .returned (.int .u32 (shn 8 s : Nat)) ∧ w = w' := by
  have HS := Lib.hid hs
  clear hs
  go_enter Try.func40, Try.ntmps40
  go_wp2_with fail
  go_loop [0, 3] (fun x i => ∃ (k m : Nat), k ≤ 8 ∧ i = .int .i64 (k : Int) ∧ x = .int .u32 (m : Int) ∧ Hid (m = shn k s)) (fun _ i => 8 - (intOf i).toNat)
  case atStart => exact ⟨0, s, Nat.zero_le _, rfl, rfl, Lib.hid rfl⟩
  case round =>
    obtain ⟨k, m, hk, rfl, rfl, hm⟩ := hrel
    have HM := Lib.hid (show m < 4294967296 by rw [hm.out]; exact shn_lt HS.out)
    by_cases hlt : k < 8
    · rcases Nat.mod_two_eq_zero_or_one m with hp | hp
      · have hd := rem_none hp
        have HE := Lib.hid (sh_even HM.out hp)
        clear hp
        go_wp2_with fail
        go_round
        case rel => exact ⟨k + 1, sh m, by omega, by go_num, by rw [HE.out], Lib.hid (by rw [hm.out, shn_succ'])⟩
        case measure => simp [intOf]; omega
      · have hd := rem_one hp
        have HE := Lib.hid (sh_odd HM.out hp)
        clear hp
        go_wp2_with fail
        go_round
        case rel => exact ⟨k + 1, sh m, by omega, by go_num, by rw [HE.out], Lib.hid (by rw [hm.out, shn_succ'])⟩
        case measure => simp [intOf]; omega
    · go_wp2_with fail
      go_ret
      obtain rfl : k = 8 := by omega
      exact ⟨by rw [hm.out]; rfl, rfl⟩

theorem xor_top {m : Nat} (h : m < 4294967296) : bits BinOp.xor IntKind.u32 (m : Int) 4294967295 = ((m ^^^ ones : Nat) : Int) := xor_u32 h ones_lt
theorem rmore_any (s : Nat) (hs : s < 4294967296) (v : Value) (lo hi : Nat) (l : List Nat) (w : World) (hv : Bs w lo hi v l) (hl : ∀ c ∈ l, c < 256) :
    Calls Try.prog 35 #[.int .u32 (s : Int), v] w fun e w' => e = .returned (.int .u32 (more s l : Nat)) ∧ w = w' := by
  have HS := Lib.hid (xor_lt hs ones_lt)
  have HX := Lib.hid (xor_top hs)
  have HL := Lib.hid hl
  obtain ⟨A, c, rfl, q1, q2, q3, hby⟩ := hv
  have HBY := Lib.hid hby
  have hlen : l.length ≤ 9223372036854775807 := by unfold maxLen at q2; omega
  clear hs hl q1 q2 q3 hby
  go_enter Try.func35, Try.ntmps35
  go_wp2_with fail
  rw [HX.out]
  go_loop [5, 6] (fun r i => ∃ (k m : Nat), k ≤ l.length ∧ i = .int .i64 (k : Int) ∧ r = .int .u32 (m : Int) ∧ Hid (m = reg (s ^^^ ones) (l.take k))) (fun _ i => l.length - (intOf i).toNat)
  case atStart => exact ⟨0, s ^^^ ones, Nat.zero_le _, rfl, rfl, Lib.hid rfl⟩
  case round =>
    obtain ⟨k, m, hk, rfl, rfl, hm⟩ := hrel
    have HM := Lib.hid (show m < 4294967296 by rw [hm.out]; exact reg_take_lt HS.out HL.out k)
    by_cases hlt : k < l.length
    · obtain ⟨b, o, rfl, _, _, hcell⟩ := HBY.out.at_ hlt
      have hc256 := HL.out l[k] (List.getElem_mem hlt)
      have HC := Lib.hid (show l[k] < 4294967296 by omega)
      have HY := Lib.hid (xor_u32 HM.out HC.out)
      go_wp2_with fail
      rw [HY.out]
      refine (step_any _ (xor_lt HM.out HC.out) _).mono ?_
      rintro e w1 ⟨rfl, rfl⟩
      go_wp2_with fail
      go_round
      case rel => exact ⟨k + 1, _, by omega, by go_num, rfl, Lib.hid (by rw [reg_take _ l hlt, hm.out])⟩
      case measure => simp [intOf]; omega
    · have HZ := Lib.hid (xor_top HM.out)
      go_wp2_with fail
      go_ret
      obtain rfl : k = l.length := by omega
      exact ⟨by rw [HZ.out, hm.out, List.take_length]; rfl, rfl⟩
theorem rsum_any (v : Value) (lo hi : Nat) (l : List Nat) (w : World) (hv : Bs w lo hi v l) (hl : ∀ c ∈ l, c < 256) :
    Calls Try.prog 28 #[v] w fun e w' => e = .returned (.int .u32 (crc l : Nat)) ∧ w = w' := by
  have H := Lib.hid (rmore_any 0 (by omega) v lo hi l w hv hl)
  rw [more_zero] at H
  obtain ⟨A, c, rfl, q1, q2, q3, hby⟩ := hv
  clear q1 q2 q3 hby hl
  go_enter Try.func28, Try.ntmps28
  go_wp2_with fail
  refine Calls.mono H.out ?_
  rintro e w1 ⟨rfl, rfl⟩
  go_wp2_with fail
  go_ret
  exact ⟨rfl, rfl⟩
end Go.Proofs.Ytdoieknjhdehmaa
