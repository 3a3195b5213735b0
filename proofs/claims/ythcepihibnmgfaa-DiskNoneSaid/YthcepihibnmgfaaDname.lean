/- Names that may be; a disk that is none. -/
import Derived.Test.YthcepihibnmgfaaDmap
import Derived.WalkLawsBesides
import Derived.WalkSpells
import Derived.LoopTactic
import Derived.Outline
namespace Go.Proofs.Ythcepihibnmgfaa
open Go.RowKit

def okc (c : UInt8) : Bool := decide (33 ≤ c.toNat) && decide (c.toNat ≤ 126)
theorem good_def (n : List UInt8) : good n = (decide (1 ≤ n.length) && decide (n.length ≤ 32) && n.all okc) := rfl
theorem all_take_succ (s : ByteArray) {k : Nat} (h : k < s.size) (ha : (s.data.toList.take k).all okc = true) (hc : okc s[k] = true) : (s.data.toList.take (k + 1)).all okc = true := by
  have e : s.data.toList.take (k + 1) = s.data.toList.take k ++ [s[k]] := by
    rw [List.take_succ_eq_append_getElem (by simpa using h)]; rfl
  rw [e, List.all_append, ha]
  simp [hc]
theorem not_good_at (s : ByteArray) {k : Nat} (h : k < s.size) (hc : okc s[k] = false) : good s.data.toList = false := by
  rw [good_def]
  have : s.data.toList.all okc = false := List.all_eq_false.2 ⟨s[k], by rw [Array.mem_toList_iff]; exact Array.getElem_mem h, by simp [hc]⟩
  rw [this]; simp
theorem size_list (s : ByteArray) : s.data.toList.length = s.size := by simp

set_option maxHeartbeats 1000000 in
theorem mayBe_any (s : ByteArray) (w : World) (hs : s.size ≤ maxLen) :
    Calls Try.prog 66 #[.string s] w fun e w' => e = .returned (.bool (good s.data.toList)) ∧ w = w' := by
  unfold maxLen at hs
  go_enter Try.func66, Try.ntmps66
  go_wp2
  go_step3
  go_wp2
  go_step3
  go_wp2
  go_loop [3, 4, 14, 17] (fun i _ _ _ => ∃ k : Nat, k ≤ s.size ∧ k ≤ 32 ∧ i = .int .i64 (k : Int) ∧ Hid ((s.data.toList.take k).all okc = true)) (fun i _ _ _ => s.size - (intOf i).toNat)
  case atStart => exact ⟨0, Nat.zero_le _, by omega, rfl, by unfold Hid; simp⟩
  case round =>
    obtain ⟨k, hk, hk32, rfl, HA⟩ := hrel
    by_cases hlt : k < s.size
    · by_cases h32 : k = 32
      · have HG : Hid (good s.data.toList = false) := by
          unfold Hid; rw [good_def, size_list, decide_eq_false (p := s.size ≤ 32) (by omega)]; simp
        have e1 : ((k : Int) == 32) = true := by simp [h32]
        have e2 : ((k : Int) == (s.size : Int)) = false := by simp; omega
        have e3 : decide ((0 : Int) < (k : Int)) = true := by simp; omega
        clear h32
        go_wp2
        all_goals
          go_ret
          rw [HG.out]; exact ⟨rfl, rfl⟩
      · have e1 : ((k : Int) == 32) = false := by simp; omega
        by_cases hc : okc s[k] = true
        · have HA' := Lib.hid (all_take_succ s hlt HA.out hc)
          have hc1 : (33 : Int) ≤ (s[k].toNat : Int) := by simp [okc] at hc; omega
          have hc2 : (s[k].toNat : Int) ≤ 126 := by simp [okc] at hc; omega
          clear hc
          go_wp2
          go_round
          case rel => exact ⟨k + 1, by omega, by omega, by go_num, HA'⟩
          case measure => simp [intOf]; omega
        · have hc' : okc s[k] = false := by simpa using hc
          have HG := Lib.hid (not_good_at s hlt hc')
          clear hc
          have hcases : (s[k].toNat : Int) < 33 ∨ (33 ≤ (s[k].toNat : Int) ∧ (126 : Int) < (s[k].toNat : Int)) := by simp [okc] at hc'; omega
          clear hc'
          have e2 : ((k : Int) == (s.size : Int)) = false := by simp; omega
          rcases hcases with h | ⟨h0, h⟩
          all_goals
            go_wp2
            all_goals
              go_ret
              rw [HG.out]; exact ⟨rfl, rfl⟩
    · obtain rfl : k = s.size := by omega
      have e2 : ((s.size : Int) == (s.size : Int)) = true := by simp
      have HG : Hid (good s.data.toList = decide ((0 : Int) < (s.size : Int))) := by
        have h := HA.out
        rw [List.take_of_length_le (by simp)] at h
        unfold Hid; rw [good_def, h, size_list, decide_eq_true (p := s.size ≤ 32) hk32]
        simp
        omega
      have h0 : decide ((0 : Int) < (s.size : Int)) = decide (0 < s.size) := by simp
      by_cases h1 : 0 < s.size
      all_goals
        go_wp2
        go_ret
        rw [HG.out, h0]; simp [h1]
end Go.Proofs.Ythcepihibnmgfaa
