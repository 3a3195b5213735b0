/- much: keys of more than is gone through. -/
import Derived.Test.YtdoieknjhdehmaaBknown
namespace Go.Proofs.Ytdoieknjhdehmaa
open Go.ChangeShapes Go.WideShapes Go.ChangeAt Go.RowKit

/-- What much says when it says no. -/
def FewK (ls : List (List Nat)) : Prop := ls.length ≤ 600 ∧ ∀ l ∈ ls, l.length ≤ 30000

/-- What much answers. -/
def MuchAns (ls : List (List Nat)) (e : Ending) : Prop := ∃ z, e = .returned (.bool z) ∧ (z = false → FewK ls)
set_option maxRecDepth 100000 in
set_option maxHeartbeats 4000000 in
theorem much_any (A : Option Addr) (c lo hi : Nat) (vs : List Value) (ls : List (List Nat)) (w : World) (h : Rows2 w lo hi A vs ls) (hc : c ≤ maxLen) (hlc : ls.length ≤ c) :
    Calls Try.prog 16 #[.slice A ls.length c] w fun e w' => MuchAns ls e ∧ w = w' := by
  have HR := Lib.hid h
  have hlen : (ls.length : Int) ≤ 9223372036854775807 := by unfold maxLen at hc; omega
  clear h hc hlc
  go_enter Try.func16, Try.ntmps16
  go_wp2_with fail
  go_loop [3, 4] (fun n i => ∃ (k m : Nat), k ≤ ls.length ∧ i = .int .i64 (k : Int) ∧ n = .int .i64 (m : Int) ∧ m ≤ 60002 ∧ Hid (m ≤ 30000 → ∀ l ∈ ls.take k, l.length ≤ 30000)) (fun _ i => ls.length - (intOf i).toNat)
  case atStart => exact ⟨0, 0, Nat.zero_le _, rfl, rfl, by omega, Lib.hid (by simp)⟩
  case round =>
    obtain ⟨k, m, hk, rfl, rfl, hm, HM⟩ := hrel
    by_cases hlt : k < ls.length
    · have d : decide ((k : Int) < (ls.length : Int)) = true := decide_eq_true (by omega)
      have dn : decide (k < ls.length) = true := decide_eq_true hlt
      by_cases hm3 : m ≤ 30000
      · have e : decide ((m : Int) ≤ 30000) = true := decide_eq_true (by omega)
        have en : decide (m ≤ 30000) = true := decide_eq_true hm3
        obtain ⟨b, o, A', c', rfl, hcell, q1, q2, q3, q4⟩ := HR.out.at_ hlt
        obtain ⟨N, hN⟩ : ∃ N, N = ls[k].length := ⟨_, rfl⟩
        have HTK : Hid (ls.take (k + 1) = ls.take k ++ [ls[k]]) := List.take_succ_eq_append_getElem hlt
        have HNN := Lib.hid hN
        rw [← hN] at hcell
        clear q1 q2 q3 q4 hN
        by_cases hN3 : N ≤ 30001
        · have hmin : (N : Int) ≤ 30001 := by omega
          have HN3 := Lib.hid hN3
          have hs : (m : Int) + 1 + (N : Int) ≤ 60002 := by omega
          clear hN3
          go_wp2_with fail
          go_round
          case rel =>
            refine ⟨k + 1, m + 1 + N, by omega, by go_num, by go_num, by have := HN3.out; omega, Lib.hid (fun hx l hl => ?_)⟩
            rw [HTK.out] at hl
            rcases List.mem_append.1 hl with h | h
            · exact HM.out hm3 l h
            · rw [List.mem_singleton] at h; rw [h, ← HNN.out]; omega
          case measure => simp [intOf]; omega
        · have hmin : (30001 : Int) ≤ (N : Int) := by omega
          have hmin2 : ¬ (N : Int) ≤ 30001 := by omega
          clear hN3
          go_wp2_with fail
          go_round
          case rel => exact ⟨k + 1, m + 1 + 30001, by omega, by go_num, by go_num, by omega, Lib.hid (fun hx => by omega)⟩
          case measure => simp [intOf]; omega
      · have e : decide ((m : Int) ≤ 30000) = false := decide_eq_false (by omega)
        have en : decide (m ≤ 30000) = false := decide_eq_false hm3
        have f : decide ((30000 : Int) < (m : Int)) = true := decide_eq_true (by omega)
        have fn : decide (30000 < m) = true := decide_eq_true (by omega)
        go_wp2_with fail
        go_ret
        exact ⟨⟨true, rfl, fun h => by cases h⟩, rfl⟩
    · have d : decide ((k : Int) < (ls.length : Int)) = false := decide_eq_false (by omega)
      have dn : decide (k < ls.length) = false := decide_eq_false hlt
      by_cases hm3 : m ≤ 30000
      · have f : decide ((30000 : Int) < (m : Int)) = false := decide_eq_false (by omega)
        have fn : decide (30000 < m) = false := decide_eq_false (by omega)
        have HALL : Hid (∀ l ∈ ls, l.length ≤ 30000) := by
          have h := HM.out hm3
          rw [List.take_of_length_le (by omega)] at h
          exact h
        by_cases h6 : 600 < ls.length
        · have g : decide ((600 : Int) < (ls.length : Int)) = true := decide_eq_true (by omega)
          have gn : decide (600 < ls.length) = true := decide_eq_true h6
          go_wp2_with fail
          go_ret
          exact ⟨⟨true, rfl, fun h => by cases h⟩, rfl⟩
        · have g : decide ((600 : Int) < (ls.length : Int)) = false := decide_eq_false (by omega)
          have gn : decide (600 < ls.length) = false := decide_eq_false h6
          go_wp2_with fail
          go_ret
          exact ⟨⟨false, rfl, fun _ => ⟨by omega, HALL.out⟩⟩, rfl⟩
      · have f : decide ((30000 : Int) < (m : Int)) = true := decide_eq_true (by omega)
        have fn : decide (30000 < m) = true := decide_eq_true (by omega)
        go_wp2_with fail
        go_ret
        exact ⟨⟨true, rfl, fun h => by cases h⟩, rfl⟩
end Go.Proofs.Ytdoieknjhdehmaa
