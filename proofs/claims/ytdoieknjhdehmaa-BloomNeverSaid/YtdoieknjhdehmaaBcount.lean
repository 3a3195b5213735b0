/- Count. -/
import Derived.Test.YtdoieknjhdehmaaBmay
namespace Go.Proofs.Ytdoieknjhdehmaa
open Go.ChangeShapes Go.WideShapes Go.ChangeAt Go.RowKit

set_option maxRecDepth 100000 in
set_option maxHeartbeats 4000000 in
theorem ones_any (x : Nat) (hx : x < 256) (w : World) : Calls Try.prog 30 #[.int .u8 (x : Int)] w fun e w' => e = .returned (.int .i64 (pop x : Nat)) ∧ w = w' := by
  go_enter Try.func30, Try.ntmps30
  go_wp2_with fail
  go_ret
  refine ⟨?_, rfl⟩
  refine congrArg (fun n : Int => Ending.returned (.int .i64 n)) ?_
  revert x
  decide +kernel

set_option maxRecDepth 100000 in
set_option maxHeartbeats 4000000 in
theorem count_any {u : Value} {lo hi : Nat} {F : List Nat} {w : World} (hu : Bs w lo hi u F) (hF : ∀ x ∈ F, x < 256) (hl : F.length ≤ 1099511627776) :
    Calls Try.prog 20 #[u] w fun e w' => e = .returned (.int .i64 (cnt F : Nat)) ∧ w = w' := by
  obtain ⟨A, c, rfl, q1, q2, _, hby⟩ := hu
  have HBY := Lib.hid hby
  have HF := Lib.hid hF
  have hli : (F.length : Int) ≤ 1099511627776 := by omega
  clear q1 q2 hF hby
  go_enter Try.func20, Try.ntmps20
  go_wp2_with fail
  go_loop [3, 8] (fun n i => ∃ k : Nat, k ≤ F.length ∧ i = .int .i64 (k : Int) ∧ n = .int .i64 ((cnt (F.take k) : Nat) : Int)) (fun _ i => F.length - (intOf i).toNat)
  case atStart => exact ⟨0, Nat.zero_le _, rfl, rfl⟩
  case round =>
    obtain ⟨k, hk, rfl, rfl⟩ := hrel
    by_cases hlt : k < F.length
    · have d : decide ((k : Int) < (F.length : Int)) = true := decide_eq_true (by omega)
      have dn : decide (k < F.length) = true := decide_eq_true hlt
      obtain ⟨b, o, rfl, _, _, hcell⟩ := HBY.out.at_ hlt
      obtain ⟨x, hx⟩ : ∃ x, x = F[k] := ⟨_, rfl⟩
      rw [← hx] at hcell
      have HX := Lib.hid (ones_any x (by rw [hx]; exact HF.out _ (List.getElem_mem _)))
      have HS : Hid (cnt (F.take (k + 1)) = cnt (F.take k) + pop x) := by rw [hx]; exact cnt_take hlt
      have hsum : wrap64 ((cnt (F.take k) : Int) + (pop x : Int)) = ((cnt (F.take (k + 1)) : Nat) : Int) := by
        rw [HS.out]
        have h1 := cnt_le (F.take k)
        have h2 := pop_le x
        rw [List.length_take] at h1
        unfold wrap64
        omega
      have HSUM := Lib.hid hsum
      clear hx hsum
      go_wp2_with fail
      refine (HX.out _).mono ?_
      rintro e w1 ⟨rfl, rfl⟩
      go_wp2_with fail
      rw [HSUM.out]
      go_round
      case rel => exact ⟨k + 1, by omega, by go_num, rfl⟩
      case measure => simp [intOf]; omega
    · have d : decide ((k : Int) < (F.length : Int)) = false := decide_eq_false (by omega)
      have dn : decide (k < F.length) = false := decide_eq_false hlt
      obtain rfl : k = F.length := by omega
      go_wp2_with fail
      go_ret
      exact ⟨rfl, rfl⟩
end Go.Proofs.Ytdoieknjhdehmaa
