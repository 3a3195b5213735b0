/- FrameSizes: how many bytes a frame has. -/
import Derived.Test.YtkaammdekalgnaaMknown
namespace Go.Proofs.Ytkaammdekalgnaa.frameSizes
open Go.ChangeShapes Go.WideShapes Go.ChangeAt Go.RowKit

theorem walk (w : World) (n : Int) (hn : (Lit.int .i64 n).wf = true) :
    Calls Try.prog 4 #[.int .i64 n] w fun e w' => e = .returned (.bool true) ∧ Below w.heap.size w w' := by
  have hn2 := i64_wf hn
  have HK := Lib.hid (known_any w)
  have HS := Lib.hid (size_any n w)
  clear hn
  by_cases h : n < 1
  · have hd : decide (n < 1) = true := by simp [h]
    have hr : isize n = 0 := by unfold isize; rw [if_neg (by omega)]
    rw [hr] at HS
    clear h hr
    go_enter Try.func4, Try.ntmps4
    go_wp2_with fail
    refine HS.out.mono ?_
    rintro e w1 ⟨rfl, rfl⟩
    go_wp2_with fail
    refine HK.out.mono ?_
    rintro e w1 ⟨rfl, hb⟩
    go_wp2_with fail
    go_ret
    exact ⟨rfl, hb⟩
  · have hd : decide (n < 1) = false := by simp; omega
    by_cases k : n ≤ 1048576
    · have hd2 : decide ((1048576 : Int) < n) = false := by simp; omega
      have hr : isize n = n + 8 := by unfold isize; rw [if_pos (by omega)]
      have hw : wrap64 (n + 8) = n + 8 := by unfold wrap64; omega
      have heq : (n + 8 == n + 8) = true := by simp
      rw [hr] at HS
      clear h hr
      go_enter Try.func4, Try.ntmps4
      go_wp2_with fail
      refine HS.out.mono ?_
      rintro e w1 ⟨rfl, rfl⟩
      go_wp2_with fail
      refine HK.out.mono ?_
      rintro e w1 ⟨rfl, hb⟩
      go_wp2_with fail
      go_ret
      exact ⟨rfl, hb⟩
    · have hd2 : decide ((1048576 : Int) < n) = true := by simp; omega
      have hr : isize n = 0 := by unfold isize; rw [if_neg (by omega)]
      rw [hr] at HS
      clear h k hr
      go_enter Try.func4, Try.ntmps4
      go_wp2_with fail
      refine HS.out.mono ?_
      rintro e w1 ⟨rfl, rfl⟩
      go_wp2_with fail
      refine HK.out.mono ?_
      rintro e w1 ⟨rfl, hb⟩
      go_wp2_with fail
      go_ret
      exact ⟨rfl, hb⟩
end Go.Proofs.Ytkaammdekalgnaa.frameSizes
