/- Size, and what a length claims. -/
import Derived.Test.YtkaammdekalgnaaMword
namespace Go.Proofs.Ytkaammdekalgnaa
open Go.ChangeShapes Go.WideShapes Go.ChangeAt Go.RowKit

/-- How many bytes a frame of so many has, of any number. -/
def isize (n : Int) : Int := if 1 ≤ n ∧ n ≤ 1048576 then n + 8 else 0
theorem isize_nat (n : Nat) : isize (n : Int) = (fsize n : Nat) := by
  unfold isize fsize
  by_cases h : 1 ≤ n ∧ n ≤ 1048576
  · rw [if_pos h, if_pos (by omega)]; rfl
  · rw [if_neg h, if_neg (by omega)]; rfl
theorem size_any (n : Int) (w : World) : Calls Try.prog 14 #[.int .i64 n] w fun e w' => e = .returned (.int .i64 (isize n)) ∧ w = w' := by
  by_cases h : n < 1
  · have hd : decide (n < 1) = true := by simp [h]
    have hr : isize n = 0 := by unfold isize; rw [if_neg (by omega)]
    rw [hr]
    clear h
    go_enter Try.func14, Try.ntmps14
    go_wp2_with fail
    go_ret
    exact ⟨rfl, rfl⟩
  · have hd : decide (n < 1) = false := by simp; omega
    by_cases k : n ≤ 1048576
    · have hd2 : decide ((1048576 : Int) < n) = false := by simp; omega
      have hr : isize n = 8 + n := by unfold isize; rw [if_pos (by omega)]; omega
      have hn : 1 ≤ n := by omega
      rw [hr]
      clear h
      go_enter Try.func14, Try.ntmps14
      go_wp2_with fail
      go_ret
      exact ⟨rfl, rfl⟩
    · have hd2 : decide ((1048576 : Int) < n) = true := by simp; omega
      have hr : isize n = 0 := by unfold isize; rw [if_neg (by omega)]
      rw [hr]
      clear h k
      go_enter Try.func14, Try.ntmps14
      go_wp2_with fail
      go_ret
      exact ⟨rfl, rfl⟩

theorem run_arr (b o n c : Nat) (h : 4 ≤ n) (w : World) : (Instr.arrayAt 45 (.slice (some ⟨b, o, none⟩) n c)).run Try.prog w = .ok (.pointer (some ⟨b, o, none⟩)) w := by
  unfold Instr.arrayAt
  simp [go_sem]
  omega

/-- The first four bytes, cell by cell. -/
theorem By.four {w : World} {lo hi : Nat} {A : Option Addr} {l : List Nat} (h : By w lo hi A l) (h4 : 4 ≤ l.length) : ∃ b o x0 x1 x2 x3, A = some ⟨b, o, none⟩ ∧ l.take 4 = [x0, x1, x2, x3] ∧
    w.cell? ⟨b, o, none⟩ = some (.int .u8 (x0 : Int)) ∧ w.cell? ⟨b, o + 1, none⟩ = some (.int .u8 (x1 : Int)) ∧ w.cell? ⟨b, o + 2, none⟩ = some (.int .u8 (x2 : Int)) ∧ w.cell? ⟨b, o + 3, none⟩ = some (.int .u8 (x3 : Int)) := by
  obtain ⟨x0, x1, x2, x3, r, rfl⟩ : ∃ a b c d r, l = a :: b :: c :: d :: r := by
    match l, h4 with
    | a :: b :: c :: d :: r, _ => exact ⟨a, b, c, d, r, rfl⟩
  rcases h with h | ⟨b, o, e, _, _, hc⟩
  · simp [bv] at h
  · exact ⟨b, o, x0, x1, x2, x3, e, rfl, by simpa using hc 0 (.int .u8 (x0 : Int)) (by simp [bv]), hc 1 (.int .u8 (x1 : Int)) (by simp [bv]), hc 2 (.int .u8 (x2 : Int)) (by simp [bv]), hc 3 (.int .u8 (x3 : Int)) (by simp [bv])⟩

set_option maxHeartbeats 1000000 in
theorem claimed_any (v : Value) (lo hi : Nat) (l : List Nat) (w : World) (hv : Bs w lo hi v l) (hl : ∀ c ∈ l, c < 256) :
    Calls Try.prog 31 #[v] w fun e w' => e = .returned (.int .i64 (claimed l : Nat)) ∧ Below w.heap.size w w' := by
  have HL := Lib.hid hl
  obtain ⟨A, c, rfl, q1, q2, q3, hby⟩ := hv
  by_cases h8 : l.length < 8
  · have hd : decide ((l.length : Int) < 8) = true := by simp; omega
    have hr : claimed l = 0 := by unfold claimed; rw [if_pos h8]
    rw [hr]
    clear h8 q1 q2 q3 hl
    go_enter Try.func31, Try.ntmps31
    go_wp2_with fail
    go_ret
    exact ⟨rfl, Below.refl _ _⟩
  · have hd : decide ((l.length : Int) < 8) = false := by simp; omega
    have hr : claimed l = fsize (num4 (l.take 4)) := by unfold claimed; rw [if_neg h8]
    have hl4 : (l.take 4).length = 4 := by simp; omega
    have HN := Lib.hid (num4_lt hl4 (fun c hc => hl c (List.mem_of_mem_take hc)))
    have HNUM := Lib.hid (number_any (l.take 4) hl4 (fun c hc => hl c (List.mem_of_mem_take hc)))
    obtain ⟨b0, o0, x0, x1, x2, x3, rfl, hT, c0, c1, c2, c3⟩ := hby.four (by omega)
    have hW4 : Hid (w4 (l.take 4) = #[.int .u8 (x0 : Int), .int .u8 (x1 : Int), .int .u8 (x2 : Int), .int .u8 (x3 : Int)]) := by rw [hT]; rfl
    have hn8 : 8 ≤ l.length := by omega
    have hc8 : 8 ≤ c := by omega
    have ha := run_arr b0 o0 4 c (by omega) w
    rw [hr]
    clear h8 q1 q3 hl hr hT
    go_enter Try.func31, Try.ntmps31
    go_wp2_with fail
    rw [← hW4.out]
    refine (HNUM.out _).mono ?_
    rintro e w1 ⟨rfl, hb1⟩
    have HB := Lib.hid hb1
    clear hb1
    have hw64 : wrap64 (num4 (l.take 4) : Int) = (num4 (l.take 4) : Int) := by have := HN.out; unfold wrap64; omega
    have HS := Lib.hid (size_any (num4 (l.take 4) : Int) w1)
    rw [isize_nat] at HS
    go_wp2_with fail
    rw [hw64]
    refine HS.out.mono ?_
    rintro e w2 ⟨rfl, rfl⟩
    clear hw64
    go_wp2_with fail
    go_ret
    exact ⟨rfl, HB.out⟩
end Go.Proofs.Ytkaammdekalgnaa
