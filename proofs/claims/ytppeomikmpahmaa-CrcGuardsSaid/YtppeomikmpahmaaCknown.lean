/- Some of the chapter's rows, which every law asks. -/
import Derived.Test.YtppeomikmpahmaaCzeros
import Derived.Test.YtppeomikmpahmaaCref
import Derived.Lib.SlBytesConst
import Derived.Lib.SmallJoins
namespace Go.Proofs.Ytppeomikmpahmaa
open Go.ChangeShapes Go.WideShapes Go.ChangeAt Go.RowKit Go.Lib Go.Joins

/-- A literal of bytes: its new block reads as they. -/
theorem bs_lit (w : World) (l : List Nat) (hl : l.length ≤ 100) : Bs (w.alloc (.cells (bv l).toArray 5)) w.heap.size (w.heap.size + 1) (.slice (some ⟨w.heap.size, 0, none⟩) l.length l.length) l := by
  refine ⟨_, _, rfl, Nat.le_refl _, by simp [maxLen]; omega, (fun h => by cases h), .inr ⟨w.heap.size, 0, rfl, Nat.le_refl _, Nat.lt_succ_self _, fun i u hu => ?_⟩⟩
  rw [World.cell?_alloc_at _ _ _ _ rfl, Nat.zero_add]
  simpa using hu
theorem rows_two {w : World} {lo hi lo2 hi2 : Nat} {v u : Value} {l r : List Nat} (h : Bs w lo hi v l) (k : Bs w lo2 hi2 u r) (hhi : hi ≤ w.heap.size) (hhi2 : hi2 ≤ w.heap.size) : Rows2 (w.alloc (.cells #[v, u] 22)) 0 (w.heap.size + 1) (some ⟨w.heap.size, 0, none⟩) [v, u] [l, r] := by
  refine ⟨.inr ⟨w.heap.size, 0, rfl, Nat.zero_le _, by omega, fun i x hx => ?_⟩, rfl, fun i x y hx hy => ?_⟩
  · rw [World.cell?_alloc_at _ _ _ _ rfl, Nat.zero_add]
    simpa using hx
  · match i with
    | 0 => simp at hx hy; subst hx hy; exact (h.alloc hhi _).wide (Nat.zero_le _) (by omega)
    | 1 => simp at hx hy; subst hx hy; exact (k.alloc hhi2 _).wide (Nat.zero_le _) (by omega)
    | i + 2 => simp at hx

theorem bs_mark (w : World) (l : List Nat) (hl : l.length ≤ 100) (fr : Nat × Nat) (g : Nat) (hg : g = w.heap.size) : Bs (w.alloc (.cells (bv l).toArray 5 fr)) w.heap.size (w.heap.size + 1) (.slice (some ⟨g, 0, none⟩) l.length l.length) l := by
  subst hg
  refine ⟨_, _, rfl, Nat.le_refl _, by simp [maxLen]; omega, (fun h => by cases h), .inr ⟨w.heap.size, 0, rfl, Nat.le_refl _, Nat.lt_succ_self _, fun i u hu => ?_⟩⟩
  rw [cell_alloc_mark_at _ _ _ _ _ _ rfl, Nat.zero_add]
  simpa using hu
theorem below_mark (w : World) (o : Obj) : Below w.heap.size w (w.alloc o) := (Below.refl _ _).alloc (Nat.le_refl _) o

/-- Sum of two literals; of one; their answers said. -/
theorem sum_two (w : World) (v u : Value) (l r : List Nat) (lo hi lo2 hi2 : Nat) (h : Bs w lo hi v l) (k : Bs w lo2 hi2 u r) (h1 : hi ≤ w.heap.size) (h2 : hi2 ≤ w.heap.size) (hl : ∀ x ∈ l, x < 256) (hr : ∀ x ∈ r, x < 256) (n : Nat) (hn : crc (l ++ r) = n) (g : Nat) (hg : g = w.heap.size) :
    Calls Try.prog 11 #[.slice (some ⟨g, 0, none⟩) 2 2] (w.alloc (.cells #[v, u] 22)) fun e w' => e = .returned (.int .u32 (n : Int)) ∧ Below w.heap.size w w' := by
  subst hg
  subst hn
  refine (sum_any _ 2 _ _ _ [l, r] _ (rows_two h k h1 h2) (by simp) (by simp [maxLen]) (by simp) (by simpa using ⟨hl, hr⟩)).mono fun e w' ⟨he, hb⟩ => ⟨by rw [he]; simp, (below_mark w _).trans (hb.mono (by simp))⟩
theorem sum_one (w : World) (v : Value) (l : List Nat) (lo hi : Nat) (h : Bs w lo hi v l) (h1 : hi ≤ w.heap.size) (hl : ∀ x ∈ l, x < 256) (n : Nat) (hn : crc l = n) (g : Nat) (hg : g = w.heap.size) :
    Calls Try.prog 11 #[.slice (some ⟨g, 0, none⟩) 1 1] (w.alloc (.cells #[v] 22)) fun e w' => e = .returned (.int .u32 (n : Int)) ∧ Below w.heap.size w w' := by
  subst hg
  subst hn
  refine (sum_any _ 1 _ _ _ [l] _ (rows_one h h1) (by simp) (by simp [maxLen]) (by simp) (by simpa using hl)).mono fun e w' ⟨he, hb⟩ => ⟨by rw [he]; simp, (below_mark w _).trans (hb.mono (by simp))⟩

theorem crc_1to9 : crc [49, 50, 51, 52, 53, 54, 55, 56, 57] = 3808858755 := by decide +kernel
theorem crc_1to5 : crc [49, 50, 51, 52, 53] = 416359221 := by decide +kernel
theorem more_6to9 : more 416359221 [54, 55, 56, 57] = 3808858755 := by decide +kernel
theorem crc_a : crc [97] = 3251651376 := by decide +kernel
theorem zeros_4 : shn (8 * (4 : Int).toNat) (0 ^^^ ones) ^^^ ones = 1214729159 := by decide +kernel
theorem zeros_m : shn (8 * (-3 : Int).toNat) (7 ^^^ ones) ^^^ ones = 7 := by decide +kernel
theorem join_9 : shn (8 * (0 : Int).toNat) 9 ^^^ 0 = 9 := by decide +kernel
set_option maxRecDepth 100000 in
set_option maxHeartbeats 2000000 in
theorem known_any (w : World) : Calls Try.prog 9 #[] w fun e w' => e = .returned (.bool true) ∧ Below w.heap.size w w' := by
  have HS0 := Lib.hid (sum_any none 0 0 0 [] [] w ⟨Sl.nil _ _ _ _, rfl, fun i v l hv _ => by simp at hv⟩ (Nat.zero_le _) (by simp [maxLen]) (by simp) (by simp))
  have e0 : crc ([] : List (List Nat)).flatten = 0 := by decide
  rw [e0] at HS0
  clear e0
  go_enter Try.func9, Try.ntmps9
  go_wp2_with fail
  refine Calls.mono HS0.out ?_
  rintro e w1 ⟨rfl, hb1⟩
  have hz1 := hb1.size
  have HB1 := Lib.hid hb1
  clear hb1 HS0
  have cv1 : (convert 22 22 (.slice (some ⟨w1.heap.size, 0, none⟩) 4 4)).run Try.prog (w1.alloc (.cells #[.int .u8 49, .int .u8 50, .int .u8 51, .int .u8 52] 5)) = .ok (.slice (some ⟨w1.heap.size, 0, none⟩) 4 4) (w1.alloc (.cells #[.int .u8 49, .int .u8 50, .int .u8 51, .int .u8 52] 5 (4, 5))) := run_convert_bytes_const_at _ _ _ _ _ _ _ (rfl) Try.underlying22 Try.underlying5
  have cv2 : (convert 22 22 (.slice (some ⟨w1.heap.size + 1, 0, none⟩) 5 5)).run Try.prog ((w1.alloc (.cells #[.int .u8 49, .int .u8 50, .int .u8 51, .int .u8 52] 5 (4, 5))).alloc (.cells #[.int .u8 53, .int .u8 54, .int .u8 55, .int .u8 56, .int .u8 57] 5)) = .ok (.slice (some ⟨w1.heap.size + 1, 0, none⟩) 5 5) ((w1.alloc (.cells #[.int .u8 49, .int .u8 50, .int .u8 51, .int .u8 52] 5 (4, 5))).alloc (.cells #[.int .u8 53, .int .u8 54, .int .u8 55, .int .u8 56, .int .u8 57] 5 (5, 6))) := run_convert_bytes_const_at _ _ _ _ _ _ _ (by simp) Try.underlying22 Try.underlying5
  have HC := Lib.hid (sum_two ((w1.alloc (.cells #[.int .u8 49, .int .u8 50, .int .u8 51, .int .u8 52] 5 (4, 5))).alloc (.cells #[.int .u8 53, .int .u8 54, .int .u8 55, .int .u8 56, .int .u8 57] 5 (5, 6))) _ _ [49, 50, 51, 52] [53, 54, 55, 56, 57] _ _ _ _ ((bs_mark w1 [49, 50, 51, 52] (by simp) (4, 5) w1.heap.size rfl).alloc (by simp) _) (bs_mark (w1.alloc (.cells #[.int .u8 49, .int .u8 50, .int .u8 51, .int .u8 52] 5 (4, 5))) [53, 54, 55, 56, 57] (by simp) (5, 6) (w1.heap.size + 1) (by simp)) (by simp) (by simp) (by decide) (by decide) 3808858755 crc_1to9 (w1.heap.size + 1 + 1) (by simp))
  have hb1 : ((3808858755 : Int) == 3808858755) = true := by decide
  have hk1 : ((3808858755 : Nat) : Int) = 3808858755 := rfl
  go_wp2_with fail
  refine Calls.mono HC.out ?_
  rintro e w2 ⟨rfl, hb2⟩
  have hz2 : w.heap.size ≤ w2.heap.size := by have := hb2.size; simp at this; omega
  have HB2 := Lib.hid (HB1.out.trans (((below_mark w1 _).trans ((below_mark _ _).mono (by simp))).trans (hb2.mono (by simp <;> omega)) |>.mono hz1))
  clear cv1 cv2 HC hb2
  have cv3 : (convert 22 22 (.slice (some ⟨w2.heap.size, 0, none⟩) 5 5)).run Try.prog (w2.alloc (.cells #[.int .u8 49, .int .u8 50, .int .u8 51, .int .u8 52, .int .u8 53] 5)) = .ok (.slice (some ⟨w2.heap.size, 0, none⟩) 5 5) (w2.alloc (.cells #[.int .u8 49, .int .u8 50, .int .u8 51, .int .u8 52, .int .u8 53] 5 (5, 6))) := run_convert_bytes_const_at _ _ _ _ _ _ _ (rfl) Try.underlying22 Try.underlying5
  have HC := Lib.hid (sum_one (w2.alloc (.cells #[.int .u8 49, .int .u8 50, .int .u8 51, .int .u8 52, .int .u8 53] 5 (5, 6))) _ [49, 50, 51, 52, 53] _ _ (bs_mark w2 [49, 50, 51, 52, 53] (by simp) (5, 6) w2.heap.size rfl) (by simp) (by decide) 416359221 crc_1to5 (w2.heap.size + 1) (by simp))
  go_wp2_with fail
  refine Calls.mono HC.out ?_
  rintro e w3 ⟨rfl, hb3⟩
  have hz3 : w.heap.size ≤ w3.heap.size := by have := hb3.size; simp at this; omega
  have HB3 := Lib.hid (HB2.out.trans ((below_mark w2 _).trans (hb3.mono (by simp)) |>.mono hz2))
  clear cv3 HC hb3
  have cv4 : (convert 22 22 (.slice (some ⟨w3.heap.size, 0, none⟩) 4 4)).run Try.prog (w3.alloc (.cells #[.int .u8 54, .int .u8 55, .int .u8 56, .int .u8 57] 5)) = .ok (.slice (some ⟨w3.heap.size, 0, none⟩) 4 4) (w3.alloc (.cells #[.int .u8 54, .int .u8 55, .int .u8 56, .int .u8 57] 5 (4, 5))) := run_convert_bytes_const_at _ _ _ _ _ _ _ (rfl) Try.underlying22 Try.underlying5
  have HC := Lib.hid (more_any 416359221 (by decide) _ _ _ [54, 55, 56, 57] (w3.alloc (.cells #[.int .u8 54, .int .u8 55, .int .u8 56, .int .u8 57] 5 (4, 5))) (bs_mark w3 [54, 55, 56, 57] (by simp) (4, 5) w3.heap.size rfl) (by simp) (by decide))
  rw [more_6to9] at HC
  go_wp2_with fail
  refine Calls.mono HC.out ?_
  rintro e w4 ⟨rfl, hb4⟩
  have hz4 : w.heap.size ≤ w4.heap.size := by have := hb4.size; simp at this; omega
  have HB4 := Lib.hid (HB3.out.trans ((below_mark w3 _).trans (hb4.mono (by simp)) |>.mono hz3))
  clear cv4 HC hb4
  have HC := Lib.hid (zeros_any 0 4 (by decide) (by decide) w4)
  rw [zeros_4] at HC
  go_wp2_with fail
  refine Calls.mono HC.out ?_
  rintro e w5 ⟨rfl, hb⟩
  have hz5 : w.heap.size ≤ w5.heap.size := by have := hb.size; omega
  have HB5 := Lib.hid (HB4.out.trans (hb.mono hz4))
  clear HC hb
  have HC := Lib.hid (zeros_any 7 (-3) (by decide) (by decide) w5)
  rw [zeros_m] at HC
  go_wp2_with fail
  refine Calls.mono HC.out ?_
  rintro e w6 ⟨rfl, hb⟩
  have hz6 : w.heap.size ≤ w6.heap.size := by have := hb.size; omega
  have HB6 := Lib.hid (HB5.out.trans (hb.mono hz5))
  clear HC hb
  have HC := Lib.hid (join_any 9 0 0 (by decide) (by decide) (by decide) w6)
  rw [join_9] at HC
  go_wp2_with fail
  refine Calls.mono HC.out ?_
  rintro e w7 ⟨rfl, hb⟩
  have hz7 : w.heap.size ≤ w7.heap.size := by have := hb.size; omega
  have HB7 := Lib.hid (HB6.out.trans (hb.mono hz6))
  clear HC hb
  have cv8 : (convert 22 22 (.slice (some ⟨w7.heap.size, 0, none⟩) 1 1)).run Try.prog (w7.alloc (.cells #[.int .u8 97] 5)) = .ok (.slice (some ⟨w7.heap.size, 0, none⟩) 1 1) (w7.alloc (.cells #[.int .u8 97] 5 (1, 2))) := run_convert_bytes_const_at _ _ _ _ _ _ _ (rfl) Try.underlying22 Try.underlying5
  have HC := Lib.hid (holds_any _ _ _ [97] 3251651376 (w7.alloc (.cells #[.int .u8 97] 5 (1, 2))) (bs_mark w7 [97] (by simp) (1, 2) w7.heap.size rfl) (by simp) (by decide))
  rw [crc_a] at HC
  have heq : (((3251651376 : Nat) : Int) == ((3251651376 : Nat) : Int)) = true := by decide
  rw [heq] at HC
  go_wp2_with fail
  refine Calls.mono HC.out ?_
  rintro e w8 ⟨rfl, hb⟩
  have HB8 := Lib.hid (HB7.out.trans ((below_mark w7 _).trans (hb.mono (by simp)) |>.mono hz7))
  clear HC hb cv8
  go_wp2_with fail
  go_ret
  exact ⟨rfl, HB8.out⟩
end Go.Proofs.Ytppeomikmpahmaa
