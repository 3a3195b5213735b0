/- FrameLong: payloads and lengths at their bound, and just beyond. -/
import Derived.Test.YtkaammdekalgnaaMknown
namespace Go.Proofs.Ytkaammdekalgnaa.frameLong
open Go.ChangeShapes Go.WideShapes Go.ChangeAt Go.RowKit

theorem put_big {w : World} {lo hi : Nat} {v : Value} {Z : List Nat} (hZ : mayP Z) (hl : Z.length = 1048576) (hv : Bs w lo hi v Z) (hhi : hi ≤ w.heap.size) :
    Calls Try.prog 11 #[v] w fun e w' => ∃ A c, e = .returned (.tuple #[.slice A 1048584 c, .int .i64 0]) ∧ Own w.heap.size (frame Z) (.slice A 1048584 c) w' ∧ Below w.heap.size w w' := by
  refine (put_any hv hhi hZ.2.2).mono ?_
  rintro e w' ⟨hb, v', ⟨h, _⟩ | ⟨h, _⟩ | ⟨_, _, he, ho⟩⟩
  · omega
  · omega
  · have ho' := ho
    obtain ⟨A, c, rfl, _, _, _, _⟩ := Sl.of_own ho'
    have hf : (frame Z).length = 1048584 := by rw [frame_length, hl]
    rw [hf] at ho he
    exact ⟨A, c, he, ho, hb⟩
theorem put_over {w : World} {lo hi : Nat} {v : Value} {Z : List Nat} (hb : ∀ x ∈ Z, x < 256) (hl : Z.length = 1048577) (hv : Bs w lo hi v Z) (hhi : hi ≤ w.heap.size) :
    Calls Try.prog 11 #[v] w fun e w' => e = .returned (.tuple #[.slice none 0 0, .int .i64 3]) ∧ Below w.heap.size w w' := by
  refine (put_any hv hhi hb).mono ?_
  rintro e w' ⟨hb, v', ⟨h, _⟩ | ⟨h, rfl, he⟩ | ⟨_, h, he, ho⟩⟩
  · omega
  · exact ⟨he, hb⟩
  · omega
theorem one_big {w : World} {lo hi : Nat} {v : Value} {Z : List Nat} (hZ : mayP Z) (hl : Z.length = 1048576) (hv : Bs w lo hi v (frame Z)) (hhi : hi ≤ w.heap.size) :
    Calls Try.prog 20 #[v] w fun e w' => ∃ A c, e = .returned (.tuple #[.slice A 1048576 c, .bool true]) ∧ Below w.heap.size w w' := by
  have h1 : one (frame Z) = some Z := by
    have h := whole_frame hZ []
    rw [List.append_nil] at h
    unfold one
    rw [h]
    simp [frame_length]
  refine (one_any hv hhi (frame_lt hZ.2.2)).mono ?_
  rintro e w' ⟨hb, ⟨p, v', hp, he, ho⟩ | ⟨hn, _⟩⟩
  · rw [h1] at hp
    injection hp with hp
    subst hp
    obtain ⟨A, c, rfl, _, _, _, _⟩ := Sl.of_own ho
    rw [hl] at he
    exact ⟨A, c, he, hb⟩
  · rw [h1] at hn; cases hn
theorem count_big {w : World} {lo hi : Nat} {v : Value} {Z : List Nat} (hZ : mayP Z) (hl : Z.length = 1048576) (hv : Bs w lo hi v (frame Z)) (hhi : hi ≤ w.heap.size) :
    Calls Try.prog 16 #[v] w fun e w' => e = .returned (.tuple #[.int .i64 1, .int .i64 1048584]) ∧ Below w.heap.size w w' := by
  have h1 := row_then (ps := [Z]) (by simpa using hZ) whole1_nil
  have h2 : row [Z] ++ [] = frame Z := by simp [row]
  have h3 : (row [Z]).length = 1048584 := by simp [row, frame_length, hl]
  rw [h2, h3] at h1
  refine (count_any hv hhi (frame_lt hZ.2.2)).mono ?_
  rintro e w' ⟨he, hb⟩
  rw [h1.1, h1.2] at he
  exact ⟨he, hb⟩
theorem odd_long : odd [0, 16, 0, 1, 0, 0, 0, 0, 5] = true := by decide +kernel
theorem odd_most : odd [0, 16, 0, 0, 0, 0, 0, 0, 5] = false := by decide +kernel
theorem odd_none : odd [] = false := by decide +kernel

set_option maxRecDepth 100000 in
set_option maxHeartbeats 4000000 in
theorem walk (w : World) : Calls Try.prog 9 #[] w fun e w' => e = .returned (.bool true) ∧ Below w.heap.size w w' := by
  obtain ⟨i0, hi0, ix0, ix1, ix2⟩ := info_parts t5info
  obtain ⟨Y, hY⟩ : ∃ Y : List Nat, Y = List.replicate 1048577 0 := ⟨_, rfl⟩
  obtain ⟨Z, hZ⟩ : ∃ Z : List Nat, Z = Y.take 1048576 := ⟨_, rfl⟩
  have HYL : Hid (Y.length = 1048577) := by rw [hY]; exact List.length_replicate
  have HYB : Hid (∀ x ∈ Y, x < 256) := by rw [hY]; intro x hx; rw [List.mem_replicate] at hx; omega
  have HZL : Hid (Z.length = 1048576) := by rw [hZ]; unfold Hid; rw [List.length_take, HYL.out]; rfl
  have HZM : Hid (mayP Z) := ⟨by rw [HZL.out]; omega, by rw [HZL.out]; omega, fun x hx => HYB.out x (by rw [hZ] at hx; exact List.mem_of_mem_take hx)⟩
  have HZT : Hid (Y.take 1048576 = Z) := hZ.symm
  obtain ⟨w1, hrun, hown, hgrow⟩ := run_make_full (P := Try.prog) w w.heap.size 22 5 i0 (.int .u8 0) 1 Try.underlying22 hi0 ix0 ix1 .i64 .i64 1048577 (by rw [ix2]; omega) (by unfold maxLen; omega) (Nat.le_refl _)
  have HX1 : Hid (Ext w w1) := (Below.refl _ _).grown hgrow (Nat.le_refl _) (fun k hk => by cases hk)
  have HO1 : Hid (Own w.heap.size Y (.slice (some ⟨w.heap.size, 0, none⟩) 1048577 1048577) w1) := by
    have h := hown
    simp only [Value.cells] at h
    rw [zero_row, ← hY] at h
    unfold Hid Own
    rw [HYL.out]
    exact h
  have hrun2 : (Instr.makeSlice 22 (.int .i64 1048577) (.int .i64 1048577)).run Try.prog w = .ok (.slice (some ⟨w.heap.size, 0, none⟩) 1048577 1048577) w1 := hrun
  have HPB : Hid (Bs w1 w.heap.size w1.heap.size (.slice (some ⟨w.heap.size, 0, none⟩) 1048576 1048577) Z) := by
    have h := (show Bs w1 w.heap.size w1.heap.size (.slice (some ⟨w.heap.size, 0, none⟩) 1048577 1048577) Y from HO1.out.bs).head (k := 1048576) (by omega)
    rw [HZT.out] at h
    exact h
  have b1 : ((1048576 : Int) == 1048576) = true := by decide
  have b2 : ((1048584 : Int) == 1048584) = true := by decide
  have hs8 : isize 1048576 = 1048584 := by decide
  have HS8 := Lib.hid (size_any 1048576)
  rw [hs8] at HS8
  clear hown hgrow hrun hi0 hY hZ hs8
  go_enter Try.func9, Try.ntmps9
  go_wp2_with fail
  refine (put_big HZM.out HZL.out HPB.out (Nat.le_refl _)).mono ?_
  rintro e w2 ⟨A2, c2, rfl, ho, hb⟩
  have HX2 : Hid (Ext w1 w2) := hb
  have HO2 := Lib.hid ho
  clear ho hb hrun2
  go_wp2_with fail
  refine (put_over HYB.out HYL.out (HO1.out.below HX2.out).bs (Nat.le_refl _)).mono ?_
  rintro e w3 ⟨rfl, hb⟩
  have HX3 : Hid (Ext w2 w3) := hb
  clear hb
  go_wp2_with fail
  refine (one_big HZM.out HZL.out (HO2.out.below HX3.out).bs (Nat.le_refl _)).mono ?_
  rintro e w4 ⟨A4, c4, rfl, hb⟩
  have HX4 : Hid (Ext w2 w4) := Ext.trans HX3.out hb
  clear hb
  go_wp2_with fail
  refine (count_big HZM.out HZL.out (HO2.out.below HX4.out).bs (Nat.le_refl _)).mono ?_
  rintro e w5 ⟨rfl, hb⟩
  have HX5 : Hid (Ext w w5) := Ext.trans HX1.out (Ext.trans HX2.out (Ext.trans HX4.out hb))
  clear hb
  obtain ⟨w7, hw7⟩ : ∃ w7, w7 = (w5.alloc (.cells #[.int .u8 0, .int .u8 16, .int .u8 0, .int .u8 1, .int .u8 0, .int .u8 0, .int .u8 0, .int .u8 0, .int .u8 5] 5)).alloc (.cells #[.int .u8 0, .int .u8 16, .int .u8 0, .int .u8 0, .int .u8 0, .int .u8 0, .int .u8 0, .int .u8 0, .int .u8 5] 5) := ⟨_, rfl⟩
  have HX57 : Hid (Ext w5 w7) := by rw [hw7]; exact Ext.trans (ext_alloc _ _) (ext_alloc _ _)
  have HOL : Hid (Own w5.heap.size [0, 16, 0, 1, 0, 0, 0, 0, 5] (.slice (some ⟨w5.heap.size, 0, none⟩) 9 9) w7) := by rw [hw7]; exact (own_lit w5 [0, 16, 0, 1, 0, 0, 0, 0, 5] (by simp)).below (ext_alloc _ _)
  have HOM : Hid (Own (w5.heap.size + 1) [0, 16, 0, 0, 0, 0, 0, 0, 5] (.slice (some ⟨w5.heap.size + 1, 0, none⟩) 9 9) w7) := by
    have h := own_lit (w5.alloc (.cells #[.int .u8 0, .int .u8 16, .int .u8 0, .int .u8 1, .int .u8 0, .int .u8 0, .int .u8 0, .int .u8 0, .int .u8 5] 5)) [0, 16, 0, 0, 0, 0, 0, 0, 5] (by simp)
    rw [World.size_alloc] at h
    rw [hw7]; exact h
  have HW7 := Lib.hid hw7
  clear hw7
  go_upto_region 8 with (fail)
  rw [← HW7.out]
  go_wp2_with fail
  refine (num_any _ _).mono ?_
  rintro e w8 ⟨rfl, rfl⟩
  go_wp2_with fail
  refine (num_any _ _).mono ?_
  rintro e w8 ⟨rfl, rfl⟩
  go_wp2_with fail
  refine (HS8.out _).mono ?_
  rintro e w8 ⟨rfl, rfl⟩
  go_wp2_with fail
  refine (odd_is HOL.out.bs (Nat.le_refl _) (by decide) true odd_long).mono ?_
  rintro e w8 ⟨rfl, hb⟩
  have HX78 : Hid (Ext w7 w8) := hb
  clear hb
  go_wp2_with fail
  refine (odd_is (HOM.out.below HX78.out).bs (Nat.le_refl _) (by decide) false odd_most).mono ?_
  rintro e w9 ⟨rfl, hb⟩
  have HX79 : Hid (Ext w7 w9) := Ext.trans HX78.out hb
  clear hb
  go_wp2_with fail
  refine (odd_is (Bs.nil w9 0 0) (Nat.zero_le _) (by decide) false odd_none).mono ?_
  rintro e w10 ⟨rfl, hb⟩
  have HX710 : Hid (Ext w7 w10) := Ext.trans HX79.out hb
  clear hb
  go_wp2_with fail
  refine (known_any w10).mono ?_
  rintro e w11 ⟨rfl, hb⟩
  have HXF : Hid (Ext w w11) := Ext.trans HX5.out (Ext.trans HX57.out (Ext.trans HX710.out hb))
  clear hb
  go_wp2_with fail
  go_ret
  exact ⟨rfl, HXF.out⟩
end Go.Proofs.Ytkaammdekalgnaa.frameLong
