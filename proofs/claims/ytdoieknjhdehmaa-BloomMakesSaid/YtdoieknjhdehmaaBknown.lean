/- The chapter's rows, which every law asks. -/
import Derived.Test.YtdoieknjhdehmaaBk0
namespace Go.Proofs.Ytdoieknjhdehmaa
open Go.ChangeShapes Go.WideShapes Go.ChangeAt Go.RowKit Go.Lib Go.Joins

set_option maxRecDepth 100000 in
set_option maxHeartbeats 8000000 in
theorem known_any (w : World) : Calls Try.prog 12 #[] w fun e w' => e = .returned (.bool true) ∧ Below w.heap.size w w' := by
  go_enter Try.func12, Try.ntmps12
  go_wp2_with fail
  refine (make_none w).mono ?_
  rintro e w1 ⟨g1, c1, rfl, ho, hx⟩
  have HO1 := Lib.hid ho
  have HX1 : Hid (Ext w w1) := hx
  have cv1 := cv_a w1
  clear ho hx
  go_wp2_with fail
  refine (make_a (bs_a w1) (by simp) (by simp)).mono ?_
  rintro e w2 ⟨g2, c2, rfl, ho, hx⟩
  have HX2 : Hid (Ext w1 w2) := Ext.trans (ext_alloc w1 _) hx
  have HO2 := Lib.hid (ho.base (B' := w1.heap.size) (by simp))
  have cv2 := cv_a w2
  clear ho hx cv1
  go_wp2_with fail
  refine (bits_any (bs_a w2) (by simp) lt_a (by decide) (by decide)).mono ?_
  rintro e w3 ⟨rfl, hx⟩
  have HX3 : Hid (Ext w2 w3) := Ext.trans (ext_alloc w2 _) hx
  clear hx cv2
  rw [show bitsA [97] 0 = [0, 0, 0, 0, 0] from rfl, show bitsN 0 = 2 from rfl, show irow [0, 0, 0, 0, 0] = #[.int .i64 0, .int .i64 0, .int .i64 0, .int .i64 0, .int .i64 0] from rfl]
  go_wp2_with fail
  obtain ⟨w4, hw4⟩ : ∃ w4, w4 = w3.alloc (.cells #[.int .i64 0, .int .i64 0, .int .i64 0, .int .i64 0, .int .i64 0] 26) := ⟨_, rfl⟩
  have HX4 : Hid (Ext w3 w4) := by rw [hw4]; exact ext_alloc _ _
  have HX24 : Hid (Ext w2 w4) := Ext.trans HX3.out HX4.out
  have HX14 : Hid (Ext w1 w4) := Ext.trans HX2.out HX24.out
  have HA4 := Lib.hid (HO1.out.below HX14.out)
  have HB4 := Lib.hid (HO2.out.below HX24.out)
  rw [← hw4]
  clear hw4
  refine (num_any _ _).mono ?_
  rintro e w5 ⟨rfl, rfl⟩
  go_wp2_with fail
  refine (num_any _ _).mono ?_
  rintro e w5 ⟨rfl, rfl⟩
  go_wp2_with fail
  refine (count_is HB4.out.bs (mk_lt _) (by rw [mk_length]; decide) cnt_a).mono ?_
  rintro e w5 ⟨rfl, rfl⟩
  go_wp2_with fail
  refine (count_is HB4.out.bs (mk_lt _) (by rw [mk_length]; decide) cnt_a).mono ?_
  rintro e w5 ⟨rfl, rfl⟩
  go_wp2_with fail
  refine (count_is HA4.out.bs (mk_lt _) (by rw [mk_length]; decide) cnt_none).mono ?_
  rintro e w5 ⟨rfl, rfl⟩
  have cv4 := cv_a w4
  go_wp2_with fail
  refine (may_is (HB4.out.bs.below (below_mark w4 _) (Nat.le_refl _)) (by simp) (mk_lt _) (bs_a w4) (by simp) lt_a may_yes).mono ?_
  rintro e w6 ⟨rfl, hx⟩
  have HX6 : Hid (Ext w4 w6) := Ext.trans (ext_alloc w4 _) hx
  have cv6 := cv_a w6
  clear hx cv4
  go_wp2_with fail
  refine (may_is (Bs.nil _ 0 0) (Nat.zero_le _) (by simp) (bs_a w6) (by simp) lt_a rfl).mono ?_
  rintro e w7 ⟨rfl, hx⟩
  have HX7 : Hid (Ext w4 w7) := Ext.trans HX6.out (Ext.trans (ext_alloc w6 _) hx)
  clear hx cv6
  go_wp2_with fail
  refine (check_is (k := 4) (by decide) rfl).mono ?_
  rintro e w8 ⟨rfl, rfl⟩
  go_wp2_with fail
  refine (num_any _ _).mono ?_
  rintro e w8 ⟨rfl, rfl⟩
  obtain ⟨w9, hrun, _, hx9⟩ := zeros_run w7 9 (by decide)
  have hrun2 : (Instr.makeSlice 25 (.int .i64 9) (.int .i64 9)).run Try.prog w7 = .ok (.slice (some ⟨w7.heap.size, 0, none⟩) 9 9) w9 := hrun
  have HX9 : Hid (Ext w4 w9) := Ext.trans HX7.out hx9
  clear hrun hx9
  go_wp2_with fail
  refine (check_is (k := 4) (by decide) rfl).mono ?_
  rintro e w8 ⟨rfl, rfl⟩
  clear hrun2
  go_wp2_with fail
  refine (num_any _ _).mono ?_
  rintro e w8 ⟨rfl, rfl⟩
  go_wp2_with fail
  refine (check_is (k := 0) (by decide) rfl).mono ?_
  rintro e w8 ⟨rfl, rfl⟩
  go_wp2_with fail
  refine (num_any _ _).mono ?_
  rintro e w8 ⟨rfl, rfl⟩
  go_wp2_with fail
  refine (num_any _ _).mono ?_
  rintro e w8 ⟨rfl, rfl⟩
  go_wp2_with fail
  refine (size_is (k := 8) (by decide) (by decide) rfl _).mono ?_
  rintro e w8 ⟨rfl, rfl⟩
  go_wp2_with fail
  refine (size_is (k := 16) (by decide) (by decide) rfl _).mono ?_
  rintro e w8 ⟨rfl, rfl⟩
  go_wp2_with fail
  refine (size_is (k := 0) (by decide) (by decide) rfl _).mono ?_
  rintro e w8 ⟨rfl, rfl⟩
  go_wp2_with fail
  go_ret
  exact ⟨rfl, Ext.trans HX1.out (Ext.trans HX14.out HX9.out)⟩
end Go.Proofs.Ytdoieknjhdehmaa
