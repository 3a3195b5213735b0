/- Some of the chapter's rows, which every law asks. -/
import Derived.Test.YtdggemdgndiafaaWyes
namespace Go.Proofs.Ytdggemdgndiafaa
open Go.ChangeShapes Go.WideShapes Go.ChangeAt Go.RowKit

theorem errnum (n : Int) (w : World) : Calls Try.prog 17 #[.int .i64 n] w fun e w' => e = .returned (.int .i64 n) ∧ w = w' := by
  go_enter Try.func17, Try.ntmps17
  go_wp2_with fail
  go_ret
  exact ⟨rfl, rfl⟩

theorem form_small (n : Nat) (h : n < 128) : form n = [n] := form_lo h
theorem form128 : form 128 = [128, 1] := by rw [form_hi (by omega), form_lo (by omega)]
theorem form300 : form 300 = [172, 2] := by rw [form_hi (by omega), form_lo (by omega)]

/-- A literal of bytes: its new block reads as they. -/
theorem bs_lit (w : World) (l : List Nat) (hl : l.length ≤ 100) : Bs (w.alloc (.cells (bv l).toArray 5)) w.heap.size (w.heap.size + 1) (.slice (some ⟨w.heap.size, 0, none⟩) l.length l.length) l := by
  refine ⟨_, _, rfl, Nat.le_refl _, by simp [maxLen]; omega, (fun h => by cases h), .inr ⟨w.heap.size, 0, rfl, Nat.le_refl _, Nat.lt_succ_self _, fun i u hu => ?_⟩⟩
  rw [World.cell?_alloc_at _ _ _ _ rfl, Nat.zero_add]
  simpa using hu

theorem beg1 : Begins [128, 1, 2, 97, 98] 128 [2, 97, 98] := ⟨⟨by omega⟩, by rw [form128]; rfl⟩
theorem byt2 : [2, 97, 98] = bytesForm [97, 98] ++ [] := by unfold bytesForm; rw [form_small _ (by simp)]; rfl
theorem no800 : NoNum [128, 0] := by
  intro n r h
  refine not_begins_zero (l := [128, 0]) (i := 1) (by simp) ?_ (by omega) rfl n r h
  intro b hb
  simp at hb
  omega

set_option maxHeartbeats 2000000 in
theorem known_any (w : World) : Calls Try.prog 11 #[] w fun e w' => e = .returned (.bool true) ∧ Below w.heap.size w w' := by
  have HO := Lib.hid (open_any _ _ _ [128, 1, 2, 97, 98] _ (bs_lit w [128, 1, 2, 97, 98] (by simp)) (by simp) (by simp) (by decide))
  go_enter Try.func11, Try.ntmps11
  go_wp2_with fail
  refine Calls.mono HO.out ?_
  rintro e w1 ⟨r, lo, hi, rfl, hrd, hr, hlo, hb1⟩
  have hsz : w.heap.size < w1.heap.size := by have := hb1.size; simp at this; omega
  have HB1 := Lib.hid (((Below.refl w.heap.size w).alloc (Nat.le_refl _) (.cells (bv [128, 1, 2, 97, 98]).toArray 5)).trans (hb1.mono (by simp)))
  have HRD := Lib.hid hrd
  have HR := Lib.hid (show w.heap.size < r by simp at hr; omega)
  clear hrd hb1 HO hr hlo
  go_wp2_with fail
  refine (Number_yes HRD.out beg1).mono ?_
  rintro e w2 ⟨rfl, hrd2, hg2⟩
  have HRD2 := Lib.hid hrd2
  have HG2 := Lib.hid hg2
  clear hrd2 hg2
  go_wp2_with fail
  refine (Bytes_yes HRD2.out (by simp) (by omega) byt2 ⟨by simp⟩ (by simp)).mono ?_
  rintro e w3 ⟨v3, ⟨rfl, hrd3, hg3⟩, hown⟩
  have HB3 := Lib.hid (((HB1.out.grown HG2.out (by omega) (fun k hk => by injection hk with hk; have := HR.out; omega))).grown hg3 (by have := HG2.out.size; omega) (fun k hk => by injection hk with hk; have := HR.out; omega))
  have HRD3 := Lib.hid hrd3
  have HS3 := Lib.hid (Bs.of_own hown)
  have hsz3 : w.heap.size < w3.heap.size := by have := HG2.out.size; have := hg3.size; omega
  clear hrd3 hg3 hown HG2 HRD2 HRD HB1
  have HO := Lib.hid (open_any _ _ _ [128, 0] _ (bs_lit w3 [128, 0] (by simp)) (by simp) (by simp) (by decide))
  go_wp2_with fail
  refine Calls.mono HO.out ?_
  rintro e w4 ⟨r4, lo4, hi4, rfl, hrd4, hr4, hlo4, hb4⟩
  have HRD4 := Lib.hid hrd4
  have HB4 := Lib.hid (((Below.refl w3.heap.size w3).alloc (Nat.le_refl _) (.cells (bv [128, 0]).toArray 5)).trans (hb4.mono (by simp)))
  have HR4 := Lib.hid (show w3.heap.size < r4 by simp at hr4; omega)
  clear hrd4 hb4 hr4 hlo4 HO
  go_wp2_with fail
  refine (Number_no HRD4.out no800).mono ?_
  rintro e w5 ⟨rfl, _, hg5⟩
  have hsz5 : w3.heap.size < w5.heap.size := by have := hg5.size; have := HRD4.out.lt; have := HR4.out; omega
  have HB5 := Lib.hid (HB4.out.grown hg5 (by have := HB4.out.size; omega) (fun k hk => by injection hk with hk; have := HR4.out; omega))
  have hrd5 : Rd w5 r _ _ [] := HRD3.out.below HB5.out HRD3.out.top HRD3.out.lt
  have HBB := Lib.hid (HB3.out.trans (HB5.out.mono (by omega)))
  have hs5 := HS3.out.below HB5.out (Nat.le_refl _)
  obtain ⟨A, c, rfl, hc1, hc2, hc3, hby⟩ := hs5
  have hcv := run_text (P := Try.prog) w5 23 5 Try.underlying23 Try.underlying5 hby 2 c rfl 9 Try.underlying9
  have HRD5 := Lib.hid hrd5
  clear hrd5 hg5 HRD4 HB4 HB3 HS3 HRD3 HB5 hc1 hc2 hc3 hby
  go_wp2_with fail
  refine (errnum 0 _).mono ?_
  rintro e w6 ⟨rfl, rfl⟩
  have e1 : ((tx [97, 98]).toList == [97, 98]) = true := by kernel_rfl
  go_wp2_with fail
  refine (errnum 0 _).mono ?_
  rintro e w6 ⟨rfl, rfl⟩
  go_wp2_with fail
  refine (left_any _ _ _ _ _ HRD5.out).mono ?_
  rintro e w6 ⟨rfl, rfl⟩
  go_wp2_with fail
  refine (end_any _ _ _ _ _ HRD5.out).mono ?_
  rintro e w6 ⟨rfl, rfl⟩
  have e2 : endErr [] = 0 := rfl
  go_wp2_with fail
  refine (errnum 0 _).mono ?_
  rintro e w6 ⟨rfl, rfl⟩
  go_wp2_with fail
  refine (errnum 4 _).mono ?_
  rintro e w6 ⟨rfl, rfl⟩
  go_wp2_with fail
  refine (signed_any (-1) (by omega) (by omega) _).mono ?_
  rintro e w6 ⟨v6, rfl, hown6, hb6⟩
  have HB6 := Lib.hid (HBB.out.trans (hb6.mono (by omega)))
  have hs6 := Bs.of_own hown6
  have e3 : form (zz (-1)) = [1] := form_small 1 (by omega)
  rw [e3] at hs6
  obtain ⟨A6, c6, rfl, _, _, _, hby6⟩ := hs6
  have hcv6 := run_text (P := Try.prog) w6 23 5 Try.underlying23 Try.underlying5 hby6 1 c6 rfl 9 Try.underlying9
  have e4 : ((tx [1]).toList == [1]) = true := by kernel_rfl
  have hsz6 := hb6.size
  clear hown6 hb6 hby6 e3 hcv HRD5 HBB
  go_wp2_with fail
  refine (number_any 300 ⟨by omega⟩ _).mono ?_
  rintro e w7 ⟨v7, rfl, hown7, hb7⟩
  have HB7 := Lib.hid (HB6.out.trans (hb7.mono (by omega)))
  have hs7 := Bs.of_own hown7
  rw [form300] at hs7
  obtain ⟨A7, c7, rfl, _, _, _, hby7⟩ := hs7
  have hcv7 := run_text (P := Try.prog) w7 23 5 Try.underlying23 Try.underlying5 hby7 2 c7 rfl 9 Try.underlying9
  have e5 : ((tx [172, 2]).toList == [172, 2]) = true := by kernel_rfl
  clear hown7 hb7 hby7 hcv6 HB6
  go_wp2_with fail
  go_ret
  exact ⟨rfl, HB7.out⟩
end Go.Proofs.Ytdggemdgndiafaa
