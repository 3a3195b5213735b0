/- WireNone: readers and functions that are not there. -/
import Derived.Test.YtdggemdgndiafaaWnil
namespace Go.Proofs.Ytdggemdgndiafaa.wireNone
open Go.ChangeShapes Go.WideShapes Go.ChangeAt Go.RowKit

set_option maxRecDepth 100000 in
set_option maxHeartbeats 8000000 in
theorem walk (w : World) : Calls Try.prog 10 #[] w fun e w' => e = .returned (.bool true) ∧ Below w.heap.size w w' := by
  have HO1 := Lib.hid (open_any (.slice none 0 0) 0 0 [] (w.alloc (.cells #[.slice none 0 0, .bool false] 77)) (Bs.nil _ _ _) (Nat.zero_le _) (by simp) (by simp))
  have HZ0 := Lib.hid (RObj.new w (.slice none 0 0) false)
  have HB0 := Lib.hid ((Below.refl w.heap.size w).alloc (Nat.le_refl _) (.cells #[.slice none 0 0, .bool false] 77))
  go_enter Try.func10, Try.ntmps10
  go_wp2_with fail
  refine Calls.mono HO1.out ?_
  rintro e w1 ⟨r, lo, hi, rfl, hrd, hr, hlo, hb1⟩
  have hz1 : w.heap.size < w1.heap.size := by have := hb1.size; simp at this; omega
  have HB1 := Lib.hid (HB0.out.trans (hb1.mono (by simp)))
  have HZ1 := Lib.hid (HZ0.out.below hb1 (by simp))
  have HRD1 := Lib.hid hrd
  clear hrd hr hlo hb1
  go_wp2_with fail
  refine (Put_nofunc _).mono ?_
  rintro e wz ⟨rfl, rfl⟩
  go_wp2_with fail
  refine (Put_none _).mono ?_
  rintro e w2 ⟨vb, rfl, hown2, hb2⟩
  have hz2 := hb2.size
  have HB2 := Lib.hid (HB1.out.trans (hb2.mono (by omega)))
  have HZ2 := Lib.hid (HZ1.out.below hb2 (by omega))
  have HRD2 := Lib.hid (HRD1.out.below hb2 HRD1.out.top HRD1.out.lt)
  have HS2 := Lib.hid (by have := Bs.of_own hown2; rw [form_small 0 (by omega)] at this; exact this)
  clear hown2 hb2
  have HO2 := Lib.hid (open_any _ _ _ [0] _ (bs_lit w2 [0] (by simp)) (by simp) (by simp) (by decide))
  go_wp2_with fail
  refine Calls.mono HO2.out ?_
  rintro e w3 ⟨r3, lo3, hi3, rfl, hrd3, hr3, hlo3, hb3⟩
  have hb3' : Below w2.heap.size w2 w3 := ((Below.refl w2.heap.size w2).alloc (Nat.le_refl _) (.cells (bv [0]).toArray 5)).trans (hb3.mono (by simp))
  have hz3 := hb3'.size
  have HB3 := Lib.hid (HB2.out.trans (hb3'.mono (by omega)))
  have HZ3 := Lib.hid (HZ2.out.below hb3' (by omega))
  have HRD3 := Lib.hid (HRD2.out.below hb3' HRD2.out.top HRD2.out.lt)
  have HS3 := Lib.hid (HS2.out.below hb3' (Nat.le_refl _))
  clear hrd3 hr3 hlo3 hb3 hb3'
  go_wp2_with fail
  refine (Take_nofunc _ _ _).mono ?_
  rintro e w4 ⟨rfl, hb4⟩
  have hz4 := hb4.size
  have HB4 := Lib.hid (HB3.out.trans (hb4.mono (by omega)))
  have HZ4 := Lib.hid (HZ3.out.below hb4 (by omega))
  have HRD4 := Lib.hid (HRD3.out.below hb4 HRD3.out.top HRD3.out.lt)
  have HS4 := Lib.hid (HS3.out.below hb4 hz3)
  clear hb4
  go_wp2_with fail
  refine (Take_nord _ _ _ (.inl rfl)).mono ?_
  rintro e w5 ⟨rfl, hb5⟩
  have hz5 := hb5.size
  have HB5 := Lib.hid (HB4.out.trans (hb5.mono (by omega)))
  have HZ5 := Lib.hid (HZ4.out.below hb5 (by omega))
  have HRD5 := Lib.hid (HRD4.out.below hb5 HRD4.out.top HRD4.out.lt)
  have HS5 := Lib.hid (HS4.out.below hb5 (by omega))
  clear hb5
  go_wp2_with fail
  refine (Take_nord _ _ _ (.inr ⟨_, rfl, HZ5.out⟩)).mono ?_
  rintro e w6 ⟨rfl, hb6⟩
  have hz6 := hb6.size
  have HB6 := Lib.hid (HB5.out.trans (hb6.mono (by omega)))
  have HZ6 := Lib.hid (HZ5.out.below hb6 (by omega))
  have HRD6 := Lib.hid (HRD5.out.below hb6 HRD5.out.top HRD5.out.lt)
  have hs6 := HS5.out.below hb6 (by omega)
  obtain ⟨A6, c6, rfl, _, _, _, hby6⟩ := hs6
  have hcv6 := run_text (P := Try.prog) w6 23 5 Try.underlying23 Try.underlying5 hby6 1 c6 rfl 9 Try.underlying9
  have e4 : ((tx [0]).toList == [0]) = true := by kernel_rfl
  clear hb6 hby6
  go_wp2_with fail
  refine (errnum 1 _).mono ?_
  rintro e wz ⟨rfl, rfl⟩
  go_wp2_with fail
  refine (errnum 0 _).mono ?_
  rintro e wz ⟨rfl, rfl⟩
  go_wp2_with fail
  refine (errnum 1 _).mono ?_
  rintro e wz ⟨rfl, rfl⟩
  go_wp2_with fail
  refine (errnum 1 _).mono ?_
  rintro e wz ⟨rfl, rfl⟩
  go_wp2_with fail
  refine (errnum 1 _).mono ?_
  rintro e wz ⟨rfl, rfl⟩
  go_wp2_with fail
  refine (end_any _ _ _ _ _ HRD6.out).mono ?_
  rintro e wz ⟨rfl, rfl⟩
  have e2 : endErr [] = 0 := rfl
  go_wp2_with fail
  refine (errnum 0 _).mono ?_
  rintro e wz ⟨rfl, rfl⟩
  go_wp2_with fail
  refine (left_any _ _ _ _ _ HRD6.out).mono ?_
  rintro e wz ⟨rfl, rfl⟩
  clear hcv6
  go_wp2_with fail
  go_loopw [14, 15, 16, 17, 18, 19, 20, 21, 22, 23] (fun i _ _ _ _ _ _ _ _ _ wr => ∃ k : Nat, k ≤ 2 ∧ i = .int .i64 (k : Int) ∧ Below w6.heap.size w6 wr) (fun i _ _ _ _ _ _ _ _ _ _ => 2 - (intOf i).toNat)
  case atStart => exact ⟨0, by omega, rfl, Below.refl _ _⟩
  case round =>
    obtain ⟨k, hk, rfl, hb⟩ := hrel
    have HB := Lib.hid hb
    have hsz := hb.size
    clear hb
    by_cases hlt : k < 2
    · have hd1 : decide (k < 2) = true := by simp [hlt]
      have hd2 : decide ((k : Int) < 2) = true := by simp; omega
      have hkI : (k : Int) + 1 ≤ 2 := by omega
      by_cases h1 : k = 1
      · have hq1 : (k == 1) = true := by simp [h1]
        have hq2 : ((k : Int) == 1) = true := by simp; omega
        have HN : Hid (NoRd wr (.pointer (some ⟨w.heap.size, 0, none⟩))) := .inr ⟨_, rfl, HZ6.out.below HB.out (by omega)⟩
        clear h1
        go_wp2_with fail
        refine (Number_nord _ _ HN.out).mono ?_
        rintro e wa ⟨rfl, hba⟩
        have HNa := Lib.hid (HN.out.below hba)
        have HBa := Lib.hid (HB.out.trans (hba.mono hsz))
        have hsa := HBa.out.size
        clear hba
        go_wp2_with fail
        refine (Signed_nord _ _ HNa.out).mono ?_
        rintro e wb ⟨rfl, hbb⟩
        have HNb := Lib.hid (HNa.out.below hbb)
        have HBb := Lib.hid (HBa.out.trans (hbb.mono hsa))
        have hsb := HBb.out.size
        clear hbb
        go_wp2_with fail
        refine (Flag_nord _ _ HNb.out).mono ?_
        rintro e wc ⟨rfl, hbc⟩
        have HNc := Lib.hid (HNb.out.below hbc)
        have HBc := Lib.hid (HBb.out.trans (hbc.mono hsb))
        have hsc := HBc.out.size
        clear hbc
        go_wp2_with fail
        refine (Bytes_nord _ _ _ HNc.out).mono ?_
        rintro e wd ⟨rfl, hbd⟩
        have HNd := Lib.hid (HNc.out.below hbd)
        have HBd := Lib.hid (HBc.out.trans (hbd.mono hsc))
        clear hbd
        go_wp2_with fail
        refine (errnum 1 _).mono ?_
        rintro e wz ⟨rfl, rfl⟩
        go_wp2_with fail
        refine (errnum 1 _).mono ?_
        rintro e wz ⟨rfl, rfl⟩
        go_wp2_with fail
        refine (errnum 1 _).mono ?_
        rintro e wz ⟨rfl, rfl⟩
        go_wp2_with fail
        refine (errnum 1 _).mono ?_
        rintro e wz ⟨rfl, rfl⟩
        go_wp2_with fail
        refine (end_nord _ _ HNd.out).mono ?_
        rintro e wz ⟨rfl, rfl⟩
        go_wp2_with fail
        refine (errnum 1 _).mono ?_
        rintro e wz ⟨rfl, rfl⟩
        go_wp2_with fail
        refine (left_nord _ _ HNd.out).mono ?_
        rintro e wz ⟨rfl, rfl⟩
        go_wp2_with fail
        go_roundw
        case rel => exact ⟨k + 1, by omega, by go_num, HBd.out⟩
        case measure => simp [intOf]; omega
      · have hq1 : (k == 1) = false := by simp [h1]
        have hq2 : ((k : Int) == 1) = false := by rw [beq_eq_false_iff_ne]; omega
        have HN : Hid (NoRd wr (.pointer none)) := .inl rfl
        clear h1
        go_wp2_with fail
        refine (Number_nord _ _ HN.out).mono ?_
        rintro e wa ⟨rfl, hba⟩
        have HNa := Lib.hid (HN.out.below hba)
        have HBa := Lib.hid (HB.out.trans (hba.mono hsz))
        have hsa := HBa.out.size
        clear hba
        go_wp2_with fail
        refine (Signed_nord _ _ HNa.out).mono ?_
        rintro e wb ⟨rfl, hbb⟩
        have HNb := Lib.hid (HNa.out.below hbb)
        have HBb := Lib.hid (HBa.out.trans (hbb.mono hsa))
        have hsb := HBb.out.size
        clear hbb
        go_wp2_with fail
        refine (Flag_nord _ _ HNb.out).mono ?_
        rintro e wc ⟨rfl, hbc⟩
        have HNc := Lib.hid (HNb.out.below hbc)
        have HBc := Lib.hid (HBb.out.trans (hbc.mono hsb))
        have hsc := HBc.out.size
        clear hbc
        go_wp2_with fail
        refine (Bytes_nord _ _ _ HNc.out).mono ?_
        rintro e wd ⟨rfl, hbd⟩
        have HNd := Lib.hid (HNc.out.below hbd)
        have HBd := Lib.hid (HBc.out.trans (hbd.mono hsc))
        clear hbd
        go_wp2_with fail
        refine (errnum 1 _).mono ?_
        rintro e wz ⟨rfl, rfl⟩
        go_wp2_with fail
        refine (errnum 1 _).mono ?_
        rintro e wz ⟨rfl, rfl⟩
        go_wp2_with fail
        refine (errnum 1 _).mono ?_
        rintro e wz ⟨rfl, rfl⟩
        go_wp2_with fail
        refine (errnum 1 _).mono ?_
        rintro e wz ⟨rfl, rfl⟩
        go_wp2_with fail
        refine (end_nord _ _ HNd.out).mono ?_
        rintro e wz ⟨rfl, rfl⟩
        go_wp2_with fail
        refine (errnum 1 _).mono ?_
        rintro e wz ⟨rfl, rfl⟩
        go_wp2_with fail
        refine (left_nord _ _ HNd.out).mono ?_
        rintro e wz ⟨rfl, rfl⟩
        go_wp2_with fail
        go_roundw
        case rel => exact ⟨k + 1, by omega, by go_num, HBd.out⟩
        case measure => simp [intOf]; omega
    · obtain rfl : k = 2 := by omega
      have HBF := Lib.hid (HB6.out.trans (HB.out.mono (by omega)))
      clear hk hlt
      go_wp2_with fail
      refine (known_any _).mono ?_
      rintro e w9 ⟨rfl, hb9⟩
      have HB9 := Lib.hid (HBF.out.trans (hb9.mono (by omega)))
      clear hb9
      go_wp2_with fail
      go_ret
      exact ⟨rfl, HB9.out⟩
end Go.Proofs.Ytdggemdgndiafaa.wireNone
