/- WireSigns: a signed number's form is the chapter's, and is read as that number. -/
import Derived.Test.YtdggemdgndiafaaFrame
import Derived.Test.YtdggemdgndiafaaRmore
import Derived.Test.YtdggemdgndiafaaOrd
import Derived.Deep.DeepCutAuto
namespace Go.Proofs.Ytdggemdgndiafaa.wireSigns
open Go.ChangeShapes Go.WideShapes Go.ChangeAt Go.RowKit

set_option maxRecDepth 100000 in
set_option maxHeartbeats 2000000 in
theorem walk (n : Int) (hwf : (Lit.int .i64 n).wf = true) (w : World) :
    Calls Try.prog 4 #[.int .i64 n] w fun e w' => e = .returned (.bool true) ∧ Below w.heap.size w w' := by
  obtain ⟨h1, h2⟩ := i64_wf hwf
  clear hwf
  have hz64 := zz_64 h1 h2
  have hlen := form_len64 hz64
  have HB := Lib.hid (form_bytes (zz n))
  obtain ⟨F, hF⟩ : ∃ F, F = form (zz n) := ⟨_, rfl⟩
  have HS := Lib.hid (signed_any n h1 h2 w)
  have HR := Lib.hid (rsigned_any n h1 h2)
  rw [← hF] at HS HR HB hlen
  have HF := Lib.hid hF
  have HL := Lib.hid hlen
  clear hF hlen
  go_enter Try.func4, Try.ntmps4
  go_wp2_with fail
  refine Calls.mono HS.out ?_
  rintro e w1 ⟨v1, rfl, hown1, hb1⟩
  have hs1 := Bs.of_own hown1
  have HO1 := Lib.hid (open_any _ _ _ F w1 hs1 (Nat.le_refl _) (by have := HL.out; omega) HB.out)
  have HS1 := Lib.hid hs1
  obtain ⟨A, c, rfl, hc1, hc2, hc3, _⟩ := hs1
  have hz1 := hb1.size
  have HB1 := Lib.hid hb1
  clear hown1 hb1 hc1 hc2 hc3
  go_wp2_with fail
  refine Calls.mono HO1.out ?_
  rintro e w2 ⟨r, lo, hi, rfl, hrd, hr, hlo, hb2⟩
  have hz2 := hb2.size
  have HS2 := Lib.hid (HS1.out.below hb2 (Nat.le_refl _))
  have HB2 := Lib.hid (HB1.out.trans (hb2.mono hz1))
  have HRD := Lib.hid hrd
  have HO2 := Lib.hid (open_any _ _ _ F w2 HS2.out hz2 (by have := HL.out; omega) HB.out)
  clear hrd hb2
  go_wp2_with fail
  refine Calls.mono HO2.out ?_
  rintro e w3 ⟨o, lo2, hi2, rfl, hrd2, ho, hlo2, hb3⟩
  have hz3 := hb3.size
  have HS3 := Lib.hid (HS2.out.below hb3 hz2)
  have HB3 := Lib.hid (HB2.out.trans (hb3.mono (by omega)))
  have HRD3 := Lib.hid (HRD.out.below hb3 HRD.out.top HRD.out.lt)
  have HOD := Lib.hid hrd2
  have Hro := Lib.hid (show r < w2.heap.size from HRD.out.lt)
  clear hrd2 hb3
  go_upto_region 3 with (fail)
  go_cut [29] (fun v wx => v = .bool false ∧ Below w3.heap.size w3 wx)
  case first =>
    have hle := Nat.le_trans hz2 hz3
    have HCA : Hid (∀ u, Ext w3.drew u → (convert 23 9 (.slice A F.length c)).run Try.prog u = .ok (.string (tx F)) u) := fun u hu => cv (HS3.out.drew.below hu hle)
    clear h1 h2 hz64 HS HL HO1 HO2 HB1 HB2 HB3 HRD HRD3 HOD Hro
    refine From.start (by kernel_rfl) ?_
    simp only []
    repeat (first | (refine From.read (v := ?_) (by kernel_rfl) (by kernel_rfl) (by kernel_rfl) (fun _ _ _ h => h) (.inl ⟨by rfl, fun u hu => ?_⟩) ?_; rotate_left; (focus (have q1 := HCA.out u hu; go_simp; try with_reducible rfl)); simp only [Act.put, List.setIfInBounds_toArray, List.set_cons_zero, List.set_cons_succ]) | (refine From.read (v := undef) (by kernel_rfl) (by kernel_rfl) (by kernel_rfl) (fun _ _ _ h => h) (.inr ⟨by rfl, rfl⟩) ?_; simp only [Act.put, List.setIfInBounds_toArray, List.set_cons_zero, List.set_cons_succ]))
    refine From.make (by kernel_rfl) (fun K hK => ?_)
    go_simp
    refine Calls.mono (HR.out _) ?_
    rintro e w4 ⟨v4, rfl, hown4, hb4⟩
    have hs4 := Bs.of_own hown4
    have hcv5 := hs4
    obtain ⟨A4, c4, rfl, q1, q2, q3, q4⟩ := hs4
    have HCB : Hid (∀ u, Ext w4 u → (convert 23 9 (.slice A4 F.length c4)).run Try.prog u = .ok (.string (tx F)) u) := fun u hu => cv (hcv5.below hu (Nat.le_refl _))
    have HB4 : Hid (Ext w3.drew w4) := hb4
    clear q1 q2 q3 q4 hb4 hown4 hcv5
    go_simp
    refine hK _ _ HB4.out ?_
    clear hK K
    repeat (first | (refine From.read (v := ?_) (by kernel_rfl) (by kernel_rfl) (by kernel_rfl) (fun _ _ _ h => h) (.inl ⟨by rfl, fun u hu => ?_⟩) ?_; rotate_left; (focus (have q1 := HCB.out u hu; go_simp; try with_reducible rfl)); simp only [Act.put, List.setIfInBounds_toArray, List.set_cons_zero, List.set_cons_succ]) | (refine From.read (v := undef) (by kernel_rfl) (by kernel_rfl) (by kernel_rfl) (fun _ _ _ h => h) (.inr ⟨by rfl, rfl⟩) ?_; simp only [Act.put, List.setIfInBounds_toArray, List.set_cons_zero, List.set_cons_succ]))
    refine From.done (by kernel_rfl) ?_
    go_wp2_with fail
    go_meet
    exact ⟨rfl, (Ext.drew w3).trans HB4.out⟩
  case rest =>
    obtain ⟨rfl, hb4⟩ := hcut
    have hzc := hb4.size
    have HBC := Lib.hid (HB3.out.trans (hb4.mono (by omega)))
    have HR4 := Lib.hid (HRD3.out.below hb4 HRD3.out.top HRD3.out.lt)
    have HO4 := Lib.hid (HOD.out.below hb4 HOD.out.top HOD.out.lt)
    clear hb4
    have hbeg : Begins F (zz n) [] := ⟨hz64, by rw [HF.out]; simp⟩
    have HG := Lib.hid hbeg
    clear hbeg
    go_wp2_with fail
    refine (Signed_yes HR4.out HG.out).mono ?_
    rintro e w5 ⟨rfl, hrd5, hg5⟩
    have hrn : r < o := by have := HRD.out.lt; omega
    have HR5 := Lib.hid hrd5
    have HO5 := Lib.hid (HO4.out.grown hg5 (by intro h; injection h with h; omega) (fun k hk => by injection hk with hk; have := HRD.out.lt; omega))
    have HB5 := Lib.hid (HBC.out.grown hg5 (by omega) (fun k hk => by injection hk with hk; omega))
    have hz5 := hg5.size
    clear hrd5 hg5
    go_wp2_with fail
    refine (Number_yes HO5.out HG.out).mono ?_
    rintro e w6 ⟨rfl, hrd6, hg6⟩
    have HO6 := Lib.hid hrd6
    have HR6 := Lib.hid (HR5.out.grown hg6 (by intro h; injection h with h; omega) (fun k hk => by injection hk with hk; have := HR5.out.top; have := HRD.out.top; right; omega))
    have HB6 := Lib.hid (HB5.out.grown hg6 (by omega) (fun k hk => by injection hk with hk; omega))
    clear hrd6 hg6
    have HN := Lib.hid (form_small (zz n))
    have HP := Lib.hid (@zz_pos n)
    have HG2 := Lib.hid (@zz_neg n)
    have hnum := errnum
    go_wp2_with fail
    refine (errnum 0 _).mono ?_
    rintro e w7 ⟨rfl, rfl⟩
    go_wp2_with fail
    refine (errnum 0 _).mono ?_
    rintro e w7 ⟨rfl, rfl⟩
    go_wp2_with fail
    refine (end_any _ _ _ _ _ HR6.out).mono ?_
    rintro e w7 ⟨rfl, rfl⟩
    have e0 : endErr [] = 0 := rfl
    go_wp2_with fail
    refine (errnum 0 _).mono ?_
    rintro e w7 ⟨rfl, rfl⟩
    go_wp2_with fail
    refine (end_any _ _ _ _ _ HO6.out).mono ?_
    rintro e w7 ⟨rfl, rfl⟩
    go_wp2_with fail
    refine (errnum 0 _).mono ?_
    rintro e w7 ⟨rfl, rfl⟩
    have HK := Lib.hid (known_any w6)
    have HZ := Lib.hid (show w.heap.size ≤ w6.heap.size from HB6.out.size)
    clear hnum HS HL HO1 HO2 HB1 HB2 HB3 HRD HRD3 HOD Hro
    rcases Int.lt_or_le n 0 with hn | hn
    · have d3 : decide (n < 0) = true := by simp [hn]
      have d2 : decide (n < 64) = true := by simp; omega
      have hu : ((zz n : Int) == -(n + 1) * 2 + 1) = true := by rw [beq_iff_eq, HG2.out hn]; omega
      by_cases hs : -64 ≤ n
      · have d1 : decide (-64 ≤ n) = true := by simp [hs]
        have hF1 : F.length = 1 := by rw [HF.out, HN.out (by have := HG2.out hn; omega)]; rfl
        clear h1 h2
        go_wp2_with fail
        refine Calls.mono HK.out ?_
        rintro e w7 ⟨rfl, hb7⟩
        go_wp2_with fail
        go_ret
        exact ⟨rfl, HB6.out.trans (hb7.mono HZ.out)⟩
      · have d1 : decide (-64 ≤ n) = false := by simp; omega
        clear h2
        go_wp2_with fail
        refine Calls.mono HK.out ?_
        rintro e w7 ⟨rfl, hb7⟩
        go_wp2_with fail
        go_ret
        exact ⟨rfl, HB6.out.trans (hb7.mono HZ.out)⟩
    · have d3 : decide (n < 0) = false := by simp; omega
      have d1 : decide (-64 ≤ n) = true := by simp; omega
      have hu : ((zz n : Int) == n * 2) = true := by rw [beq_iff_eq, HP.out hn]
      by_cases hs : n < 64
      · have d2 : decide (n < 64) = true := by simp [hs]
        have hF1 : F.length = 1 := by rw [HF.out, HN.out (by have := HP.out hn; omega)]; rfl
        clear h1 h2
        go_wp2_with fail
        refine Calls.mono HK.out ?_
        rintro e w7 ⟨rfl, hb7⟩
        go_wp2_with fail
        go_ret
        exact ⟨rfl, HB6.out.trans (hb7.mono HZ.out)⟩
      · have d2 : decide (n < 64) = false := by simp; omega
        clear h1
        go_wp2_with fail
        refine Calls.mono HK.out ?_
        rintro e w7 ⟨rfl, hb7⟩
        go_wp2_with fail
        go_ret
        exact ⟨rfl, HB6.out.trans (hb7.mono HZ.out)⟩
end Go.Proofs.Ytdggemdgndiafaa.wireSigns
