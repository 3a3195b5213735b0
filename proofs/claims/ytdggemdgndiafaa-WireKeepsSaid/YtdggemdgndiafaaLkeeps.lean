/- WireKeeps: things that are written in a row are read as they were. -/
import Derived.Test.YtdggemdgndiafaaWkeeps
namespace Go.Proofs.Ytdggemdgndiafaa.wireKeeps
open Go.ChangeShapes Go.WideShapes Go.ChangeAt Go.RowKit

theorem form_small' {t : Thg} (h1 : t.b.length ≤ 3000) (h2 : t.l.length ≤ 3000) {w : World} {lo hi : Nat} (h : ThOk w lo hi t) : t.form.length ≤ 40000 := by
  have hn : ∀ n, U64 n → (Go.Proofs.Ytdggemdgndiafaa.form n).length ≤ 10 := fun n hn => form_len64 hn
  unfold Thg.form
  split
  · have := hn _ h.n64; omega
  split
  · have := hn _ (zz_64 h.s1 h.s2); omega
  split
  · unfold flagForm; split <;> simp
  split
  · unfold bytesForm; rw [List.length_append]; have := hn t.b.length ⟨by omega⟩; omega
  split
  · unfold listForm
    rw [List.length_append]
    have h3 := hn t.l.length ⟨by omega⟩
    have h4 : ((t.l.map Go.Proofs.Ytdggemdgndiafaa.form).flatten).length ≤ 10 * t.l.length := by
      have := fl_len t.l h.l64 t.l.length (Nat.le_refl _)
      rw [fl_all] at this
      exact this
    omega
  · simp
theorem form_byt {t : Thg} {w : World} {lo hi : Nat} (h : ThOk w lo hi t) : ∀ x ∈ t.form, x < 256 := by
  intro x hx
  unfold Thg.form at hx
  split at hx
  · exact form_bytes _ x hx
  split at hx
  · exact form_bytes _ x hx
  split at hx
  · unfold flagForm at hx; split at hx <;> simp at hx <;> omega
  split at hx
  · unfold bytesForm at hx
    rcases List.mem_append.1 hx with h1 | h1
    · exact form_bytes _ x h1
    · exact h.byt x h1
  split at hx
  · unfold listForm at hx
    rcases List.mem_append.1 hx with h1 | h1
    · exact form_bytes _ x h1
    · obtain ⟨l, hl, hxl⟩ := List.mem_flatten.1 h1
      simp only [List.mem_map] at hl
      obtain ⟨n, _, rfl⟩ := hl
      exact form_bytes _ x hxl
  · cases hx

set_option maxRecDepth 100000 in
set_option maxHeartbeats 4000000 in
theorem walk (w : World) (A : Option Addr) (c : Nat) (ts : List Thg) (h : Things w 0 w.heap.size A ts) (hc : c ≤ maxLen) (hlc : ts.length ≤ c) :
    Calls Try.prog 7 #[.slice A ts.length c] w fun e w' => e = .returned (.bool true) ∧ Below w.heap.size w w' := by
  obtain ⟨i0, hi0, ix0, ix1, ix2⟩ := info_parts t5info
  have HI := Lib.hid hi0
  have hlen : ts.length ≤ 9223372036854775807 := by unfold maxLen at hc; omega
  have HT := Lib.hid h
  have HC := Lib.hid (And.intro hc hlc)
  clear h hc hlc hi0
  go_enter Try.func7, Try.ntmps7
  go_wp2_with fail
  refine (known_any w).mono ?_
  rintro e w1 ⟨rfl, hb⟩
  have HB1 := Lib.hid hb
  clear hb
  go_wp2_with fail
  go_loopw [3, 4] (fun v i wr => ∃ k : Nat, k ≤ ts.length ∧ k ≤ 61 ∧ i = .int .i64 (k : Int) ∧ Hid (∀ j (hj : j < ts.length), j < k → ts[j].b.length ≤ 3000 ∧ ts[j].l.length ≤ 3000) ∧ Hid (((thl ts).take k).flatten.length ≤ 40000 * k) ∧ Hid (wr.ownsRow w.heap.size 5 1 v ((thl ts).take k).flatten.length (bv ((thl ts).take k).flatten)) ∧ Hid (Below w.heap.size w wr)) (fun _ i _ => ts.length - (intOf i).toNat)
  case atStart => exact ⟨0, Nat.zero_le _, by omega, rfl, fun j hj h => absurd h (by omega), Lib.hid (by simp), Lib.hid (by simpa [bv] using World.ownsRow_nil _ _ _ _), HB1⟩
  case round =>
    obtain ⟨k, hk, hk61, rfl, HSM, HPL, HO, HB⟩ := hrel
    have hzr := HB.out.size
    by_cases hlt : k < ts.length
    · obtain ⟨b, o, rfl, hat⟩ := HT.out.at_ hlt
      have HAT := Lib.hid hat
      obtain ⟨hcs, hok⟩ := hat wr HB.out
      obtain ⟨t, ht⟩ : ∃ t, t = ts[k] := ⟨_, rfl⟩
      rw [← ht] at hcs hok
      have HOK := Lib.hid hok
      have HTK := Lib.hid ht
      obtain ⟨kind, n, s, f, vb, tb, vl, tl⟩ := t
      obtain ⟨Ab, cb, hvb, _, _, _, _⟩ := hok.bs
      obtain ⟨Al, cl, hvl, _, _, _⟩ := hok.us
      simp only at hvb hvl
      subst hvb hvl
      have c0 : wr.cell? ⟨b, o + k * 6, none⟩ = some (.int .i64 kind) := hcs 0 _ (by omega) rfl
      have c1 : wr.cell? ⟨b, o + k * 6 + 1, none⟩ = some (.int .u64 (n : Int)) := hcs 1 _ (by omega) rfl
      have c2 : wr.cell? ⟨b, o + k * 6 + 2, none⟩ = some (.int .i64 s) := hcs 2 _ (by omega) rfl
      have c3 : wr.cell? ⟨b, o + k * 6 + 3, none⟩ = some (.bool f) := hcs 3 _ (by omega) rfl
      have c4 : wr.cell? ⟨b, o + k * 6 + 4, none⟩ = some (.slice Ab tb.length cb) := hcs 4 _ (by omega) rfl
      have c5 : wr.cell? ⟨b, o + k * 6 + 5, none⟩ = some (.slice Al tl.length cl) := hcs 5 _ (by omega) rfl
      have hki : (k : Int) < (ts.length : Int) := by omega
      clear hcs hok hat ht
      by_cases g0 : 60 < k
      · have hd : decide ((60 : Int) < (k : Int)) = true := decide_eq_true (by omega)
        have hd2 : decide (60 < k) = true := decide_eq_true g0
        clear g0
        go_wp2_with fail
        go_ret
        exact ⟨rfl, HB.out⟩
      · have hd : decide ((60 : Int) < (k : Int)) = false := decide_eq_false (by omega)
        have hd2 : decide (60 < k) = false := decide_eq_false g0
        by_cases g1 : 3000 < tb.length
        · have hd3 : decide ((3000 : Int) < (tb.length : Int)) = true := decide_eq_true (by omega)
          have hd4 : decide (3000 < tb.length) = true := decide_eq_true g1
          clear g0 g1
          go_wp2_with fail
          go_ret
          exact ⟨rfl, HB.out⟩
        · have hd3 : decide ((3000 : Int) < (tb.length : Int)) = false := decide_eq_false (by omega)
          have hd4 : decide (3000 < tb.length) = false := decide_eq_false g1
          by_cases g2 : 3000 < tl.length
          · have hd5 : decide ((3000 : Int) < (tl.length : Int)) = true := decide_eq_true (by omega)
            have hd6 : decide (3000 < tl.length) = true := decide_eq_true g2
            clear g0 g1 g2
            go_wp2_with fail
            go_ret
            exact ⟨rfl, HB.out⟩
          · have hd5 : decide ((3000 : Int) < (tl.length : Int)) = false := decide_eq_false (by omega)
            have hd6 : decide (3000 < tl.length) = false := decide_eq_false g2
            have HG := Lib.hid (show tb.length ≤ 3000 ∧ tl.length ≤ 3000 ∧ k ≤ 60 by omega)
            have HW := Lib.hid (written_any _ wr 0 w.heap.size HOK.out hzr (by simp only; omega) (by simp only; omega))
            clear g0 g1 g2
            go_wp2_with fail
            refine Calls.mono HW.out ?_
            rintro e w2 ⟨v2, rfl, hown2, hb2⟩
            have HB2 := Lib.hid (HB.out.trans (hb2.mono hzr))
            have HO2 : Hid (w2.ownsRow w.heap.size 5 1 u3 ((thl ts).take k).flatten.length (bv ((thl ts).take k).flatten)) := Lib.hid (own_below HO.out hb2)
            obtain ⟨F, hF⟩ : ∃ F, F = Thg.form { kind := kind, n := n, s := s, f := f, vb := .slice Ab tb.length cb, b := tb, vl := .slice Al tl.length cl, l := tl } := ⟨_, rfl⟩
            rw [← hF] at hown2
            have HS2 := Lib.hid (Bs.of_own hown2)
            obtain ⟨Av, cv2, hv2, _, _, hn2, hs2⟩ := Bs.of_own hown2
            subst hv2
            have HFL : Hid (F.length ≤ 40000) := by rw [hF]; exact form_small' (by have := HG.out; simp only; omega) (by have := HG.out; simp only; omega) HOK.out
            have HFT : Hid (F = ts[k].form) := by rw [hF, HTK.out]; rfl
            have HNN := Lib.hid hn2
            have HSS := Lib.hid hs2
            obtain ⟨P, hP⟩ : ∃ P, P = ((thl ts).take k).flatten := ⟨_, rfl⟩
            rw [← hP] at HO2 HPL
            have HPP := Lib.hid hP
            clear hF hown2 hb2 hn2 hs2 HW hP
            go_wp2_with (at_builtin; refine wpList_addall rfl (.tmp 35) (.tmp 40) 23 rfl w.heap.size 5 i0 (.int .u8 0) 1 Try.underlying23 HI.out ix0 ix1 ix2 rfl _ _ _ rfl HO2.out wr.heap.size w2.heap.size Av F.length cv2 (bv F) rfl HNN.out (bv_length _) HSS.out (bv_one _) (by have := HFL.out; have := HPL.out; have := HG.out; unfold maxLen; omega) (by have := HFL.out; have := HPL.out; have := HG.out; omega) HB2.out.size ?_)
            intro v3 w3 hown3 hb3
            have HB3 := Lib.hid (hb3 _ HB2.out)
            have HO3 : Hid (w3.ownsRow w.heap.size 5 1 v3 ((thl ts).take (k + 1)).flatten.length (bv ((thl ts).take (k + 1)).flatten)) := by
              rw [flat_take_succ (thl ts) (by simpa [thl] using hlt), thl_at ts hlt, ← HFT.out, ← HPP.out, List.length_append, bv_append]; exact hown3
            have HPL3 : Hid (((thl ts).take (k + 1)).flatten.length ≤ 40000 * (k + 1)) := by
              rw [flat_take_succ (thl ts) (by simpa [thl] using hlt), thl_at ts hlt, ← HFT.out, ← HPP.out, List.length_append]
              have h1 := HFL.out
              have h2 := HPL.out
              exact Lib.hid (by omega)
            have HSM3 : Hid (∀ j (hj : j < ts.length), j < k + 1 → ts[j].b.length ≤ 3000 ∧ ts[j].l.length ≤ 3000) := by
              intro j hj hjk
              by_cases e : j = k
              · subst e
                rw [← HTK.out]
                exact ⟨HG.out.1, HG.out.2.1⟩
              · exact HSM.out j hj (by omega)
            clear hown3 hb3 c0 c1 c2 c3 c4 c5
            go_wp2_with fail
            go_roundw
            case rel => exact ⟨k + 1, by omega, by have := HG.out; omega, by go_num, HSM3, HPL3, HO3, HB3⟩
            case measure => simp [intOf]; omega
    · have HKK := Lib.hid (show k = ts.length by omega)
      have HROW : Hid (((thl ts).take k).flatten = (thl ts).flatten) := Lib.hid (by rw [HKK.out, List.take_of_length_le (by simp [thl])])
      obtain ⟨R, hR⟩ : ∃ R, R = (thl ts).flatten := ⟨_, rfl⟩
      rw [HROW.out, ← hR] at HO HPL
      have HRR := Lib.hid hR
      have HRB : Hid (∀ x ∈ R, x < 256) := by
        rw [hR]; intro x hx
        obtain ⟨l, hl, hxl⟩ := List.mem_flatten.1 hx
        simp only [thl, List.mem_map] at hl
        obtain ⟨t, ht, rfl⟩ := hl
        exact form_byt (HT.out.each t ht) x hxl
      have HSMA : Hid (∀ t ∈ ts, t.b.length ≤ 1000000 ∧ t.l.length ≤ 1000000) := by
        intro t ht
        obtain ⟨j, hj, rfl⟩ := List.mem_iff_getElem.1 ht
        have := HSM.out j hj (by have := HKK.out; omega)
        omega
      have HRL : Hid (R.length ≤ 2440000) := by have := HPL.out; exact Lib.hid (by omega)
      have HSR := Lib.hid (Bs.of_own HO.out)
      obtain ⟨Ar, cr, hvr, _, _, _, _⟩ := Bs.of_own HO.out
      subst hvr
      have hrl : (R.length : Int) ≤ 2440000 := by have := HRL.out; omega
      have hrcr : (R.length : Int) ≤ (cr : Int) := by obtain ⟨A', c', he, h1, _⟩ := HSR.out; injection he with e1 e2 e3; subst e3; omega
      clear hR hlt
      have hd : decide ((k : Int) < (ts.length : Int)) = false := decide_eq_false (by have := HKK.out; omega)
      have hd2 : decide (k < ts.length) = false := decide_eq_false (by have := HKK.out; omega)
      clear hk hk61
      go_wp2_with fail
      refine (open_any _ _ _ R wr HSR.out (Nat.le_refl _) (by have := HRL.out; omega) HRB.out).mono ?_
      rintro e w2 ⟨p, lop, hip, rfl, hrd2, hp2, hlo2, hb2⟩
      have hz2 := hb2.size
      have HB2 := Lib.hid (HB.out.trans (hb2.mono hzr))
      have HRD2 := Lib.hid hrd2
      have HP2 := Lib.hid hp2
      have HSR2 := Lib.hid (HSR.out.below hb2 (Nat.le_refl _))
      have HT2 : Hid (Things w2 0 w.heap.size A ts) := ⟨HT.out.cells.below HB2.out (Nat.le_refl _), fun t ht => (HT.out.each t ht).below HB2.out (Nat.le_refl _)⟩
      have HK2 := Lib.hid (keeps_any w2 0 w.heap.size A c ts HT2.out HC.out.1 HC.out.2 HSMA.out p lop hip R hrd2 (by omega) (by omega) (by have := HRL.out; omega) HRB.out)
      clear hrd2 hb2 hp2 hlo2
      go_wp2_with fail
      refine Calls.mono HK2.out ?_
      rintro e w3 ⟨ok, rfl, hg3, hcase⟩
      have hok : ok = true ∧ Rd w3 p lop hip [] := by
        rcases hcase with ⟨rfl, rest, h1, h2⟩ | ⟨rfl, h1⟩
        · have h3 := congrArg List.length h1
          rw [← HRR.out, List.length_append] at h3
          have : rest = [] := List.eq_nil_of_length_eq_zero (by omega)
          subst this
          exact ⟨rfl, h2⟩
        · exact absurd (by rw [← HRR.out]; simp) (h1 [])
      obtain ⟨rfl, hrd3⟩ := hok
      have HRD3 := Lib.hid hrd3
      have HB3 := Lib.hid (HB2.out.grown hg3 (by have := HB2.out.size; omega) (fun q hq => by injection hq with hq; have := HP2.out; omega))
      have HSR3 := Lib.hid (show Bs w3 w.heap.size wr.heap.size (.slice Ar R.length cr) R from HSR2.out.grown hg3 hz2 (fun q hq => by injection hq with hq; have := HP2.out; omega))
      have hz3 := hg3.size
      clear hcase hg3 hrd3 HK2
      go_wp2_with fail
      refine (end_any _ _ _ _ _ HRD3.out).mono ?_
      rintro e w4 ⟨rfl, rfl⟩
      have e2 : endErr [] = 0 := rfl
      go_wp2_with fail
      refine (errnum 0 _).mono ?_
      rintro e w4 ⟨rfl, rfl⟩
      by_cases h0 : R.length = 0
      · have hq : ((R.length : Int) == 0) = true := by rw [h0]; rfl
        have hq2 : (R.length == 0) = true := by rw [h0]; rfl
        clear h0
        go_wp2_with fail
        go_ret
        exact ⟨rfl, HB3.out⟩
      · have hq : ((R.length : Int) == 0) = false := by rw [beq_eq_false_iff_ne]; omega
        have hq2 : (R.length == 0) = false := by rw [beq_eq_false_iff_ne]; omega
        have hsub : (1 : Int) ≤ (R.length : Int) := by omega
        obtain ⟨M, hM⟩ : ∃ M, R.length = M + 1 := ⟨R.length - 1, by omega⟩
        have HM := Lib.hid hM
        have HMI : Hid ((R.length : Int) - 1 = (M : Int)) := Lib.hid (by omega)
        have HMN : Hid (R.length - 1 = M) := Lib.hid (by omega)
        have HSM3 : Hid (Bs w3 w.heap.size wr.heap.size (.slice Ar M cr) (R.take M)) := by
          obtain ⟨A', c', he, a1, a2, a3, a4⟩ := HSR3.out
          injection he with x1 x2 x3
          subst x1 x3
          have hl : (R.take M).length = M := by simp; omega
          refine ⟨Ar, cr, by rw [hl], by rw [hl]; omega, a2, a3, ?_⟩
          unfold By
          rw [bv_take]
          exact Sl.take a4 M
        have HO3 := Lib.hid (open_any _ _ _ (R.take M) w3 HSM3.out (by omega) (by simp; have := HRL.out; omega) (fun x hx => HRB.out x (List.mem_of_mem_take hx)))
        clear h0 hM
        go_wp2_with fail
        rw [HMN.out]
        refine Calls.mono HO3.out ?_
        rintro e w5 ⟨p5, lo5, hi5, rfl, hrd5, hp5, hlo5, hb5⟩
        have hz5 := hb5.size
        have hz3' := HB3.out.size
        have HB5 := Lib.hid (HB3.out.trans (hb5.mono HB3.out.size))
        have HT5 : Hid (Things w5 0 w.heap.size A ts) := ⟨HT.out.cells.below HB5.out (Nat.le_refl _), fun t ht => (HT.out.each t ht).below HB5.out (Nat.le_refl _)⟩
        have HK5 := Lib.hid (keeps_any w5 0 w.heap.size A c ts HT5.out HC.out.1 HC.out.2 HSMA.out p5 lo5 hi5 (R.take M) hrd5 (by omega) (by omega) (by simp; have := HRL.out; omega) (fun x hx => HRB.out x (List.mem_of_mem_take hx)))
        have HP5 := Lib.hid hp5
        clear hrd5 hb5 hp5 hlo5 HO3
        go_wp2_with fail
        refine Calls.mono HK5.out ?_
        rintro e w6 ⟨ok, rfl, hg6, hcase⟩
        have hok : ok = false := by
          rcases hcase with ⟨rfl, rest, h1, _⟩ | ⟨rfl, _⟩
          · have h3 := congrArg List.length h1
            rw [← HRR.out, List.length_append, List.length_take] at h3
            have := HM.out
            omega
          · rfl
        subst hok
        have HB6 := Lib.hid (HB5.out.grown hg6 (by omega) (fun q hq => by injection hq with hq; have := HP5.out; omega))
        clear hcase hg6 HK5
        go_wp2_with fail
        go_ret
        exact ⟨rfl, HB6.out⟩
end Go.Proofs.Ytdggemdgndiafaa.wireKeeps
