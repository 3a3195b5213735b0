/- The document's own: one frame. -/
import Derived.Test.YtkaammdekalgnaaMrodd
namespace Go.Proofs.Ytkaammdekalgnaa
open Go.ChangeShapes Go.WideShapes Go.ChangeAt Go.RowKit

theorem one_frs {b : List Nat} : one b = if (frs b 0).length = 1 ∧ fend b 0 = b.length then (frs b 0)[0]?.map Prod.snd else none := by
  unfold one
  cases hw : whole1 b with
  | none =>
    have h0 : whole1 (b.drop 0) = none := by rw [List.drop_zero]; exact hw
    rw [frs_none h0]; simp
  | some p =>
    have h0 : whole1 (b.drop 0) = some p := by rw [List.drop_zero]; exact hw
    have hs := whole1_spec hw
    rw [frs_some h0, fend_some h0, Nat.zero_add]
    by_cases hl : b.length ≤ p.length + 8
    · have hn : whole1 (b.drop (p.length + 8)) = none := by rw [List.drop_eq_nil_of_le hl]; exact whole1_nil
      simp only [hl, if_true, frs_none hn, fend_none hn]
      rw [if_pos ⟨rfl, by omega⟩]; rfl
    · simp only [hl, if_false]
      rw [if_neg]
      rintro ⟨h1, h2⟩
      cases hn : whole1 (b.drop (p.length + 8)) with
      | none => rw [fend_none hn] at h2; omega
      | some q => rw [frs_some hn] at h1; simp at h1
theorem row_at {w : World} {B n c : Nat} {A : Option Addr} {t : TypeId} {xs : List Value} (h : w.ownsRow B t 1 (.slice A n c) n xs) {k : Nat} (hk : k < xs.length) : ∃ b, A = some ⟨b, 0, none⟩ ∧ w.cell? ⟨b, k, none⟩ = some xs[k] := by
  rcases h.2 with ⟨e, h0⟩ | ⟨g, cap, cur, e, _, hh, hn, _, hc, ht⟩
  · have := h.1; omega
  · injection e with e1 e2 e3
    subst e1 e3
    refine ⟨g, rfl, ?_⟩
    rw [h.cellAt k (by have := h.1; omega), List.getElem?_eq_getElem hk]

set_option maxRecDepth 100000 in
set_option maxHeartbeats 4000000 in
theorem rone_any {w : World} {lo hi : Nat} {v : Value} {b : List Nat} (hv : Bs w lo hi v b) (hhi : hi ≤ w.heap.size) (hb : ∀ x ∈ b, x < 256) (hlen : b.length ≤ 1099511627776) :
    Calls Try.prog 21 #[v] w (OneAns w b) := by
  have HC := Lib.hid (frames_any hv hhi hb hlen)
  obtain ⟨A, c, rfl, q1, q2, q3, _⟩ := hv
  have hb63 : (b.length : Int) ≤ 1099511627776 := by omega
  clear q1 q2 q3 hb hlen
  have HON := Lib.hid (one_frs (b := b))
  unfold FramesAns at HC
  have HEQ : Hid ((frs b 0).length = (frs b 0).length) := rfl
  obtain ⟨N, hN⟩ : ∃ N, N = (frs b 0).length := ⟨_, rfl⟩
  obtain ⟨k, hk⟩ : ∃ k, k = fend b 0 := ⟨_, rfl⟩
  rw [← hN, ← hk] at HC HON
  have HN := Lib.hid hN
  clear hN hk HEQ
  by_cases h1 : N = 1
  · have t1 : ((N : Int) != 1) = false := by simp [h1]
    by_cases h2 : k = b.length
    · have t2 : ((k : Int) != (b.length : Int)) = false := by simp [h2]
      have HH1 := Lib.hid h1
      have HH2 := Lib.hid h2
      have hi1 : (0 : Int) < (N : Int) := by omega
      clear h1 h2
      go_enter Try.func21, Try.ntmps21
      go_wp2_with fail
      refine HC.out.mono ?_
      rintro e w1 ⟨A1, c1, A2, c2, rfl, hfr, hb1⟩
      have HB := Lib.hid hb1
      obtain ⟨_, vs, hvs, hpay⟩ := hfr
      rw [← HN.out] at hvs
      have hvl : 0 < vs.length := by have := hvs.1; have := HH1.out; omega
      obtain ⟨gb, rfl, hcell⟩ := row_at hvs hvl
      obtain ⟨x, hx, ho⟩ := hpay 0 vs[0] (List.getElem?_eq_getElem hvl)
      obtain ⟨v0, hv0⟩ : ∃ v0, v0 = vs[0] := ⟨_, rfl⟩
      rw [← hv0] at hcell ho
      obtain ⟨A0, c0, rfl, _, _, _, _⟩ := Sl.of_own ho
      have HO := Lib.hid ho
      have HX := Lib.hid hx
      clear hvs hpay hv0 ho hx hb1 hvl
      go_wp2_with fail
      go_ret2
      exact ⟨HB.out, .inl ⟨x.2, _, by rw [HON.out, if_pos ⟨HH1.out, HH2.out⟩, HX.out]; rfl, rfl, HO.out⟩⟩
    · have t2 : ((k : Int) != (b.length : Int)) = true := by simp; omega
      have HNO : Hid (one b = none) := by unfold Hid; rw [HON.out, if_neg (fun h => h2 h.2)]
      clear h1 h2
      go_enter Try.func21, Try.ntmps21
      go_wp2_with fail
      refine HC.out.mono ?_
      rintro e w1 ⟨A1, c1, A2, c2, rfl, hfr, hb1⟩
      have HB := Lib.hid hb1
      clear hfr hb1
      go_wp2_with fail
      go_ret2
      exact ⟨HB.out, .inr ⟨HNO.out, rfl⟩⟩
  · have t1 : ((N : Int) != 1) = true := by simp; omega
    have HNO : Hid (one b = none) := by unfold Hid; rw [HON.out, if_neg (fun h => h1 h.1)]
    clear h1
    go_enter Try.func21, Try.ntmps21
    go_wp2_with fail
    refine HC.out.mono ?_
    rintro e w1 ⟨A1, c1, A2, c2, rfl, hfr, hb1⟩
    have HB := Lib.hid hb1
    clear hfr hb1
    go_wp2_with fail
    go_ret2
    exact ⟨HB.out, .inr ⟨HNO.out, rfl⟩⟩
end Go.Proofs.Ytkaammdekalgnaa
