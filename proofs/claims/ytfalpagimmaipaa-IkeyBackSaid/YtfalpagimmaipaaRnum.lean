/- The reference's writers answer the same forms. -/
import Derived.Test.YtfalpagimmaipaaWrow
namespace Go.Proofs.Ytfalpagimmaipaa
open Go.ChangeShapes Go.WideShapes Go.ChangeAt Go.RowKit

theorem wq {m : Nat} (h : U64 m) : IntKind.u64.wrap ((m : Int) / 128) = (m : Int) / 128 := by have := h.lt; rw [IntKind.wrap_u64]; omega
theorem wr128 (m : Nat) : IntKind.u64.wrap ((m : Int) % 128) = (m : Int) % 128 := by rw [IntKind.wrap_u64]; omega
theorem form_pos (n : Nat) : 0 < (form n).length := by
  by_cases h : n < 128
  · rw [form_lo h]; simp
  · rw [form_hi h]; simp

set_option maxHeartbeats 400000 in
theorem digits_any (n : Nat) (h1 : U64 n) (w : World) : Calls Try.prog 71 #[.int .u64 n] w fun e w' => e = .returned (.int .i64 ((form n).length : Int)) ∧ w = w' := by
  have h10 := form_len64 h1
  obtain ⟨F, hF⟩ : ∃ F, F = (form n).length := ⟨_, rfl⟩
  rw [← hF] at h10 ⊢
  have HF := Lib.hid hF
  clear hF
  go_enter Try.func71, Try.ntmps71
  go_wp2_with fail
  go_loop [0, 3] (fun x c => ∃ (m k : Nat), U64 m ∧ x = .int .u64 (m : Int) ∧ c = .int .i64 (k : Int) ∧ k + (form m).length = F + 1) (fun x _ => (intOf x).toNat)
  case atStart => exact ⟨n, 1, h1, rfl, rfl, by rw [HF.out]; omega⟩
  case round =>
    obtain ⟨m, k, hm64, rfl, rfl, hk⟩ := hrel
    have hq := wq hm64
    have hp := form_pos m
    have HK := Lib.hid hk
    have hk10 : (k : Int) ≤ 10 := by omega
    clear hk
    by_cases hlt : m < 128
    · have hd : decide ((0 : Int) < (m : Int) / 128) = false := by simp; omega
      have hd2 : decide (0 < m / 128) = false := by simp; omega
      have hfin : (k : Int) = (F : Int) := by have := HK.out; rw [form_lo hlt] at this; simp at this; omega
      have HN := Lib.hid hfin
      clear hfin hp hlt
      go_wp2_with fail
      go_ret
      exact ⟨by rw [HN.out]; rfl, rfl⟩
    · have hd : decide ((0 : Int) < (m : Int) / 128) = true := by simp; omega
      have hd2 : decide (0 < m / 128) = true := by simp; omega
      have hrel : k + 1 + (form (m / 128)).length = F + 1 := by have := HK.out; rw [form_hi hlt] at this; simp at this; omega
      have HN := Lib.hid hrel
      clear hrel hp
      go_wp2_with fail
      go_round
      case rel => exact ⟨m / 128, k + 1, hm64.div _, by go_num, by go_num, HN.out⟩
      case measure => simp [intOf]; omega

theorem drop_form (n : Nat) : ∀ (k m : Nat), k < (form n).length → (form n).drop k = form m → (form n)[k]? = some (if m < 128 then m else m % 128 + 128) ∧ (¬ m < 128 → (form n).drop (k + 1) = form (m / 128)) ∧ (m < 128 ↔ k + 1 = (form n).length) := by
  intro k m hk h
  have h0 : ((form n).drop k)[0]? = (form n)[k]? := by rw [List.getElem?_drop]; simp
  have hl : ((form n).drop k).length = (form n).length - k := by simp
  have hd : (form n).drop (k + 1) = ((form n).drop k).drop 1 := by rw [List.drop_drop]
  by_cases hm : m < 128
  · rw [h, form_lo hm] at h0 hl
    refine ⟨by rw [← h0, if_pos hm]; rfl, fun h => absurd hm h, fun _ => ?_, fun _ => hm⟩
    simp at hl; omega
  · have hp := form_pos (m / 128)
    rw [h, form_hi hm] at h0 hl hd
    refine ⟨by rw [← h0, if_neg hm]; rfl, fun _ => by rw [hd]; rfl, fun h => absurd h hm, fun h => ?_⟩
    simp at hl; omega

theorem take_set {xs : List Value} {L : List Nat} {k u : Nat} (hk : k < L.length) (hx : k < xs.length) (ht : xs.take k = bv (L.take k)) (hg : L[k]? = some u) {v : Value} (hv : v = .int .u8 (u : Int) := by rfl) :
    (xs.set k v).take (k + 1) = bv (L.take (k + 1)) := by
  subst hv
  rw [List.getElem?_eq_getElem hk] at hg
  injection hg with hg
  rw [List.take_succ_eq_append_getElem (by simpa using hx), List.take_succ_eq_append_getElem hk, bv_append, ← ht, hg, List.take_set, List.set_eq_of_length_le (by simp; omega)]
  simp [bv]

set_option maxHeartbeats 1000000 in
theorem rnumber_any (n : Nat) (h1 : U64 n) (w : World) : Calls Try.prog 46 #[.int .u64 n] w (NewBy w (form n)) := by
  obtain ⟨i0, hi0, hz0, hz1, hz2⟩ := info_parts t5info
  have h10 := form_len64 h1
  have HD := Lib.hid (digits_any n h1 w)
  have HDF := Lib.hid (drop_form n)
  have hstart : (form n).drop 0 = form n := by simp
  obtain ⟨w1, hrun, hown, hg⟩ := run_make_full (P := Try.prog) w w.heap.size 22 5 i0 (.int .u8 0) 1 Try.underlying22 hi0 hz0 hz1 .i64 .i64 (form n).length (by rw [hz2]; omega) (by unfold maxLen; omega) (Nat.le_refl _)
  have hb1 : Below w.heap.size w w1 := (Below.refl _ _).grown hg (Nat.le_refl _) (by intro k hk; cases hk)
  obtain ⟨L, hL⟩ : ∃ L, L = form n := ⟨_, rfl⟩
  rw [← hL] at HD HDF hrun hown h10 hstart ⊢
  have HS := Lib.hid (show L.drop 0 = form n by rw [hL]; simp)
  have hx0 : ∃ xs : List Value, w1.ownsRow w.heap.size 5 1 (.slice (some ⟨w.heap.size, 0, none⟩) L.length L.length) L.length xs ∧ xs.take 0 = bv (L.take 0) := ⟨_, hown, by simp [bv]⟩
  have HX := Lib.hid hx0
  have HB1 := Lib.hid hb1
  have H1 := Lib.hid h1
  have h10I : (L.length : Int) ≤ 10 := by omega
  clear hL hown hg hx0 hb1 hi0 hz0 hz1 hz2 hstart h10
  go_enter Try.func46, Try.ntmps46
  go_wp2_with fail
  refine Calls.mono HD.out ?_
  rintro e w2 ⟨rfl, rfl⟩
  go_wp2_with fail
  go_loopw [0, 4] (fun x i wr => ∃ (m k : Nat) (xs : List Value), U64 m ∧ k ≤ L.length ∧ x = .int .u64 (m : Int) ∧ i = .int .i64 (k : Int) ∧ (k < L.length → L.drop k = form m) ∧ wr.ownsRow w.heap.size 5 1 (.slice (some ⟨w.heap.size, 0, none⟩) L.length L.length) L.length xs ∧ xs.take k = bv (L.take k) ∧ Below w.heap.size w wr) (fun _ i _ => L.length - (intOf i).toNat)
  case atStart =>
    obtain ⟨xs, h1, h2⟩ := HX.out
    exact ⟨n, 0, xs, H1.out, Nat.zero_le _, rfl, rfl, fun _ => HS.out, h1, h2, HB1.out⟩
  case round =>
    obtain ⟨m, k, xs, hm64, hk, rfl, rfl, hdr, hown, htk, hb⟩ := hrel
    have hq := wq hm64
    by_cases hlt : k < L.length
    · obtain ⟨hget, hnext, hlast⟩ := HDF.out k m hlt (hdr hlt)
      have hd : decide (k < L.length) = true := by simp [hlt]
      have hxl : xs.length = L.length := by have := hown.1; omega
      have hk1 : k < xs.length := by omega
      have hcell : wr.cell? ⟨w.heap.size, k, none⟩ = some xs[k] := by rw [hown.cellAt k (by omega), List.getElem?_eq_getElem hk1]
      have hfz := hown.frozenAt k
      have hm3 := wr128 m
      generalize xs[k] = x0 at hcell
      have HO := Lib.hid hown
      have HT := Lib.hid htk
      have HB := Lib.hid hb
      have HG := Lib.hid hget
      have HN := Lib.hid hnext
      clear hown htk hb hget hnext hdr
      by_cases hm : m < 128
      · have hkl := hlast.1 hm
        have HKL := Lib.hid hkl
        have hd2 : decide ((k : Int) < (L.length : Int) - 1) = false := by simp; omega
        clear hlast hkl
        have hst := (HO.out.stored k (.int .u8 ((m : Int) % 128))).1
        have hrel : (wr.setCell ⟨w.heap.size, k, none⟩ (.int .u8 ((m : Int) % 128))).ownsRow w.heap.size 5 1 (.slice (some ⟨w.heap.size, 0, none⟩) L.length L.length) L.length (xs.set k (.int .u8 ((m : Int) % 128))) ∧ (xs.set k (.int .u8 ((m : Int) % 128))).take (k + 1) = bv (L.take (k + 1)) ∧ Below w.heap.size w (wr.setCell ⟨w.heap.size, k, none⟩ (.int .u8 ((m : Int) % 128))) := by
          refine ⟨hst, ?_, HB.out.setCell (Nat.le_refl _) _⟩
          have hg := HG.out
          rw [if_pos hm] at hg
          exact take_set hlt hk1 HT.out hg (by rw [show (m : Int) % 128 = (m : Int) by omega])
        have HR := Lib.hid hrel
        clear hst hrel
        go_wp2_with fail
        refine ⟨⟨m / 128, k + 1, _, hm64.div _, by omega, by go_num, by go_num, fun h => by have := HKL.out; omega, HR.out⟩, by simp [intOf]; omega⟩
      · have hkl : k + 1 < L.length := by
          rcases Nat.lt_or_ge (k + 1) L.length with h | h
          · exact h
          · exact absurd (hlast.2 (by omega)) hm
        have hd2 : decide ((k : Int) < (L.length : Int) - 1) = true := by simp; omega
        have hst := (((HO.out.stored k (.int .u8 ((m : Int) % 128))).1).stored k (.int .u8 ((m : Int) % 128 + 128))).1
        have hrel : ((wr.setCell ⟨w.heap.size, k, none⟩ (.int .u8 ((m : Int) % 128))).setCell ⟨w.heap.size, k, none⟩ (.int .u8 ((m : Int) % 128 + 128))).ownsRow w.heap.size 5 1 (.slice (some ⟨w.heap.size, 0, none⟩) L.length L.length) L.length (xs.set k (.int .u8 ((m : Int) % 128 + 128))) ∧ (xs.set k (.int .u8 ((m : Int) % 128 + 128))).take (k + 1) = bv (L.take (k + 1)) ∧
            Below w.heap.size w ((wr.setCell ⟨w.heap.size, k, none⟩ (.int .u8 ((m : Int) % 128))).setCell ⟨w.heap.size, k, none⟩ (.int .u8 ((m : Int) % 128 + 128))) := by
          refine ⟨by simpa using hst, ?_, (HB.out.setCell (Nat.le_refl _) _).setCell (Nat.le_refl _) _⟩
          have hg := HG.out
          rw [if_neg hm] at hg
          exact take_set hlt hk1 HT.out hg
        have HR := Lib.hid hrel
        clear hst hrel hlast
        go_wp2_with fail
        refine ⟨⟨m / 128, k + 1, _, hm64.div _, by omega, by go_num, by go_num, fun _ => HN.out hm, HR.out⟩, by simp [intOf]; omega⟩
    · obtain rfl : k = L.length := by omega
      have hd : decide (L.length < L.length) = false := by simp
      have hxs : xs = bv L := by
        have h1 := hown.1
        rw [List.take_length, List.take_of_length_le (by omega)] at htk
        exact htk
      subst hxs
      have HR : Hid (NewBy w L (.returned (.slice (some ⟨w.heap.size, 0, none⟩) L.length L.length)) wr) := ⟨_, rfl, hown, hb⟩
      clear hown htk hdr hb
      go_wp2_with fail
      go_ret
      exact HR.out
end Go.Proofs.Ytfalpagimmaipaa
