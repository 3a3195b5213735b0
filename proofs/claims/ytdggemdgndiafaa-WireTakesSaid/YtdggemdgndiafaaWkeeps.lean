/- keeps: are all things read as they were? -/
import Derived.Test.YtdggemdgndiafaaWback
namespace Go.Proofs.Ytdggemdgndiafaa
open Go.ChangeShapes Go.WideShapes Go.ChangeAt Go.RowKit

/-- A slice of things. -/
structure Things (w : World) (lo hi : Nat) (A : Option Addr) (ts : List Thg) : Prop where
  cells : Sl w lo hi A (ts.flatMap fun t => t.cells.toList)
  each : ∀ t ∈ ts, ThOk w lo hi t
theorem flat6 : ∀ (ts : List Thg) {k j : Nat} (hk : k < ts.length), j < 6 → (ts.flatMap fun t => t.cells.toList)[k * 6 + j]? = ts[k].cells[j]?
  | [], _, _, hk, _ => by simp at hk
  | t :: ts, 0, j, _, hj => by
    have h6 : t.cells.toList.length = 6 := rfl
    rw [List.flatMap_cons, List.getElem?_append_left (by omega), Nat.zero_mul, Nat.zero_add]
    simp
  | t :: ts, k + 1, j, hk, hj => by
    have h6 : t.cells.toList.length = 6 := rfl
    rw [List.flatMap_cons, List.getElem?_append_right (by omega), h6, show (k + 1) * 6 + j - 6 = k * 6 + j by omega, flat6 ts (by simpa using hk) hj]
    simp
theorem Things.at_ {w : World} {lo hi : Nat} {A : Option Addr} {ts : List Thg} (h : Things w lo hi A ts) {k : Nat} (hk : k < ts.length) :
    ∃ b o, A = some ⟨b, o, none⟩ ∧ ∀ w', Below hi w w' → (∀ j v, j < 6 → ts[k].cells[j]? = some v → w'.cell? ⟨b, o + k * 6 + j, none⟩ = some v) ∧ ThOk w' lo hi ts[k] := by
  have hlen : k * 6 + 0 < (ts.flatMap fun t => t.cells.toList).length := by
    have := flat6 ts hk (j := 0) (by omega)
    rcases Nat.lt_or_ge (k * 6 + 0) (ts.flatMap fun t => t.cells.toList).length with h1 | h1
    · exact h1
    · rw [List.getElem?_eq_none h1] at this; simp [Thg.cells] at this
  obtain ⟨b, o, rfl, _, hb, _⟩ := h.cells.at_ hlen
  refine ⟨b, o, rfl, fun w' hw => ⟨fun j v hj hv => ?_, (h.each _ (List.getElem_mem hk)).below hw (Nat.le_refl _)⟩⟩
  rw [Nat.add_assoc, hw.cell (p := ⟨b, o + (k * 6 + j), none⟩) hb]
  rcases h.cells with h0 | ⟨b', o', e, _, _, hc⟩
  · rw [h0] at hlen; simp at hlen
  · injection e with e
    injection e with e1 e2 _
    subst e1 e2
    exact hc _ _ (by rw [flat6 ts hk hj]; exact hv)
theorem below_of_grown {w w' : World} {hi r : Nat} (hg : w.grownBy w' (some r)) (h1 : hi ≤ r) (h2 : hi ≤ w.heap.size) : Below hi w w' :=
  ⟨hg.os, hg.tape, hg.output, hg.size, fun k hk => hg.block k (by omega) (fun e => by injection e with e; omega)⟩
/-- The forms of things, one behind the other. -/
def thl (ts : List Thg) : List (List Nat) := ts.map Thg.form
theorem thl_at (ts : List Thg) {k : Nat} (h : k < ts.length) : (thl ts)[k]'(by simpa [thl] using h) = ts[k].form := by simp [thl]
theorem thl_split (ts : List Thg) {k : Nat} (h : k < ts.length) : (thl ts).flatten = ((thl ts).take k).flatten ++ (ts[k].form ++ ((thl ts).drop (k + 1)).flatten) := by
  have hl : k < (thl ts).length := by simpa [thl] using h
  conv => lhs; rw [← List.take_append_drop k (thl ts)]
  rw [List.flatten_append, List.drop_eq_getElem_cons hl, List.flatten_cons, thl_at ts h]

set_option maxRecDepth 100000 in
set_option maxHeartbeats 4000000 in
theorem keeps_any (w : World) (lo hi : Nat) (A : Option Addr) (c : Nat) (ts : List Thg) (h : Things w lo hi A ts) (hc : c ≤ maxLen) (hlc : ts.length ≤ c) (hsm : ∀ t ∈ ts, t.b.length ≤ 1000000 ∧ t.l.length ≤ 1000000)
    (r lo2 hi2 : Nat) (l : List Nat) (hr : Rd w r lo2 hi2 l) (hhi : hi ≤ r) (hhw : hi ≤ w.heap.size) (hll : l.length ≤ 1000000000000) (hlb : ∀ b ∈ l, b < 256) :
    Calls Try.prog 30 #[.pointer (some ⟨r, 0, none⟩), .slice A ts.length c] w (Back w r lo2 hi2 l (thl ts).flatten) := by
  have hlen : ts.length ≤ 9223372036854775807 := by unfold maxLen at hc; omega
  have HT := Lib.hid h
  have HSM := Lib.hid hsm
  have HR := Lib.hid hr
  have HLB := Lib.hid hlb
  have HLL := Lib.hid hll
  have HHI := Lib.hid (And.intro hhi hhw)
  clear h hsm hr hlb hll hhi hhw hc hlc
  go_enter Try.func30, Try.ntmps30
  go_wp2_with fail
  go_loopw [5] (fun i wr => ∃ (k : Nat) (rest : List Nat), k ≤ ts.length ∧ i = .int .i64 (k : Int) ∧ Hid (l = ((thl ts).take k).flatten ++ rest) ∧ Hid (Rd wr r lo2 hi2 rest) ∧ Hid (w.grownBy wr (some r))) (fun i _ => ts.length - (intOf i).toNat)
  case atStart => exact ⟨0, l, Nat.zero_le _, rfl, Lib.hid (by simp), HR, grown_refl _ _⟩
  case round =>
    obtain ⟨k, rest, hk, rfl, HE, HRD, HG⟩ := hrel
    by_cases hlt : k < ts.length
    · obtain ⟨b, o, rfl, hat⟩ := HT.out.at_ hlt
      obtain ⟨hcs, hok⟩ := hat wr (below_of_grown HG.out HHI.out.1 HHI.out.2)
      obtain ⟨t, ht⟩ : ∃ t, t = ts[k] := ⟨_, rfl⟩
      rw [← ht] at hcs hok
      have c0 : wr.cell? ⟨b, o + k * 6, none⟩ = some (.int .i64 t.kind) := hcs 0 _ (by omega) rfl
      have c1 := hcs 1 _ (by omega) rfl
      have c2 := hcs 2 _ (by omega) rfl
      have c3 := hcs 3 _ (by omega) rfl
      have c4 := hcs 4 _ (by omega) rfl
      have c5 := hcs 5 _ (by omega) rfl
      have HTK := Lib.hid ht
      have HOK := Lib.hid hok
      have hki : (k : Int) < (ts.length : Int) := by omega
      have HSK : Hid (t.b.length ≤ 1000000 ∧ t.l.length ≤ 1000000) := by rw [ht]; exact HSM.out _ (List.getElem_mem hlt)
      have HRB : Hid (rest.length ≤ 1000000000000 ∧ ∀ x ∈ rest, x < 256) := ⟨by have := congrArg List.length HE.out; simp at this; have := HLL.out; omega, fun x hx => HLB.out x (by rw [HE.out]; simp [hx])⟩
      have HBK := Lib.hid (back_any t wr lo hi hok HSK.out.1 HSK.out.2 r lo2 hi2 rest HRD.out HHI.out.1 HRB.out.1 HRB.out.2)
      clear hcs hok hat ht
      go_wp2_with fail
      refine Calls.mono HBK.out ?_
      rintro e w2 ⟨ok, rfl, hg2, hcase⟩
      have HG2 := Lib.hid (grownBy_trans HG.out hg2)
      have HSP := Lib.hid (thl_split ts hlt)
      rw [← HTK.out] at HSP
      rcases hcase with ⟨rfl, rest2, h1, h2⟩ | ⟨rfl, h1⟩
      · have HE2 : Hid (l = ((thl ts).take (k + 1)).flatten ++ rest2) := Lib.hid (by rw [flat_take_succ (thl ts) (by simpa [thl] using hlt), thl_at ts hlt, ← HTK.out, HE.out, h1]; simp)
        have HR2 := Lib.hid h2
        clear h1 h2 hg2 c0 c1 c2 c3 c4 c5
        go_wp2_with fail
        go_roundw
        case rel => exact ⟨k + 1, rest2, by omega, by go_num, HE2, HR2, HG2⟩
        case measure => simp [intOf]; omega
      · have HNO : Hid (∀ rest', l ≠ (thl ts).flatten ++ rest') := by
          intro rest' he
          rw [HSP.out] at he
          have h3 := HE.out.symm.trans he
          rw [List.append_assoc] at h3
          have h4 := List.append_cancel_left h3
          exact h1 _ (by rw [h4, List.append_assoc])
        clear h1 hg2 c0 c1 c2 c3 c4 c5
        go_wp2_with fail
        go_ret
        exact ⟨false, rfl, HG2.out, .inr ⟨rfl, HNO.out⟩⟩
    · go_wp2_with fail
      go_ret
      obtain rfl : k = ts.length := by omega
      have h1 := HE.out
      rw [List.take_of_length_le (by simp [thl])] at h1
      exact ⟨true, rfl, HG.out, .inl ⟨rfl, rest, h1, HRD.out⟩⟩
end Go.Proofs.Ytdggemdgndiafaa
