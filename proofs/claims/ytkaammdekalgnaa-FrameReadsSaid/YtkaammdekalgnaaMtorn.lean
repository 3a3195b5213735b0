/- Frames that lie one behind the other, cut anywhere, or with a bit turned: plain mathematics. -/
import Derived.Test.YtkaammdekalgnaaMplain
namespace Go.Proofs.Ytkaammdekalgnaa

theorem take_pre {a b : List Nat} {n : Nat} (h : n ≤ a.length) : (a ++ b).take n = a.take n := by rw [List.take_append_of_le_length h]
theorem mid_pre {a b : List Nat} {i j : Nat} (hi : i ≤ j) (h : j ≤ a.length) : mid (a ++ b) i j = mid a i j := by
  unfold mid
  rw [List.drop_append_of_le_length (by omega), List.take_append_of_le_length (by simp; omega)]
theorem frame_head (p : List Nat) : (frame p).take 4 = be4 p.length := by
  unfold frame; rw [List.append_assoc, take_pre (by simp [be4_length])]; rfl
theorem frame_sum (p : List Nat) : mid (frame p) 4 8 = be4 (crc (be4 p.length ++ p)) := rfl
theorem frame_body (p : List Nat) : mid (frame p) 8 (p.length + 8) = p := by
  have : (frame p).drop 8 = p := rfl
  unfold mid; rw [this, Nat.add_sub_cancel, List.take_length]

/-- A payload that may be. -/
def mayP (p : List Nat) : Prop := 1 ≤ p.length ∧ p.length ≤ 1048576 ∧ ∀ c ∈ p, c < 256
theorem mayP.crc {p : List Nat} (h : mayP p) : crc (be4 p.length ++ p) < 4294967296 := crc_lt fun c hc => by
  rcases List.mem_append.1 hc with hc | hc
  · exact be4_lt _ c hc
  · exact h.2.2 c hc
theorem mayP.claim {p : List Nat} (h : mayP p) {x : List Nat} (h8 : 8 ≤ x.length) (hx : x.take 4 = be4 p.length) : claimed x = p.length + 8 := by
  unfold claimed
  rw [if_neg (by omega), hx, num4_be4 (by have := h.2.1; omega)]
  unfold fsize
  rw [if_pos ⟨h.1, h.2.1⟩]

/-- A whole frame. -/
theorem whole_frame {p : List Nat} (h : mayP p) (r : List Nat) : whole1 (frame p ++ r) = some p := by
  have hl := frame_length p
  have hc : claimed (frame p ++ r) = p.length + 8 := h.claim (by simp; omega) (by rw [take_pre (by omega), frame_head])
  unfold whole1
  rw [hc, if_neg (by simp; omega), take_pre (by omega), mid_pre (by omega) (by omega), mid_pre (by omega) (by omega), frame_head, frame_sum, frame_body, if_pos (num4_be4 h.crc).symm]

/-- A part of a frame is none. -/
theorem whole_cut {p : List Nat} (h : mayP p) {j : Nat} (hj : j < p.length + 8) : whole1 ((frame p).take j) = none ∧ (8 ≤ j → claimed ((frame p).take j) = p.length + 8) := by
  have hl := frame_length p
  have hlen : ((frame p).take j).length = j := by simp; omega
  have hc : 8 ≤ j → claimed ((frame p).take j) = p.length + 8 := fun h8 => h.claim (by omega) (by rw [List.take_take, Nat.min_eq_left (by omega), frame_head])
  refine ⟨?_, hc⟩
  unfold whole1
  rw [if_pos]
  by_cases h8 : 8 ≤ j
  · right; rw [hc h8, hlen]; exact hj
  · left; unfold claimed; rw [if_pos (by omega)]

theorem pow_lt8 (i : Nat) : 0 < 2 ^ (i % 8) ∧ 2 ^ (i % 8) < 256 := by
  have : i % 8 < 8 := Nat.mod_lt _ (by omega)
  refine ⟨Nat.pow_pos (by omega), ?_⟩
  calc 2 ^ (i % 8) ≤ 2 ^ 7 := Nat.pow_le_pow_right (by omega) (by omega)
    _ < 256 := by decide
theorem xor_ne {a x : Nat} (hx : 0 < x) : a ^^^ x ≠ a := fun e => by
  have : a ^^^ (a ^^^ x) = a ^^^ a := by rw [e]
  rw [← Nat.xor_assoc, Nat.xor_self, Nat.zero_xor] at this
  omega
theorem set_ne {l : List Nat} {i x : Nat} (h : i < l.length) (hx : 0 < x) : l.set i (l[i] ^^^ x) ≠ l := fun e => by
  have h2 : (l.set i (l[i] ^^^ x))[i]'(by simpa using h) = l[i] := by simp only [e]
  rw [List.getElem_set_self] at h2
  exact xor_ne hx h2
/-- One bit turned: another sum. -/
theorem crc_set {l : List Nat} {i x : Nat} (h : i < l.length) (hx : 0 < x) (hx2 : x < 256) : crc (l.set i (l[i] ^^^ x)) ≠ crc l := fun e => by
  unfold crc at e
  rw [reg_set ones l i x h, Nat.xor_assoc, Nat.xor_comm (shn _ _) ones, ← Nat.xor_assoc] at e
  generalize reg ones l ^^^ ones = r at e
  have h2 : shn (8 * (l.length - i)) x = 0 := by
    have : r ^^^ (r ^^^ shn (8 * (l.length - i)) x) = r ^^^ r := by rw [e]
    rwa [← Nat.xor_assoc, Nat.xor_self, Nat.zero_xor] at this
  have := shn_inj (by omega) h2
  omega

/-- A frame of which one bit behind its length is turned is none, but says its length. -/
theorem whole_turned {p : List Nat} (h : mayP p) (r : List Nat) {j x : Nat} (h4 : 4 ≤ j) (hj : j < p.length + 8) (hx : 0 < x) (hx2 : x < 256) :
    whole1 ((frame p ++ r).set j ((frame p ++ r)[j]'(by simp [frame_length]; omega) ^^^ x)) = none ∧ claimed ((frame p ++ r).set j ((frame p ++ r)[j]'(by simp [frame_length]; omega) ^^^ x)) = p.length + 8 := by
  have hl := frame_length p
  have hjl : j < (frame p).length := by omega
  have hg : (frame p ++ r)[j]'(by simp; omega) = (frame p)[j] := List.getElem_append_left hjl
  rw [hg, List.set_append_left _ _ hjl]
  obtain ⟨y, hy⟩ : ∃ y, y = (frame p)[j] ^^^ x := ⟨_, rfl⟩
  rw [← hy]
  have hsl : ((frame p).set j y).length = p.length + 8 := by simp [hl]
  have ht : ((frame p).set j y).take 4 = be4 p.length := by rw [List.take_set_of_le h4, frame_head]
  have hc : claimed ((frame p).set j y ++ r) = p.length + 8 := h.claim (by simp; omega) (by rw [take_pre (by omega), ht])
  refine ⟨?_, hc⟩
  unfold whole1
  rw [hc, if_neg (by simp; omega), take_pre (by omega), mid_pre (by omega) (by omega), mid_pre (by omega) (by omega), ht, if_neg]
  intro e
  by_cases h8 : j < 8
  · have hb : mid ((frame p).set j y) 8 (p.length + 8) = p := by
      unfold mid
      rw [List.drop_set_of_lt h8]
      exact frame_body p
    have hs : mid ((frame p).set j y) 4 8 = (be4 (crc (be4 p.length ++ p))).set (j - 4) ((be4 (crc (be4 p.length ++ p)))[j - 4]'(by simp [be4_length]; omega) ^^^ x) := by
      have e1 : (frame p)[j] = (be4 (crc (be4 p.length ++ p)))[j - 4]'(by simp [be4_length]; omega) := by
        have e3 : (frame p)[j]? = (mid (frame p) 4 8)[j - 4]? := by
          unfold mid
          rw [List.getElem?_take_of_lt (by omega), List.getElem?_drop, show 4 + (j - 4) = j by omega]
        rw [frame_sum, List.getElem?_eq_getElem hjl, List.getElem?_eq_getElem (by simp [be4_length]; omega)] at e3
        exact Option.some.inj e3
      have e2 : mid ((frame p).set j y) 4 8 = (mid (frame p) 4 8).set (j - 4) y := by
        unfold mid
        rw [List.drop_set, if_neg (by omega), List.take_set]
      rw [e2, frame_sum, hy, e1]
    rw [hb, hs] at e
    obtain ⟨s, hs⟩ : ∃ s, s = crc (be4 p.length ++ p) := ⟨_, rfl⟩
    have hlt : s < 4294967296 := by rw [hs]; exact h.crc
    simp only [← hs] at e
    have hj4 : j - 4 < (be4 s).length := by simp [be4_length]; omega
    have hb2 : ∀ c ∈ (be4 s).set (j - 4) ((be4 s)[j - 4] ^^^ x), c < 256 := by
      intro c hc
      rcases List.mem_or_eq_of_mem_set hc with hc | rfl
      · exact be4_lt _ c hc
      · exact Nat.xor_lt_two_pow (n := 8) (be4_lt _ _ (List.getElem_mem hj4)) hx2
    have e3 : num4 (be4 s) = num4 ((be4 s).set (j - 4) ((be4 s)[j - 4] ^^^ x)) := by rw [num4_be4 hlt]; exact e
    exact set_ne hj4 hx (num4_inj (be4_length _) (by simp [be4_length]) (be4_lt _) hb2 e3).symm
  · have hs : mid ((frame p).set j y) 4 8 = be4 (crc (be4 p.length ++ p)) := by
      unfold mid
      rw [List.drop_set, if_neg (by omega), List.take_set_of_le (by omega)]
      exact frame_sum p
    have hj8 : j - 8 < p.length := by omega
    have hb : mid ((frame p).set j y) 8 (p.length + 8) = p.set (j - 8) (p[j - 8] ^^^ x) := by
      have e1 : (frame p)[j] = p[j - 8] := by
        have e3 : (frame p)[j]? = (mid (frame p) 8 (p.length + 8))[j - 8]? := by
          unfold mid
          rw [List.getElem?_take_of_lt (by omega), List.getElem?_drop, show 8 + (j - 8) = j by omega]
        rw [frame_body, List.getElem?_eq_getElem hjl, List.getElem?_eq_getElem hj8] at e3
        exact Option.some.inj e3
      have e2 : mid ((frame p).set j y) 8 (p.length + 8) = (mid (frame p) 8 (p.length + 8)).set (j - 8) y := by
        unfold mid
        rw [List.drop_set, if_neg (by omega), List.take_set]
      rw [e2, frame_body, hy, e1]
    rw [hb, hs, num4_be4 h.crc] at e
    have hq : j - 8 + 4 < (be4 p.length ++ p).length := by simp [be4_length]; omega
    have e2 : be4 p.length ++ p.set (j - 8) (p[j - 8] ^^^ x) = (be4 p.length ++ p).set (j - 8 + 4) ((be4 p.length ++ p)[j - 8 + 4] ^^^ x) := by
      have e3 : (be4 p.length ++ p)[j - 8 + 4] = p[j - 8] := by rw [List.getElem_append_right (by simp [be4_length])]; simp [be4_length]
      rw [e3, List.set_append_right _ _ (by simp [be4_length])]
      simp [be4_length]
    rw [e2] at e
    exact crc_set hq hx hx2 e

theorem frF_len (b : List Nat) : ∀ (f k : Nat), k ≤ b.length → (frF f b k).length + k ≤ b.length := by
  intro f
  induction f with
  | zero => intro k h; simpa [frF] using h
  | succ f ih =>
    intro k h
    simp only [frF]
    split
    · simpa using h
    · rename_i p hp
      have h2 := (whole1_spec hp).2.2.2.1
      simp only [List.length_drop] at h2
      have := ih (k + (p.length + 8)) (by omega)
      simp only [List.length_cons]
      omega
theorem frs_len (b : List Nat) : (frs b 0).length ≤ b.length := frF_len b _ 0 (Nat.zero_le _)
theorem Upto.here {b : List Nat} {n k : Nat} (h : Upto b n k) (hn : n < (frs b 0).length) : ∃ p, whole1 (b.drop k) = some p ∧ (frs b 0)[n]? = some (k, p) ∧ Upto b (n + 1) (k + (p.length + 8)) := by
  cases hw : whole1 (b.drop k) with
  | none => have := h.stop hw; omega
  | some p => exact ⟨p, rfl, (h.next hw).2⟩
theorem Upto.last {b : List Nat} {k : Nat} (h : Upto b (frs b 0).length k) : fend b 0 = k := by
  cases hw : whole1 (b.drop k) with
  | none => exact (h.stop hw).2
  | some p => have := (h.next hw).1; omega

/-- All of them, one behind the other. -/
def row (ps : List (List Nat)) : List Nat := (ps.map frame).flatten
theorem row_nil : row [] = [] := rfl
theorem row_snoc (ps : List (List Nat)) (p : List Nat) : row (ps ++ [p]) = row ps ++ frame p := by simp [row]
theorem upto_row (x : List Nat) : ∀ (n : Nat) (ps : List (List Nat)), ps.length = n → (∀ p ∈ ps, mayP p) → Upto (row ps ++ x) ps.length (row ps).length := by
  intro n
  induction n generalizing x with
  | zero =>
    intro ps h _
    obtain rfl := List.eq_nil_of_length_eq_zero h
    exact Upto.start _
  | succ n ih =>
    intro ps h hp
    obtain ⟨qs, q, rfl⟩ : ∃ qs q, ps = qs ++ [q] := ⟨ps.dropLast, ps.getLast (by intro e; rw [e] at h; cases h), (List.dropLast_concat_getLast _).symm⟩
    have h1 := ih (frame q ++ x) qs (by simpa using h) (fun p hq => hp p (by simp [hq]))
    rw [row_snoc, List.append_assoc]
    have h2 := h1.next (p := q) (by rw [List.drop_left]; exact whole_frame (hp q (by simp)) x)
    rw [List.length_append, List.length_append, frame_length]
    exact h2.2.2
theorem row_then {ps : List (List Nat)} (hp : ∀ p ∈ ps, mayP p) {x : List Nat} (hx : whole1 x = none) : (frs (row ps ++ x) 0).length = ps.length ∧ fend (row ps ++ x) 0 = (row ps).length := by
  have h := upto_row x _ ps rfl hp
  have h2 := h.stop (by rw [List.drop_left]; exact hx)
  exact ⟨h2.1.symm, h2.2⟩

/-- Is what stands behind the whole frames odd? -/
def odd (b : List Nat) : Bool := decide (8 ≤ (b.drop (fend b 0)).length) && (decide (claimed (b.drop (fend b 0)) = 0) || decide (claimed (b.drop (fend b 0)) ≤ (b.drop (fend b 0)).length))
/-- The payload, if it is just one. -/
def one (b : List Nat) : Option (List Nat) := match whole1 b with
  | some p => if b.length ≤ p.length + 8 then some p else none
  | none => none

theorem row_cut {ps : List (List Nat)} (hp : ∀ p ∈ ps, mayP p) {q : List Nat} (hq : mayP q) {j : Nat} (hj : j < q.length + 8) :
    (frs (row ps ++ (frame q).take j) 0).length = ps.length ∧ fend (row ps ++ (frame q).take j) 0 = (row ps).length ∧ odd (row ps ++ (frame q).take j) = false := by
  have hc := whole_cut hq hj
  have h := row_then hp hc.1
  have hl : ((frame q).take j).length = j := by simp [frame_length]; omega
  refine ⟨h.1, h.2, ?_⟩
  unfold odd
  rw [h.2, List.drop_left, hl]
  by_cases h8 : 8 ≤ j
  · rw [hc.2 h8]; simp; omega
  · simp [h8]
theorem row_turned {ps : List (List Nat)} (hp : ∀ p ∈ ps, mayP p) {q : List Nat} (hq : mayP q) (r : List Nat) {j x : Nat} (h4 : 4 ≤ j) (hj : j < q.length + 8) (hx : 0 < x) (hx2 : x < 256) (hlt : (row ps).length + j < (row ps ++ (frame q ++ r)).length) :
    let c := (row ps ++ (frame q ++ r)).set ((row ps).length + j) ((row ps ++ (frame q ++ r))[(row ps).length + j] ^^^ x)
    (frs c 0).length = ps.length ∧ fend c 0 = (row ps).length ∧ odd c = true := by
  have hjl : j < (frame q ++ r).length := by simp [frame_length]; omega
  have hw := whole_turned hq r h4 hj hx hx2
  have e : (row ps ++ (frame q ++ r)).set ((row ps).length + j) ((row ps ++ (frame q ++ r))[(row ps).length + j] ^^^ x) = row ps ++ (frame q ++ r).set j ((frame q ++ r)[j] ^^^ x) := by
    rw [List.set_append_right _ _ (by omega)]
    simp [List.getElem_append_right]
  have h := row_then hp hw.1
  intro c
  have ec : c = row ps ++ (frame q ++ r).set j ((frame q ++ r)[j] ^^^ x) := e
  rw [ec]
  refine ⟨h.1, h.2, ?_⟩
  unfold odd
  rw [h.2, List.drop_left, hw.2]
  simp [frame_length]; omega
end Go.Proofs.Ytkaammdekalgnaa
