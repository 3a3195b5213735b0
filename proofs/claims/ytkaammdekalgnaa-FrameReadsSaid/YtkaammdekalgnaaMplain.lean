/- Frames, by their words: plain mathematics on lists of numbers; nothing of the program stands here. -/
import Derived.Test.YtkaammdekalgnaaCplain
namespace Go.Proofs.Ytkaammdekalgnaa

/-- Four bytes, the highest first. -/
def be4 (n : Nat) : List Nat := [n / 16777216 % 256, n / 65536 % 256, n / 256 % 256, n % 256]
def num4 (l : List Nat) : Nat := l.foldl (fun n c => n * 256 + c) 0
theorem be4_length (n : Nat) : (be4 n).length = 4 := rfl
theorem be4_lt (n : Nat) : ∀ c ∈ be4 n, c < 256 := by
  intro c hc
  simp only [be4, List.mem_cons, List.not_mem_nil, or_false] at hc
  rcases hc with rfl | rfl | rfl | rfl <;> omega
theorem num4_be4 {n : Nat} (h : n < 4294967296) : num4 (be4 n) = n := by
  simp only [num4, be4, List.foldl]; omega
theorem list4 {l : List Nat} (h : l.length = 4) : ∃ a b c d, l = [a, b, c, d] := by
  match l, h with
  | [a, b, c, d], _ => exact ⟨a, b, c, d, rfl⟩
theorem be4_num4 {l : List Nat} (h : l.length = 4) (hb : ∀ c ∈ l, c < 256) : be4 (num4 l) = l := by
  obtain ⟨a, b, c, d, rfl⟩ := list4 h
  have ha := hb a (by simp)
  have hb' := hb b (by simp)
  have hc := hb c (by simp)
  have hd := hb d (by simp)
  simp only [num4, be4, List.foldl, List.cons.injEq, and_true]
  refine ⟨by omega, by omega, by omega, by omega⟩
theorem num4_lt {l : List Nat} (h : l.length = 4) (hb : ∀ c ∈ l, c < 256) : num4 l < 4294967296 := by
  obtain ⟨a, b, c, d, rfl⟩ := list4 h
  have ha := hb a (by simp)
  have hb' := hb b (by simp)
  have hc := hb c (by simp)
  have hd := hb d (by simp)
  simp only [num4, List.foldl]; omega
theorem num4_inj {l r : List Nat} (h : l.length = 4) (k : r.length = 4) (hl : ∀ c ∈ l, c < 256) (hr : ∀ c ∈ r, c < 256) (e : num4 l = num4 r) : l = r := by
  rw [← be4_num4 h hl, ← be4_num4 k hr, e]

/-- How many bytes a frame of so many has; 0: it may not be. -/
def fsize (n : Nat) : Nat := if 1 ≤ n ∧ n ≤ 1048576 then n + 8 else 0
/-- The frame around bytes. -/
def frame (p : List Nat) : List Nat := be4 p.length ++ be4 (crc (be4 p.length ++ p)) ++ p
theorem frame_length (p : List Nat) : (frame p).length = p.length + 8 := by simp [frame, be4_length]; omega
theorem frame_lt {p : List Nat} (h : ∀ c ∈ p, c < 256) : ∀ c ∈ frame p, c < 256 := by
  intro c hc
  simp only [frame, List.mem_append] at hc
  rcases hc with (hc | hc) | hc
  · exact be4_lt _ c hc
  · exact be4_lt _ c hc
  · exact h c hc

/-- How many bytes a frame at the beginning has, as its length says; 0: none. -/
def claimed (b : List Nat) : Nat := if b.length < 8 then 0 else fsize (num4 (b.take 4))
/-- The bytes between. -/
def mid (b : List Nat) (i j : Nat) : List Nat := (b.drop i).take (j - i)
/-- The payload of the frame at the beginning, if it is whole. -/
def whole1 (b : List Nat) : Option (List Nat) :=
  if claimed b = 0 ∨ b.length < claimed b then none
  else if crc (b.take 4 ++ mid b 8 (claimed b)) = num4 (mid b 4 8) then some (mid b 8 (claimed b)) else none

theorem fsize_le (n : Nat) : fsize n ≤ 1048584 := by unfold fsize; split <;> omega
theorem fsize_pos {n : Nat} (h : fsize n ≠ 0) : fsize n = n + 8 ∧ 1 ≤ n ∧ n ≤ 1048576 := by
  unfold fsize at h ⊢; split at h <;> simp_all
theorem claimed_le (b : List Nat) : claimed b ≤ 1048584 := by unfold claimed; split; omega; exact fsize_le _
theorem claimed_pos {b : List Nat} (h : claimed b ≠ 0) : 9 ≤ claimed b ∧ 8 ≤ b.length := by
  unfold claimed at h ⊢
  split at h
  · exact absurd rfl h
  · rename_i h8
    rw [if_neg h8]
    have := fsize_pos h
    omega
theorem mid_length {b : List Nat} {i j : Nat} (h : j ≤ b.length) : (mid b i j).length = j - i := by simp [mid]; omega
theorem whole1_spec {b p : List Nat} (h : whole1 b = some p) : claimed b = p.length + 8 ∧ 1 ≤ p.length ∧ p.length ≤ 1048576 ∧ p.length + 8 ≤ b.length ∧ p = mid b 8 (p.length + 8) ∧ num4 (b.take 4) = p.length := by
  unfold whole1 at h
  split at h
  · cases h
  · rename_i h1
    have h0 : claimed b ≠ 0 := fun e => h1 (.inl e)
    have hle : claimed b ≤ b.length := Nat.le_of_not_lt fun e => h1 (.inr e)
    split at h
    · injection h with h
      have hp := claimed_pos h0
      have hl := mid_length (b := b) (i := 8) hle
      rw [h] at hl
      have hc : claimed b = p.length + 8 := by omega
      have h3 : claimed b = fsize (num4 (b.take 4)) := by unfold claimed; rw [if_neg (by omega)]
      have h4 := fsize_pos (n := num4 (b.take 4)) (by rw [← h3]; exact h0)
      refine ⟨hc, by omega, by omega, by omega, by rw [← hc]; exact h.symm, by omega⟩
    · cases h
theorem whole1_lt {b p : List Nat} (h : whole1 b = some p) (hb : ∀ c ∈ b, c < 256) : ∀ c ∈ p, c < 256 := by
  intro c hc
  rw [(whole1_spec h).2.2.2.2.1] at hc
  exact hb c (List.mem_of_mem_drop (List.mem_of_mem_take hc))
theorem whole1_nil : whole1 [] = none := by simp [whole1, claimed]

/-- The whole frames from a place on: where each begins, and its payload. -/
def frF : Nat → List Nat → Nat → List (Nat × List Nat)
  | 0, _, _ => []
  | f + 1, b, k => match whole1 (b.drop k) with
    | none => []
    | some p => (k, p) :: frF f b (k + (p.length + 8))
def frs (b : List Nat) (k : Nat) : List (Nat × List Nat) := frF (b.length + 1) b k
/-- Where they end. -/
def feF : Nat → List Nat → Nat → Nat
  | 0, _, k => k
  | f + 1, b, k => match whole1 (b.drop k) with
    | none => k
    | some p => feF f b (k + (p.length + 8))
def fend (b : List Nat) (k : Nat) : Nat := feF (b.length + 1) b k

theorem frF_more (b : List Nat) : ∀ (f g k : Nat), b.length < f + k → b.length < g + k → frF f b k = frF g b k := by
  intro f
  induction f with
  | zero =>
    intro g k h1 h2
    cases g with
    | zero => rfl
    | succ g => simp only [frF]; rw [List.drop_eq_nil_of_le (by omega), whole1_nil]
  | succ f ih =>
    intro g k h1 h2
    cases g with
    | zero => simp only [frF]; rw [List.drop_eq_nil_of_le (by omega), whole1_nil]
    | succ g =>
      simp only [frF]
      split
      · rfl
      · rename_i p hp
        have := whole1_spec hp
        rw [ih g _ (by omega) (by omega)]
theorem feF_more (b : List Nat) : ∀ (f g k : Nat), b.length < f + k → b.length < g + k → feF f b k = feF g b k := by
  intro f
  induction f with
  | zero =>
    intro g k h1 h2
    cases g with
    | zero => rfl
    | succ g => simp only [feF]; rw [List.drop_eq_nil_of_le (by omega), whole1_nil]
  | succ f ih =>
    intro g k h1 h2
    cases g with
    | zero => simp only [feF]; rw [List.drop_eq_nil_of_le (by omega), whole1_nil]
    | succ g =>
      simp only [feF]
      split
      · rfl
      · rename_i p hp
        have := whole1_spec hp
        rw [ih g _ (by omega) (by omega)]
theorem frs_none {b : List Nat} {k : Nat} (h : whole1 (b.drop k) = none) : frs b k = [] := by simp [frs, frF, h]
theorem frs_some {b p : List Nat} {k : Nat} (h : whole1 (b.drop k) = some p) : frs b k = (k, p) :: frs b (k + (p.length + 8)) := by
  have := whole1_spec h
  rw [frs, frF]
  simp only [h]
  rw [frs, frF_more b b.length (b.length + 1) _ (by omega) (by omega)]
theorem fend_none {b : List Nat} {k : Nat} (h : whole1 (b.drop k) = none) : fend b k = k := by simp [fend, feF, h]
theorem fend_some {b p : List Nat} {k : Nat} (h : whole1 (b.drop k) = some p) : fend b k = fend b (k + (p.length + 8)) := by
  have := whole1_spec h
  rw [fend, feF]
  simp only [h]
  rw [fend, feF_more b b.length (b.length + 1) _ (by omega) (by omega)]

/-- Are these the frames up to a place? -/
def Upto (b : List Nat) (n k : Nat) : Prop := k ≤ b.length ∧ frs b 0 = (frs b 0).take n ++ frs b k ∧ n ≤ (frs b 0).length ∧ fend b 0 = fend b k
theorem Upto.start (b : List Nat) : Upto b 0 0 := ⟨Nat.zero_le _, by simp, Nat.zero_le _, rfl⟩
theorem Upto.left {b : List Nat} {n k : Nat} (h : Upto b n k) : (frs b 0).drop n = frs b k := by
  have h1 := h.2.1
  have h2 : (frs b 0).drop n = ((frs b 0).take n ++ frs b k).drop n := by rw [← h1]
  have hl : ((frs b 0).take n).length = n := by rw [List.length_take, Nat.min_eq_left h.2.2.1]
  rw [h2, List.drop_append_of_le_length (by omega), List.drop_eq_nil_of_le (by omega)]
  rfl
theorem Upto.stop {b : List Nat} {n k : Nat} (h : Upto b n k) (hw : whole1 (b.drop k) = none) : n = (frs b 0).length ∧ fend b 0 = k := by
  have h1 := h.left
  rw [frs_none hw] at h1
  have h2 := List.drop_eq_nil_iff.1 h1
  exact ⟨by have := h.2.2.1; omega, by rw [h.2.2.2, fend_none hw]⟩
theorem Upto.next {b p : List Nat} {n k : Nat} (h : Upto b n k) (hw : whole1 (b.drop k) = some p) : n < (frs b 0).length ∧ (frs b 0)[n]? = some (k, p) ∧ Upto b (n + 1) (k + (p.length + 8)) := by
  have h1 := h.left
  rw [frs_some hw] at h1
  have hn : n < (frs b 0).length := by
    rcases Nat.lt_or_ge n (frs b 0).length with hl | hl
    · exact hl
    · rw [List.drop_eq_nil_of_le hl] at h1; cases h1
  rw [List.drop_eq_getElem_cons hn] at h1
  injection h1 with h1 h2
  have hs := whole1_spec hw
  have hl : p.length + 8 ≤ b.length - k := by have := hs.2.2.2.1; simpa using this
  refine ⟨hn, by rw [List.getElem?_eq_getElem hn, h1], by have := h.1; omega, ?_, hn, by rw [h.2.2.2, fend_some hw]⟩
  conv => lhs; rw [← List.take_append_drop (n + 1) (frs b 0)]
  rw [h2]
end Go.Proofs.Ytkaammdekalgnaa
