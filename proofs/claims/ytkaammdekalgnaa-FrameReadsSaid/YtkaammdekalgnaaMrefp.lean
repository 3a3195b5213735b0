/- A frame at a place of bytes, in the reference's words: plain mathematics. -/
import Derived.Test.YtkaammdekalgnaaMtorn
namespace Go.Proofs.Ytkaammdekalgnaa

theorem mid_drop (b : List Nat) (k i j : Nat) : mid (b.drop k) i j = mid b (k + i) (k + j) := by
  unfold mid; rw [List.drop_drop, show k + j - (k + i) = j - i by omega]
theorem claimed_few {r : List Nat} (h : r.length < 8) : claimed r = 0 := by unfold claimed; rw [if_pos h]
theorem claimed_may {r : List Nat} (h8 : 8 ≤ r.length) : claimed r = fsize (num4 (r.take 4)) := by unfold claimed; rw [if_neg (by omega)]
theorem whole1_few {r : List Nat} (h : r.length < 8) : whole1 r = none := by unfold whole1; rw [if_pos (.inl (claimed_few h))]
theorem whole1_bad {r : List Nat} (h8 : 8 ≤ r.length) (h : ¬ (1 ≤ num4 (r.take 4) ∧ num4 (r.take 4) ≤ 1048576)) : whole1 r = none := by
  unfold whole1; rw [if_pos (.inl (by rw [claimed_may h8]; unfold fsize; rw [if_neg h]))]
theorem whole1_long {r : List Nat} (h8 : 8 ≤ r.length) (h : r.length < num4 (r.take 4) + 8) : whole1 r = none := by
  unfold whole1
  by_cases hm : 1 ≤ num4 (r.take 4) ∧ num4 (r.take 4) ≤ 1048576
  · rw [if_pos (.inr (by rw [claimed_may h8]; unfold fsize; rw [if_pos hm]; exact h))]
  · rw [if_pos (.inl (by rw [claimed_may h8]; unfold fsize; rw [if_neg hm]))]
theorem whole1_sum {r : List Nat} (hr : ∀ c ∈ r, c < 256) (h8 : 8 ≤ r.length) (hm : 1 ≤ num4 (r.take 4) ∧ num4 (r.take 4) ≤ 1048576) (hl : num4 (r.take 4) + 8 ≤ r.length) :
    whole1 r = if be4 (crc (be4 (num4 (r.take 4)) ++ mid r 8 (num4 (r.take 4) + 8))) = mid r 4 8 then some (mid r 8 (num4 (r.take 4) + 8)) else none := by
  have hc : claimed r = num4 (r.take 4) + 8 := by rw [claimed_may h8]; unfold fsize; rw [if_pos hm]
  have h4 : (r.take 4).length = 4 := by simp; omega
  have hb4 : be4 (num4 (r.take 4)) = r.take 4 := be4_num4 h4 (fun c hx => hr c (List.mem_of_mem_take hx))
  have hm4 : (mid r 4 8).length = 4 := by rw [mid_length (by omega)]
  have hmb : ∀ c ∈ mid r 4 8, c < 256 := fun c hx => hr c (List.mem_of_mem_drop (List.mem_of_mem_take hx))
  have hcl : crc (r.take 4 ++ mid r 8 (num4 (r.take 4) + 8)) < 4294967296 := crc_lt fun c hx => by
    rcases List.mem_append.1 hx with hx | hx
    · exact hr c (List.mem_of_mem_take hx)
    · exact hr c (List.mem_of_mem_drop (List.mem_of_mem_take hx))
  unfold whole1
  rw [hc, if_neg (by omega), hb4]
  by_cases h : crc (r.take 4 ++ mid r 8 (num4 (r.take 4) + 8)) = num4 (mid r 4 8)
  · rw [if_pos h, if_pos (by rw [h]; exact be4_num4 hm4 hmb)]
  · rw [if_neg h, if_neg (fun e => h (by rw [← e, num4_be4 hcl]))]
end Go.Proofs.Ytkaammdekalgnaa
