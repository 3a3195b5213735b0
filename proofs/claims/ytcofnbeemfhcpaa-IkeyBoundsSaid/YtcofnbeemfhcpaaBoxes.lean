/- Boxes that a drawn region makes and fills, in whatever order: they are apart, and each is filled. -/
import Derived.Test.YtcofnbeemfhcpaaFlowi
import Derived.Test.YtcofnbeemfhcpaaIter
namespace Go.Proofs.Ytcofnbeemfhcpaa
open Go.RowKit

/-- The places of the operations that make a box and that fill it: no two alike, and behind the first ones. -/
def Sep (bx : List (Nat × Nat)) (ld : Nat) : Bool := bx.all fun q => (decide (ld ≤ q.1) && decide (ld ≤ q.2)) && bx.all fun r => (q.1 != r.2) && ((q.1 == r.1) == (q.2 == r.2))
theorem Sep.at {bx : List (Nat × Nat)} {ld : Nat} (h : Sep bx ld = true) {q r : Nat × Nat} (hq : q ∈ bx) (hr : r ∈ bx) : ld ≤ q.1 ∧ ld ≤ q.2 ∧ q.1 ≠ r.2 ∧ (q.1 = r.1 ↔ q.2 = r.2) := by
  have h1 := List.all_eq_true.1 h q hq
  simp only [Bool.and_eq_true, decide_eq_true_eq] at h1
  have h2 := List.all_eq_true.1 h1.2 r hr
  simp only [Bool.and_eq_true, bne_iff_ne, ne_eq, beq_iff_eq] at h2
  refine ⟨h1.1.1, h1.1.2, h2.1, ?_⟩
  have h3 := h2.2
  rw [Bool.eq_iff_iff, beq_iff_eq, beq_iff_eq] at h3
  exact h3

structure BoxI (B : Nat) (u0 : World) (T : TypeId) (z c : Array Value) (bx : List (Nat × Nat)) (ld : Nat) (av : Value) (seen : Nat → Bool) (f : Nat → Value) (u : World) : Prop where
  below : Below B u0 u
  base : B ≤ u.heap.size
  box : ∀ q ∈ bx, seen q.1 = true → ∃ g, f q.1 = .pointer (some ⟨g, 0, none⟩) ∧ B ≤ g ∧ u.heap[g]? = some (.cells (if seen q.2 then c else z) T (0, 0))
  apart : ∀ q ∈ bx, ∀ r ∈ bx, q.1 ≠ r.1 → seen q.1 = true → seen r.1 = true → f q.1 ≠ f r.1
  loads : ∀ j, j < ld → seen j = true → f j = av
  order : ∀ q ∈ bx, seen q.2 = true → seen q.1 = true

variable {B : Nat} {u0 : World} {T : TypeId} {z c : Array Value} {bx : List (Nat × Nat)} {ld : Nat} {av : Value} {seen : Nat → Bool} {f : Nat → Value} {u : World}

theorem BoxI.start (w : World) (f : Nat → Value) : BoxI w.heap.size w T z c bx ld av (fun _ => false) f w.drew :=
  ⟨Below.drew (Below.refl _ _), Nat.le_refl _, fun _ _ h => by (exact absurd h (by simp)), fun _ _ _ _ _ h => by (exact absurd h (by simp)), fun _ _ h => by (exact absurd h (by simp)), fun _ _ h => by (exact absurd h (by simp))⟩

theorem BoxI.load (h : BoxI B u0 T z c bx ld av seen f u) (hs : Sep bx ld = true) {k : Nat} (hk : k < ld) : BoxI B u0 T z c bx ld av (Fi.upd seen k true) (Fi.upd f k av) u := by
  have n1 : ∀ q ∈ bx, q.1 ≠ k ∧ q.2 ≠ k := fun q hq => by
    have := Sep.at hs hq hq
    omega
  refine ⟨h.below, h.base, fun q hq hs1 => ?_, fun q hq r hr hne h1 h2 => ?_, fun j hj h1 => ?_, fun q hq h1 => ?_⟩
  · rw [Fi.upd_ne _ _ (n1 q hq).1] at hs1 ⊢
    rw [Fi.upd_ne _ _ (n1 q hq).2]
    exact h.box q hq hs1
  · rw [Fi.upd_ne _ _ (n1 q hq).1] at h1 ⊢
    rw [Fi.upd_ne _ _ (n1 r hr).1] at h2 ⊢
    exact h.apart q hq r hr hne h1 h2
  · by_cases e : j = k
    · subst e; rw [Fi.upd_at]
    · rw [Fi.upd_ne _ _ e] at h1 ⊢
      exact h.loads j hj h1
  · rw [Fi.upd_ne _ _ (n1 q hq).2] at h1
    rw [Fi.upd_ne _ _ (n1 q hq).1]
    exact h.order q hq h1

theorem BoxI.alloc (h : BoxI B u0 T z c bx ld av seen f u) (hs : Sep bx ld = true) {q0 : Nat × Nat} (hq0 : q0 ∈ bx) (hn : seen q0.1 = false) :
    BoxI B u0 T z c bx ld av (Fi.upd seen q0.1 true) (Fi.upd f q0.1 (.pointer (some ⟨u.heap.size, 0, none⟩))) (u.alloc (.cells z T)) := by
  have hn2 : seen q0.2 = false := by
    cases h2 : seen q0.2 with
    | false => rfl
    | true => have := h.order q0 hq0 h2; rw [hn] at this; cases this
  have old : ∀ g, g < u.heap.size → (u.alloc (.cells z T)).heap[g]? = u.heap[g]? := fun g hg => Below.heap_alloc _ _ _ hg
  have lt : ∀ q ∈ bx, seen q.1 = true → ∃ g, f q.1 = .pointer (some ⟨g, 0, none⟩) ∧ g < u.heap.size := fun q hq h1 => by
    obtain ⟨g, e, _, hh⟩ := h.box q hq h1
    exact ⟨g, e, (Array.getElem?_eq_some_iff.1 hh).1⟩
  have seen2 : ∀ q ∈ bx, Fi.upd seen q0.1 true q.2 = seen q.2 := fun q hq => Fi.upd_ne _ _ fun e => (Sep.at hs hq0 hq).2.2.1 e.symm
  refine ⟨h.below.alloc h.base _, Nat.le_trans h.base (by simp), fun q hq h1 => ?_, fun q hq r hr hne h1 h2 => ?_, fun j hj h1 => ?_, fun q hq h1 => ?_⟩
  · rw [seen2 q hq]
    by_cases e : q.1 = q0.1
    · have e2 : q.2 = q0.2 := (Sep.at hs hq hq0).2.2.2.1 e
      rw [e, Fi.upd_at, e2, hn2]
      exact ⟨_, rfl, h.base, heap_at _ _ rfl⟩
    · rw [Fi.upd_ne _ _ e] at h1 ⊢
      obtain ⟨g, e1, hg, hh⟩ := h.box q hq h1
      exact ⟨g, e1, hg, (old g (Array.getElem?_eq_some_iff.1 hh).1).trans hh⟩
  · have far : ∀ q ∈ bx, seen q.1 = true → f q.1 ≠ .pointer (some ⟨u.heap.size, 0, none⟩) := fun q hq h1 e => by
      obtain ⟨g, e1, hg⟩ := lt q hq h1
      rw [e1] at e
      injection e with e; injection e with e; injection e with e
      omega
    by_cases e1 : q.1 = q0.1
    · have e2 : r.1 ≠ q0.1 := fun e => hne (e1.trans e.symm)
      rw [Fi.upd_ne _ _ e2] at h2 ⊢
      rw [e1, Fi.upd_at]
      exact fun e => far r hr h2 e.symm
    · rw [Fi.upd_ne _ _ e1] at h1 ⊢
      by_cases e2 : r.1 = q0.1
      · rw [e2, Fi.upd_at]
        exact far q hq h1
      · rw [Fi.upd_ne _ _ e2] at h2 ⊢
        exact h.apart q hq r hr hne h1 h2
  · have e : j ≠ q0.1 := by have := Sep.at hs hq0 hq0; omega
    rw [Fi.upd_ne _ _ e] at h1 ⊢
    exact h.loads j hj h1
  · rw [seen2 q hq] at h1
    by_cases e : q.1 = q0.1
    · rw [e, Fi.upd_at]
    · rw [Fi.upd_ne _ _ e]
      exact h.order q hq h1

theorem BoxI.store (h : BoxI B u0 T z c bx ld av seen f u) (hs : Sep bx ld = true) {q0 : Nat × Nat} (hq0 : q0 ∈ bx) (h1 : seen q0.1 = true) (hn : seen q0.2 = false) :
    ∃ g, f q0.1 = .pointer (some ⟨g, 0, none⟩) ∧ B ≤ g ∧ u.heap[g]? = some (.cells z T (0, 0)) ∧
      ∀ u' v, Below B u u' → u'.heap[g]? = some (.cells c T (0, 0)) → (∀ k, k ≠ g → u'.heap[k]? = u.heap[k]?) → BoxI B u0 T z c bx ld av (Fi.upd seen q0.2 true) (Fi.upd f q0.2 v) u' := by
  obtain ⟨g, e, hg, hh⟩ := h.box q0 hq0 h1
  rw [hn] at hh
  refine ⟨g, e, hg, hh, fun u' v hb hc hk => ?_⟩
  have seen1 : ∀ q ∈ bx, Fi.upd seen q0.2 true q.1 = seen q.1 := fun q hq => Fi.upd_ne _ _ (Sep.at hs hq hq0).2.2.1
  have f1 : ∀ q ∈ bx, Fi.upd f q0.2 v q.1 = f q.1 := fun q hq => Fi.upd_ne _ _ (Sep.at hs hq hq0).2.2.1
  refine ⟨h.below.trans hb, Nat.le_trans h.base hb.size, fun q hq h2 => ?_, fun q hq r hr hne h2 h3 => ?_, fun j hj h2 => ?_, fun q hq h2 => ?_⟩
  · rw [seen1 q hq] at h2
    rw [f1 q hq]
    by_cases e1 : q.1 = q0.1
    · have e2 : q.2 = q0.2 := (Sep.at hs hq hq0).2.2.2.1 e1
      rw [e1, e2, Fi.upd_at]
      exact ⟨g, e, hg, hc⟩
    · have e2 : q.2 ≠ q0.2 := fun e3 => e1 ((Sep.at hs hq hq0).2.2.2.2 e3)
      obtain ⟨g', e', hg', hh'⟩ := h.box q hq h2
      rw [Fi.upd_ne _ _ e2]
      refine ⟨g', e', hg', (hk g' fun e3 => ?_).trans hh'⟩
      exact h.apart q hq q0 hq0 e1 h2 h1 (by rw [e, e', e3])
  · rw [seen1 q hq] at h2
    rw [seen1 r hr] at h3
    rw [f1 q hq, f1 r hr]
    exact h.apart q hq r hr hne h2 h3
  · have e : j ≠ q0.2 := by have := Sep.at hs hq0 hq0; omega
    rw [Fi.upd_ne _ _ e] at h2 ⊢
    exact h.loads j hj h2
  · rw [seen1 q hq]
    by_cases e1 : q.2 = q0.2
    · rw [(Sep.at hs hq hq0).2.2.2.2 e1]; exact h1
    · rw [Fi.upd_ne _ _ e1] at h2
      exact h.order q hq h2
end Go.Proofs.Ytcofnbeemfhcpaa
