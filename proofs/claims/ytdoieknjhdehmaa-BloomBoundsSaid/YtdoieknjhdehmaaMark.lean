/- Bytes written as a constant are marked: a relation of worlds that lets marks be (no function of the program). -/
import Derived.Test.YtdoieknjhdehmaaArgs
import Derived.Test.YtdoieknjhdehmaaIter
import Derived.Test.YtdoieknjhdehmaaFlowr
namespace Go.Proofs.Ytdoieknjhdehmaa
open Go.ChangeShapes Go.WideShapes Go.ChangeAt Go.RowKit

theorem freeze_chg (w : World) (g k : Nat) : Chg (fun i => i = g) w (w.freeze ⟨g, k, none⟩ 1) := by
  unfold World.freeze
  rw [if_neg (by decide)]
  exact ⟨rfl, rfl, rfl, by simp, fun i _ hne => by simp [Array.getElem?_modify, Ne.symm hne]⟩
theorem freeze_at {w : World} {g k : Nat} {C : Array Value} {t : TypeId} {fz : Nat × Nat} (h : w.heap[g]? = some (.cells C t fz)) : ∃ fz', (w.freeze ⟨g, k, none⟩ 1).heap[g]? = some (.cells C t fz') := by
  unfold World.freeze
  rw [if_neg (by decide)]
  exact ⟨_, by simp [Array.getElem?_modify, h]; rfl⟩
/-- Bytes that are written as a constant, wherever their block lies. -/
theorem conv_const {w : World} {g n c : Nat} {C : Array Value} {fz : Nat × Nat} (h : w.heap[g]? = some (.cells C 5 fz)) :
    (convert 25 25 (.slice (some ⟨g, 0, none⟩) n c)).run Try.prog w = .ok (.slice (some ⟨g, 0, none⟩) n c) (w.freeze ⟨g, C.size, none⟩ 1) := by
  have hsh : w.shape? g = some (5, C.size) := by unfold World.shape?; rw [h]
  simp [convert, run_underlying Try.underlying25, run_underlying Try.underlying5, markStringish, hsh]

/-- Nothing but marks of bytes from block B on is other. -/
def MarkR (B : Nat) : Fr.Rel where
  r u u' := u'.os = u.os ∧ u'.tape = u.tape ∧ u'.output = u.output ∧ u.heap.size ≤ u'.heap.size ∧ ∀ k, k < u.heap.size → u'.heap[k]? = u.heap[k]? ∨ (B ≤ k ∧ ∃ c fz fz', u.heap[k]? = some (.cells c 5 fz) ∧ u'.heap[k]? = some (.cells c 5 fz'))
  refl w := ⟨rfl, rfl, rfl, Nat.le_refl _, fun _ _ => .inl rfl⟩
  trans := by
    rintro a b c ⟨h1, h2, h3, h4, h5⟩ ⟨k1, k2, k3, k4, k5⟩
    refine ⟨k1.trans h1, k2.trans h2, k3.trans h3, Nat.le_trans h4 k4, fun k hk => ?_⟩
    rcases h5 k hk with h | ⟨hB, x, f, f', hx, hx'⟩
    · rcases k5 k (Nat.lt_of_lt_of_le hk h4) with h' | ⟨hB, x, f, f', hx, hx'⟩
      · exact .inl (h'.trans h)
      · exact .inr ⟨hB, x, f, f', h ▸ hx, hx'⟩
    · rcases k5 k (Nat.lt_of_lt_of_le hk h4) with h' | ⟨_, y, e, e', hy, hy'⟩
      · exact .inr ⟨hB, x, f, f', hx, h'.trans hx'⟩
      · rw [hx'] at hy
        injection hy with hy
        injection hy with q1 _ _
        subst q1
        exact .inr ⟨hB, x, f, e', hx, hy'⟩
section
variable {B : Nat} {u u' : World}
theorem mark_ext (h : Ext u u') : (MarkR B).r u u' := ⟨h.os, h.tape, h.output, h.size, fun k hk => .inl (h.block k hk)⟩
theorem mark_freeze {g k : Nat} {C : Array Value} {fz : Nat × Nat} (hg : u.heap[g]? = some (.cells C 5 fz)) (hB : B ≤ g) : (MarkR B).r u (u.freeze ⟨g, k, none⟩ 1) := by
  have hc := freeze_chg u g k
  refine ⟨hc.os, hc.tape, hc.output, hc.size, fun i hi => ?_⟩
  by_cases h : i = g
  · subst h
    obtain ⟨fz', h'⟩ := freeze_at (k := k) hg
    exact .inr ⟨hB, C, fz, fz', hg, h'⟩
  · exact .inl (hc.block i hi h)
theorem mark_heap {o : Obj} {k : Nat} (h : (MarkR B).r u u') (hk : u.heap[k]? = some o) (hn : k < B ∨ ∀ c fz, o ≠ .cells c 5 fz) : u'.heap[k]? = some o := by
  rcases h.2.2.2.2 k (Array.getElem?_eq_some_iff.1 hk).1 with h' | ⟨hB, x, f, f', hx, hx'⟩
  · exact h'.trans hk
  · rcases hn with hn | hn
    · omega
    · rw [hk] at hx; injection hx with hx; exact absurd hx (hn _ _)
theorem mark_cell {p : Addr} {v : Value} (h : (MarkR B).r u u') (hc : u.cell? p = some v) : u'.cell? p = some v := by
  rcases h.2.2.2.2 p.block (World.block_lt_of_cell? _ _ hc) with h' | ⟨hB, x, f, f', hx, hx'⟩
  · exact (World.cell?_of_block h').trans hc
  · unfold World.cell? at hc ⊢
    rw [hx] at hc
    rw [hx']
    exact hc
theorem mark_chg (h : (MarkR B).r u u') : Chg (fun i => B ≤ i) u u' := ⟨h.1, h.2.1, h.2.2.1, h.2.2.2.1, fun k hk hn => by
  rcases h.2.2.2.2 k hk with h' | ⟨hB, _⟩
  · exact h'
  · exact absurd hB hn⟩
theorem mark_bs {lo hi : Nat} {v : Value} {l : List Nat} (h : (MarkR B).r u u') (hb : Bs u lo hi v l) : Bs u' lo hi v l := by
  obtain ⟨A, c, e, h1, h2, h3, h4⟩ := hb
  refine ⟨A, c, e, h1, h2, h3, ?_⟩
  rcases h4 with h4 | ⟨b, o, e, h5, h6, h7⟩
  · exact .inl h4
  · exact .inr ⟨b, o, e, h5, h6, fun i x hx => mark_cell h (h7 i x hx)⟩
end
theorem bl_bs {u : World} {b : Nat} {l : List Nat} {fz : Nat × Nat} (hl : l.length ≤ 100) (h : u.heap[b]? = some (.cells (bv l).toArray 5 fz)) : Bs u 0 u.heap.size (.slice (some ⟨b, 0, none⟩) l.length l.length) l := by
  refine ⟨_, _, rfl, Nat.le_refl _, by simp [maxLen]; omega, (fun h => by cases h), .inr ⟨b, 0, rfl, Nat.zero_le _, (Array.getElem?_eq_some_iff.1 h).1, fun i x hx => ?_⟩⟩
  rw [Nat.zero_add]
  unfold World.cell?
  rw [h]
  simpa using hx
def BlF (B : Nat) (l : List Nat) (v : Value) (u : World) : Prop := ∃ (b : Nat) (fz : Nat × Nat), v = .slice (some ⟨b, 0, none⟩) l.length l.length ∧ B ≤ b ∧ u.heap[b]? = some (.cells (bv l).toArray 5 fz)
theorem Fr.Mono.bl (C B : Nat) (l : List Nat) : Fr.Mono (MarkR C) (BlF B l) := fun _ u u' ⟨b, fz, h, hB, hb⟩ hu => by
  rcases hu.2.2.2.2 b (Array.getElem?_eq_some_iff.1 hb).1 with h' | ⟨_, x, f, f', hx, hx'⟩
  · exact ⟨b, fz, h, hB, h'.trans hb⟩
  · rw [hb] at hx
    injection hx with hx
    injection hx with q1 _ _
    subst q1
    exact ⟨b, f', h, hB, hx'⟩

/-- What was there ahead of the marks is as it was. -/
theorem mark_old {w u : World} (h : (MarkR w.heap.size).r w.drew u) : Ext w u :=
  ((Chg.drew w).trans (mark_chg h)).below (fun _ hi => hi) (Nat.le_refl _)
/-- A slice of so many bytes. -/
def Len (n : Nat) (v : Value) (_ : World) : Prop := ∃ A c, v = .slice A n c
theorem Fr.Mono.len (B n : Nat) : Fr.Mono (MarkR B) (Len n) := fun _ _ _ h _ => h
end Go.Proofs.Ytdoieknjhdehmaa
