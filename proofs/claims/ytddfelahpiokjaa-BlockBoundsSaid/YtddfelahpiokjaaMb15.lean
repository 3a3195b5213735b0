/- Iown, joined. -/
import Derived.Test.YtddfelahpiokjaaMb3

/- A row of bytes that one owns: its block, its cells, one of them changed (out of XBown). -/
namespace Go.Proofs.Ytddfelahpiokjaa
open Go.ChangeShapes Go.WideShapes Go.ChangeAt Go.RowKit

/-- Its block, when it has bytes. -/
theorem Own.block {B : Nat} {l : List Nat} {v : Value} {u : World} (h : Own B l v u) (h0 : 0 < l.length) : ∃ g c, v = .slice (some ⟨g, 0, none⟩) l.length c ∧ B ≤ g ∧ g < u.heap.size ∧ l.length ≤ c := by
  have h2 := h.2
  rcases h2 with ⟨hn, _⟩ | ⟨g, c, cur, hv, hb, hh, hn, _⟩
  · omega
  · refine ⟨g, c, hv, hb, ?_, hn⟩
    rcases Nat.lt_or_ge g u.heap.size with h | h
    · exact h
    · rw [Array.getElem?_eq_none h] at hh; cases hh
theorem Own.cell {B : Nat} {l : List Nat} {g n c : Nat} {u : World} (h : Own B l (.slice (some ⟨g, 0, none⟩) n c) u) {i : Nat} (hi : i < l.length) : u.cell? ⟨g, i, none⟩ = some (.int .u8 (l[i] : Int)) := by
  obtain ⟨A', c', e, _⟩ := h.bs
  injection e with _ e2 _
  subst e2
  have h' : u.ownsRow B 5 1 (.slice (some ⟨g, 0, none⟩) l.length c) l.length (bv l) := h
  rw [h'.cellAt i (by omega)]
  simp [bv, List.getElem?_eq_getElem hi]
theorem Own.free {B : Nat} {l : List Nat} {g n c : Nat} {u : World} (h : Own B l (.slice (some ⟨g, 0, none⟩) n c) u) (i : Nat) : u.frozen? ⟨g, i, none⟩ = false := by
  obtain ⟨A', c', e, _⟩ := h.bs
  injection e with _ e2 _
  subst e2
  have h' : u.ownsRow B 5 1 (.slice (some ⟨g, 0, none⟩) l.length c) l.length (bv l) := h
  exact h'.frozenAt i
theorem Own.set {B : Nat} {l : List Nat} {g n c : Nat} {u : World} (h : Own B l (.slice (some ⟨g, 0, none⟩) n c) u) (i x : Nat) : Own B (l.set i x) (.slice (some ⟨g, 0, none⟩) n c) (u.setCell ⟨g, i, none⟩ (.int .u8 (x : Int))) := by
  obtain ⟨A', c', e, _⟩ := h.bs
  injection e with _ e2 _
  subst e2
  have h' : u.ownsRow B 5 1 (.slice (some ⟨g, 0, none⟩) l.length c) l.length (bv l) := h
  have h1 := (h'.stored i (.int .u8 (x : Int))).1
  have e : (bv l).set i (.int .u8 (x : Int)) = bv (l.set i x) := by simp [bv, List.map_set]
  rw [e] at h1
  unfold Own
  rw [List.length_set]
  exact h1
end Go.Proofs.Ytddfelahpiokjaa
