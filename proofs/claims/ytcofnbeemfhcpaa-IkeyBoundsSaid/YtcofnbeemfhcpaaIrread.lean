/- The reference's Read. -/
import Derived.Test.YtcofnbeemfhcpaaIrefb
namespace Go.Proofs.Ytcofnbeemfhcpaa
open Go.ChangeShapes Go.WideShapes Go.ChangeAt Go.RowKit

/-- What is read of the first three parts, where an entry stands. -/
theorem read_is3 {b kb r1 r2 r3 : List Nat} {n d : Nat} {k1 k2 k3 : Int} (h1 : OutText 32 b kb k1 r1) (h2 : OutNum r1 n k2 r2) (h3 : OutNum r2 d k3 r3) {e : Ent} (he : IsE b e) :
    e.key = kb ∧ e.seq = n ∧ e.kind = d ∧ k1 = 0 ∧ k2 = 0 ∧ k3 = 0 ∧ (e.kind = 1 → r3 = bytesForm e.val) ∧ (e.kind = 2 → r3 = []) := by
  obtain ⟨hm, rfl⟩ := he
  obtain ⟨u1, u2, u3, u4⟩ := Ent.may_u64 hm
  obtain ⟨a1, a2, a3, a4, a5⟩ := mayN_iff.1 hm
  unfold Ent.form at h1
  obtain ⟨rfl, rfl, rfl⟩ := h1.same (.inl ⟨rfl, by omega, u1, rfl⟩)
  obtain ⟨rfl, rfl, rfl⟩ := h2.same (.inl ⟨rfl, u2, rfl⟩)
  obtain ⟨rfl, rfl, rfl⟩ := h3.same (.inl ⟨rfl, u3, rfl⟩)
  refine ⟨rfl, by omega, by rcases a5 with ⟨a5, _⟩ | ⟨a5, _⟩ <;> omega, rfl, rfl, rfl, fun h => by rw [if_pos h], fun h => by rw [if_neg (by omega)]⟩
theorem OutText.zero {most : Int} {l bs rest : List Nat} (h : OutText most l bs 0 rest) : l = bytesForm bs ++ rest := by
  rcases h with ⟨_, _, _, h⟩ | ⟨h, _⟩
  · exact h
  · exact absurd rfl h
theorem OutNum.zero {l rest : List Nat} {n : Nat} (h : OutNum l n 0 rest) : l = form n ++ rest := by
  rcases h with ⟨_, h⟩ | ⟨h, _⟩
  · exact h.eq
  · cases h

theorem Em.setCell {w : World} {lo hi : Nat} {e : Ent} {h : Hd} (m : Em w lo hi e h) {p : Addr} (hp : p.block < lo ∨ hi ≤ p.block) (u : Value) : Em (w.setCell p u) lo hi e h := ⟨m.k.setCell hp u, m.v.setCell hp u, m.bk, m.bv, m.s1, m.s2, m.d1, m.d2⟩

/-- What the reference's Read answers. -/
def RReadAns (w : World) (b : List Nat) (x : Ending) (w' : World) : Prop :=
  Ext w w' ∧ ((∃ (e : Ent) (g : Hd), IsE b e ∧ x = .returned (.tuple #[e.at_ g, .int .i64 0]) ∧ Em w' 0 w'.heap.size e g) ∨ ((∀ e, ¬ IsE b e) ∧ x = .returned (.tuple #[noE, .int .i64 4])))

/-- What the reference's Read answers, in memory that it made. -/
def RReadNew (w : World) (b : List Nat) (x : Ending) (w' : World) : Prop :=
  Ext w w' ∧ ((∃ (e : Ent) (g : Hd), IsE b e ∧ x = .returned (.tuple #[e.at_ g, .int .i64 0]) ∧ Em w' w.heap.size w'.heap.size e g) ∨ ((∀ e, ¬ IsE b e) ∧ x = .returned (.tuple #[noE, .int .i64 4])))

end Go.Proofs.Ytcofnbeemfhcpaa
