/- Rows of entries in memory. -/
import Derived.Test.YtcofnbeemfhcpaaIlit
import Derived.LoopTactic
import Derived.Laws.OwnMore
namespace Go.Proofs.Ytcofnbeemfhcpaa
open Go.ChangeShapes Go.WideShapes Go.ChangeAt Go.RowKit

/-- An entry's cells. -/
def ecells (p : Ent × Hd) : List Value := [.slice p.2.kA p.1.key.length p.2.kc, .int .i64 p.1.seq, .int .i64 p.1.kind, .slice p.2.vA p.1.val.length p.2.vc]
theorem ecells_length (p : Ent × Hd) : (ecells p).length = 4 := rfl
def erow (L : List (Ent × Hd)) : List Value := L.flatMap ecells
theorem erow_length (L : List (Ent × Hd)) : (erow L).length = L.length * 4 := by
  unfold erow
  induction L with
  | nil => rfl
  | cons a l ih => rw [List.flatMap_cons, List.length_append, ih, ecells_length, List.length_cons]; omega
theorem erow_append (L R : List (Ent × Hd)) : erow (L ++ R) = erow L ++ erow R := by simp [erow]
theorem erow_at (L : List (Ent × Hd)) {k j : Nat} (hk : k < L.length) (hj : j < 4) : (erow L)[k * 4 + j]? = (ecells L[k])[j]? := by
  unfold erow
  induction L generalizing k with
  | nil => simp at hk
  | cons a l ih =>
    rw [List.flatMap_cons]
    cases k with
    | zero => rw [List.getElem?_append_left (by rw [ecells_length]; omega)]; simp
    | succ k =>
      rw [List.getElem?_append_right (by rw [ecells_length]; omega), ecells_length, show (k + 1) * 4 + j - 4 = k * 4 + j by omega]
      simpa using ih (k := k) (by simpa using hk)
theorem erow_one (L : List (Ent × Hd)) : ∀ u ∈ erow L, u.oneCell' = true := by
  intro u hu
  unfold erow at hu
  obtain ⟨p, _, h⟩ := List.mem_flatMap.1 hu
  simp only [ecells, List.mem_cons, List.not_mem_nil, or_false] at h
  rcases h with rfl | rfl | rfl | rfl <;> rfl
/-- Entries in a row. -/
structure Es (w : World) (lo hi : Nat) (A : Option Addr) (L : List (Ent × Hd)) : Prop where
  outer : Sl w lo hi A (erow L)
  each : ∀ p ∈ L, Em w lo hi p.1 p.2
theorem Es.below {w w' : World} {lo hi B : Nat} {A : Option Addr} {L : List (Ent × Hd)} (h : Es w lo hi A L) (hb : Below B w w') (hB : hi ≤ B) : Es w' lo hi A L := ⟨h.outer.below hb hB, fun p hp => (h.each p hp).below hb hB⟩
theorem Es.wide {w : World} {lo hi lo' hi' : Nat} {A : Option Addr} {L : List (Ent × Hd)} (h : Es w lo hi A L) (h1 : lo' ≤ lo) (h2 : hi ≤ hi') : Es w lo' hi' A L := ⟨h.outer.wide h1 h2, fun p hp => (h.each p hp).wide h1 h2⟩
/-- Where the row begins, and the k-th entry's cells. -/
theorem Es.at_ {w : World} {lo hi : Nat} {A : Option Addr} {L : List (Ent × Hd)} (h : Es w lo hi A L) {k : Nat} (hk : k < L.length) :
    ∃ b o, A = some ⟨b, o, none⟩ ∧ b < hi ∧ w.cell? ⟨b, o + k * 4, none⟩ = some (.slice L[k].2.kA L[k].1.key.length L[k].2.kc) ∧ w.cell? ⟨b, o + k * 4 + 1, none⟩ = some (.int .i64 L[k].1.seq) ∧
      w.cell? ⟨b, o + k * 4 + 2, none⟩ = some (.int .i64 L[k].1.kind) ∧ w.cell? ⟨b, o + k * 4 + 3, none⟩ = some (.slice L[k].2.vA L[k].1.val.length L[k].2.vc) := by
  obtain ⟨b, o, rfl, _, hb, _⟩ := Sl.at_ h.outer (i := k * 4) (by rw [erow_length]; omega)
  have hc : ∀ j u, (erow L)[j]? = some u → w.cell? ⟨b, o + j, none⟩ = some u := by
    rcases h.outer with h0 | ⟨b', o', he, _, _, hc⟩
    · have := congrArg List.length h0
      rw [erow_length] at this
      simp at this; omega
    · injection he with he
      injection he with e1 e2
      subst e1 e2
      exact hc
  have hj := fun (j : Nat) (hj : j < 4) (u : Value) (hu : (ecells L[k])[j]? = some u) => hc (k * 4 + j) u ((erow_at L hk hj).trans hu)
  refine ⟨b, o, rfl, hb, hj 0 (by decide) _ rfl, ?_, ?_, ?_⟩
  · rw [Nat.add_assoc]; exact hj 1 (by decide) _ rfl
  · rw [Nat.add_assoc]; exact hj 2 (by decide) _ rfl
  · rw [Nat.add_assoc]; exact hj 3 (by decide) _ rfl

theorem Es.base {w : World} {lo hi : Nat} {A : Option Addr} {L : List (Ent × Hd)} (h : Es w lo hi A L) (h0 : 0 < L.length) : ∃ b o, A = some ⟨b, o, none⟩ := by
  obtain ⟨b, o, e, _⟩ := h.at_ h0
  exact ⟨b, o, e⟩
theorem Es.get {w : World} {lo hi b o : Nat} {L : List (Ent × Hd)} (h : Es w lo hi (some ⟨b, o, none⟩) L) {k : Nat} {p : Ent × Hd} (hk : L[k]? = some p) :
    w.cell? ⟨b, o + k * 4, none⟩ = some (.slice p.2.kA p.1.key.length p.2.kc) ∧ w.cell? ⟨b, o + k * 4 + 1, none⟩ = some (.int .i64 p.1.seq) ∧
      w.cell? ⟨b, o + k * 4 + 2, none⟩ = some (.int .i64 p.1.kind) ∧ w.cell? ⟨b, o + k * 4 + 3, none⟩ = some (.slice p.2.vA p.1.val.length p.2.vc) := by
  obtain ⟨hlt, rfl⟩ := List.getElem?_eq_some_iff.1 hk
  obtain ⟨_, _, he, _, c0, c1, c2, c3⟩ := h.at_ hlt
  injection he with he; injection he with e1 e2; subst e1 e2
  exact ⟨c0, c1, c2, c3⟩

/-- So many entries rise. -/
structure RiseAt (L : List Ent) (n : Nat) : Prop where
  le : n ≤ L.length
  rise : ∀ j a b, j + 1 < n → L[j]? = some a → L[j + 1]? = some b → cmpE a b < 0
  stop : n < L.length → ∃ j a b, n = j + 1 ∧ L[j]? = some a ∧ L[j + 1]? = some b ∧ ¬ cmpE a b < 0
end Go.Proofs.Ytcofnbeemfhcpaa
