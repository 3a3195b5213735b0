/- Lists of entries: what ikey's Lists and the reference's answer. -/
import Derived.Test.YtcofnbeemfhcpaaItake
import Derived.Test.YtcofnbeemfhcpaaIrread
import Derived.Maps.AppendAt
namespace Go.Proofs.Ytcofnbeemfhcpaa
open Go.ChangeShapes Go.WideShapes Go.ChangeAt Go.RowKit

/-- What Lists answers. -/
def ListsAns (w : World) (b : List Nat) (x : Ending) (w' : World) : Prop :=
  Ext w w' ∧ ((∃ (R : List (Ent × Hd)) (v : Value), IsL b (R.map Prod.fst) ∧ x = .returned (.tuple #[v, .int .i64 0]) ∧ Got w.heap.size v R w') ∨ ((∀ es, ¬ IsL b es) ∧ x = .returned (.tuple #[.slice none 0 0, .int .i64 4])))

theorem ErrEnts.no {b : List Nat} {n : Int} {es : List Ent} (h : ErrEnts 65536 b n) : ¬ IsL b es := by
  intro hl
  rcases h with (⟨_, h⟩ | ⟨_, _, h⟩ | ⟨_, _, m, rest, hb, hm⟩) | ⟨m, mid, hb, _, xs, rest, hlt, ha, hno⟩
  · omega
  · exact h _ _ hl.begins
  · have := (hl.begins.unique hb).1; have := hl.1; omega
  · exact ha.no hb hlt hno hl

/-! The reference's -/

/-- A row of entries; the row's block is apart from theirs. -/
structure Held (B : Nat) (v : Value) (R : List (Ent × Hd)) (w : World) : Prop where
  row : w.ownsRow B 25 4 v R.length (erow R)
  each : ∀ p ∈ R, ∃ lo hi, B ≤ lo ∧ hi ≤ w.heap.size ∧ Em w lo hi p.1 p.2 ∧ ∀ g, v.ownBlock = some g → g < lo ∨ hi ≤ g
theorem Held.nil (B : Nat) (w : World) : Held B (.slice none 0 0) [] w := ⟨World.ownsRow_nil _ _ _ _, fun p hp => by cases hp⟩
theorem Em.grown {w w' : World} {lo hi : Nat} {e : Ent} {g : Hd} {row : Option Nat} (m : Em w lo hi e g) (hg : w.grownBy w' row) (hB : hi ≤ w.heap.size) (hr : ∀ k, row = some k → k < lo ∨ hi ≤ k) : Em w' lo hi e g := ⟨m.k.grown hg hB hr, m.v.grown hg hB hr, m.bk, m.bv, m.s1, m.s2, m.d1, m.d2⟩
theorem Held.grown {B q : Nat} {v : Value} {R : List (Ent × Hd)} {w w' : World} (h : Held B v R w) (hg : w.grownBy w' (some q)) (hq : q < B) : Held B v R w' := by
  refine ⟨rowN_kept h.row fun g hgo => hg.block g (rowN_lt h.row g hgo).2.1 (fun e => by injection e with e; have := (rowN_lt h.row g hgo).1; omega), fun p hp => ?_⟩
  obtain ⟨lo, hi, h1, h2, h3, h4⟩ := h.each p hp
  exact ⟨lo, hi, h1, Nat.le_trans h2 hg.size, h3.grown hg h2 (fun k hk => by injection hk with hk; omega), h4⟩
theorem Held.below {B : Nat} {v : Value} {R : List (Ent × Hd)} {w w' : World} (h : Held B v R w) (hx : Ext w w') : Held B v R w' := by
  refine ⟨rowN_kept h.row fun g hgo => hx.block g (rowN_lt h.row g hgo).2.1, fun p hp => ?_⟩
  obtain ⟨lo, hi, h1, h2, h3, h4⟩ := h.each p hp
  exact ⟨lo, hi, h1, Nat.le_trans h2 hx.size, h3.below hx h2, h4⟩
theorem Held.es {B : Nat} {A : Option Addr} {c : Nat} {R : List (Ent × Hd)} {w : World} (h : Held B (.slice A R.length c) R w) : Es w 0 w.heap.size A R := by
  refine ⟨?_, fun p hp => ?_⟩
  · rcases h.row.2 with ⟨h1, h2⟩ | ⟨g, cap, cur, hv, hg, hh, r⟩
    · injection h1 with e1 e2 _
      have : R = [] := List.eq_nil_of_length_eq_zero e2
      subst this; exact Sl.nil _ _ _ _
    · injection hv with e1 _ _
      subst e1
      refine .inr ⟨g, 0, rfl, Nat.zero_le _, (Array.getElem?_eq_some_iff.1 hh).1, fun i u hu => ?_⟩
      have := h.row.cells (g := g) rfl i u hu
      rwa [addr_add] at this
  · obtain ⟨lo, hi, _, h2, h3, _⟩ := h.each p hp
    exact h3.wide (Nat.zero_le _) h2

theorem wpList_pushheld {ops : Array Oper} {rest : List Oper} {o : Oper} {a : Act} {Q : Exit → Act → World → Prop} {u : World} (hgd : o.guard = none) (s x : Operand)
    (ho : o.op = .call { callee := .builtin .append, args := #[s, x], argTypes := #[26, 26] }) (B : Nat) (v : Value) (R : List (Ent × Hd)) (hs : a.eval s = v) (hgot : Held B v R u)
    (p : Ent × Hd) (gb : Nat) (hx : a.eval x = .slice (some ⟨gb, 0, none⟩) 1 1) (hblk : u.heap[gb]? = some (.cells (ecells p).toArray 25 (0, 0)))
    (hp : ∃ lo hi, B ≤ lo ∧ hi ≤ u.heap.size ∧ Em u lo hi p.1 p.2 ∧ ∀ g, v.ownBlock = some g → g < lo ∨ hi ≤ g) (hlen : R.length ≤ 1000000000000) (hB : B ≤ u.heap.size)
    (h : ∀ A' c' w', Held B (.slice A' (R.length + 1) c') (R ++ [p]) w' → (∀ w0, Below B w0 u → Below B w0 w') → wpList Try.prog ops Q rest (a.put o.dst (.slice A' (R.length + 1) c')) w') :
    wpList Try.prog ops Q (o :: rest) a u := by
  obtain ⟨i0, hi0', ix0, ix1, ix2⟩ := info_parts einfo
  refine wpList_append_own_at _ hgd s x 26 ho B 25 i0 _ 4 64 Try.underlying26 hi0' ix0 ix1 ix2 rfl (by decide) v R.length (erow R) hs hgot.row ⟨gb, 0, none⟩ 1 1 (ecells p) hx rfl (fun j q hj => ?n1) (fun q hq => ?n2) ?n3 ?n4 hB (fun v' w5 ho hgr _ hat => ?rest)
  case n1 => rw [addr_add, Nat.zero_add]; exact cell_of hblk (by simpa using hj)
  case n2 => exact erow_one [p] q (by simpa [erow] using hq)
  case n3 => unfold maxLen; omega
  case n4 => omega
  case rest =>
    have hlt := rowN_lt hgot.row
    have hke : ∀ q : Ent × Hd, (∃ lo hi, B ≤ lo ∧ hi ≤ u.heap.size ∧ Em u lo hi q.1 q.2 ∧ ∀ g, v.ownBlock = some g → g < lo ∨ hi ≤ g) → ∃ lo hi, B ≤ lo ∧ hi ≤ w5.heap.size ∧ Em w5 lo hi q.1 q.2 ∧ ∀ g, v'.ownBlock = some g → g < lo ∨ hi ≤ g := by
      rintro q ⟨lo, hi, h1, h2, h3, h4⟩
      refine ⟨lo, hi, h1, Nat.le_trans h2 hgr.size, h3.grown hgr h2 h4, fun g hg => ?_⟩
      rcases hat with e | e
      · exact h4 g (e ▸ hg)
      · rw [e] at hg; injection hg with hg; omega
    have hgot' : Held B v' (R ++ [p]) w5 := by
      refine ⟨by rw [List.length_append, erow_append]; simpa [erow] using ho, fun q hq => ?_⟩
      rcases List.mem_append.1 hq with hq | hq
      · exact hke q (hgot.each q hq)
      · rw [List.mem_singleton] at hq; subst hq; exact hke q hp
    obtain ⟨A', c', rfl⟩ := rowN_slice ho
    exact h A' c' w5 hgot' (fun w0 hb => hb.grown hgr hB fun k hk => (hlt k hk).1)

theorem Ent.form_le {e : Ent} (h : e.may = true) : e.form.length ≤ 65620 := by
  obtain ⟨u1, u2, u3, u4⟩ := Ent.may_u64 h
  obtain ⟨h1, h2, h3, h4, h5⟩ := mayN_iff.1 h
  have a1 := (bytesForm_len u1).1
  have a2 := form_len64 u2
  have a3 := form_len64 u3
  have a4 := (bytesForm_len u4).1
  unfold Ent.form
  split <;> simp only [List.length_append, List.length_nil] <;> rcases h5 with ⟨h5, h6⟩ | ⟨h5, h6⟩ <;> omega

/-- What the reference's Lists answers. -/
def RListsAns (w : World) (b : List Nat) (x : Ending) (w' : World) : Prop :=
  Ext w w' ∧ ((∃ (R : List (Ent × Hd)) (A : Option Addr) (c : Nat), IsL b (R.map Prod.fst) ∧ x = .returned (.tuple #[.slice A R.length c, .int .i64 0]) ∧ Es w' 0 w'.heap.size A R) ∨ ((∀ es, ¬ IsL b es) ∧ x = .returned (.tuple #[.slice none 0 0, .int .i64 4])))

end Go.Proofs.Ytcofnbeemfhcpaa
