/- Ikeys Tailin Ilatest Iseq Iover Ilists Irefb Iput, joined. -/
import Derived.Test.YtgflhbpmkcggnaaMa4
import Derived.Laws.EntriesVeiled
import Derived.Deep.Slices
import Derived.Deep.DeepCutAuto
import Derived.Test.YtgflhbpmkcggnaaMa3

/- Going over the pieces of a row of entries that have one key each. -/
namespace Go.Proofs.Ytgflhbpmkcggnaa
open Go.RowKit Go.Shelf
attribute [local go_sem] Oper.semAt_some

theorem Em.keep {w w' : World} {lo hi : Nat} {e : Ent} {g : Hd} (m : Em w lo hi e g) (hk : ∀ p : Addr, lo ≤ p.block → p.block < hi → w'.cell? p = w.cell? p) : Em w' lo hi e g := ⟨m.k.of fun _ h => h.keep hk, m.v.of fun _ h => h.keep hk, m.bk, m.bv, m.s1, m.s2, m.d1, m.d2⟩
theorem Es.keep {w w' : World} {lo hi : Nat} {A : Option Addr} {L : List (Ent × Hd)} (h : Es w lo hi A L) (hk : ∀ p : Addr, lo ≤ p.block → p.block < hi → w'.cell? p = w.cell? p) : Es w' lo hi A L := ⟨h.outer.keep hk, fun p hp => (h.each p hp).keep hk⟩
theorem einfo : (Try.prog.info? 48).map (fun i => (i.zero, i.size, i.bytes)) = some (some (.agg #[.slice none 0 0, .int .i64 0, .int .i64 0, .slice none 0 0]), 4, 64) := by kernel_rfl
theorem esize (w : World) : (sizeOf (Try.prog.elem 22)).run Try.prog w = .ok 4 w := by
  obtain ⟨i0, hi, _, hz1, _⟩ := info_parts einfo
  have e : Try.prog.elem 22 = 48 := by kernel_rfl
  rw [e]
  simp [Go.sizeOf, typeInfo, hi, hz1]
/-- A piece of a row of entries. -/
theorem eslice_run (A : Option Addr) (n c k j : Nat) (hkj : k ≤ j) (hjn : j ≤ n) (hc : n ≤ c) (w : World) :
    (Instr.slice 22 (.slice A n c) (some (.int .i64 (k : Int))) (some (.int .i64 (j : Int))) none).run Try.prog w = .ok (.slice (if c = k then A else A.map (·.add (k * 4))) (j - k) (c - k)) w := by
  have he : Try.prog.underlying 22 = some (.slice (Try.prog.elem 22)) := by kernel_rfl
  rw [run_slice_lh w 22 A n c he .i64 .i64 (k : Int) (j : Int) (by omega) (by omega) (by omega), esize w]
  simp [Result.andThen, sliced]
theorem eslice_run0 (A : Option Addr) (n c j : Nat) (hjn : j ≤ n) (hc : n ≤ c) (w : World) :
    (Instr.slice 22 (.slice A n c) none (some (.int .i64 (j : Int))) none).run Try.prog w = .ok (.slice A j c) w := by
  have he : Try.prog.underlying 22 = some (.slice (Try.prog.elem 22)) := by kernel_rfl
  rw [run_slice_h w 22 A n c he .i64 (j : Int) (by omega) (by omega), esize w]
  by_cases h : c = 0
  · subst h; simp [Result.andThen, sliced]
  · have : ¬ c = 0 := h
    cases A <;> simp [Result.andThen, sliced, Addr.add]
theorem erow_drop (L : List (Ent × Hd)) (k : Nat) (hk : k ≤ L.length) : erow (L.drop k) = (erow L).drop (k * 4) := by
  have h := erow_append (L.take k) (L.drop k)
  rw [List.take_append_drop] at h
  have hl : (erow (L.take k)).length = k * 4 := by rw [erow_length, List.length_take, Nat.min_eq_left hk]
  rw [h, ← hl, List.drop_left]
theorem erow_take (L : List (Ent × Hd)) (k : Nat) (hk : k ≤ L.length) : erow (L.take k) = (erow L).take (k * 4) := by
  have h := erow_append (L.take k) (L.drop k)
  rw [List.take_append_drop] at h
  have hl : (erow (L.take k)).length = k * 4 := by rw [erow_length, List.length_take, Nat.min_eq_left hk]
  rw [h, ← hl, List.take_left]
theorem Es.drop {w : World} {lo hi c : Nat} {A : Option Addr} {L : List (Ent × Hd)} (h : Es w lo hi A L) {k : Nat} (hk : k ≤ L.length) (hc : L.length ≤ c) : Es w lo hi (if c = k then A else A.map (·.add (k * 4))) (L.drop k) := by
  refine ⟨?_, fun p hp => h.each p (List.mem_of_mem_drop hp)⟩
  rw [erow_drop L k hk]
  have h2 := Sl.drop (k := k * 4) (cap := c * 4) h.outer (by rw [erow_length]; omega) (by rw [erow_length]; omega)
  by_cases e : c = k
  · rw [if_pos e]; rw [if_pos (by omega)] at h2; exact h2
  · rw [if_neg e]; rw [if_neg (by omega)] at h2; exact h2
theorem Es.take {w : World} {lo hi : Nat} {A : Option Addr} {L : List (Ent × Hd)} (h : Es w lo hi A L) {k : Nat} (hk : k ≤ L.length) : Es w lo hi A (L.take k) := by
  refine ⟨?_, fun p hp => h.each p (List.mem_of_mem_take hp)⟩
  rw [erow_take L k hk]
  exact Sl.take h.outer _

/-- Where the pieces begin and end, from i on, the piece that i is in having begun at f. -/
def cuts (L : List Ent) : Nat → Nat → Nat → List (Nat × Nat)
  | 0, _, _ => []
  | r + 1, f, i => match L[i]?, L[i + 1]? with
    | some a, some b => if a.key = b.key then cuts L r f (i + 1) else (f, i + 1) :: cuts L r (i + 1) (i + 1)
    | _, _ => (f, i + 1) :: cuts L r (i + 1) (i + 1)

theorem cuts_same {L : List Ent} {i f : Nat} {a b : Ent} (hi : i < L.length) (ha : L[i]? = some a) (hb : L[i + 1]? = some b) (h : a.key = b.key) : cuts L (L.length - i) f i = cuts L (L.length - (i + 1)) f (i + 1) := by
  have e : L.length - i = L.length - (i + 1) + 1 := by omega
  rw [e, cuts]
  simp only [ha, hb, h, if_true]
theorem cuts_other {L : List Ent} {i f : Nat} {a : Ent} (hi : i < L.length) (ha : L[i]? = some a) (h : ∀ b, L[i + 1]? = some b → a.key ≠ b.key) : cuts L (L.length - i) f i = (f, i + 1) :: cuts L (L.length - (i + 1)) (i + 1) (i + 1) := by
  have e : L.length - i = L.length - (i + 1) + 1 := by omega
  rw [e, cuts]
  cases hb : L[i + 1]? with
  | none => simp only [ha]
  | some b => simp only [ha, if_neg (h b hb)]
theorem drop_cons {α : Type} {l r : List α} {k : Nat} {x : α} (h : l.drop k = x :: r) : k < l.length ∧ l[k]? = some x ∧ l.drop (k + 1) = r := by
  have hk : k < l.length := by
    rcases Nat.lt_or_ge k l.length with h1 | h1
    · exact h1
    · rw [List.drop_of_length_le h1] at h; cases h
  rw [List.drop_eq_getElem_cons hk] at h
  injection h with h1 h2
  exact ⟨hk, by rw [List.getElem?_eq_getElem hk, h1], h2⟩

/-- The blocks that must stay. -/
def Kept (lo hi bd : Nat) (w A : World) : Prop := ∀ k, (lo ≤ k ∧ k < hi ∨ k = bd) → k < w.heap.size → A.heap[k]? = w.heap[k]?
theorem Kept.es {lo hi bd : Nat} {w A : World} {X : Option Addr} {L : List (Ent × Hd)} (h : Kept lo hi bd w A) (hhi : hi ≤ w.heap.size) (hE : Es w lo hi X L) : Es A lo hi X L := hE.keep fun p h1 h2 => World.cell?_of_block (h p.block (.inl ⟨h1, h2⟩) (Nat.lt_of_lt_of_le h2 hhi))
theorem Kept.box {lo hi bd : Nat} {w A : World} {v : Value} (h : Kept lo hi bd w A) (hb : w.cell? ⟨bd, 0, none⟩ = some v) : A.cell? ⟨bd, 0, none⟩ = some v := by
  rw [World.cell?_of_block (w := w) (a := ⟨bd, 0, none⟩) (h bd (.inr rfl) (World.block_lt_of_cell? w _ hb))]; exact hb

/-- The k-th piece, as a value. -/
def PieceOk (L : List (Ent × Hd)) (A : Option Addr) (c : Nat) (_n₁ k : Nat) (x : Option Addr × Nat × Nat) (_w : World) : Prop :=
  ∃ f t, (cuts (L.map Prod.fst) L.length 0 0)[k]? = some (f, t) ∧ f < t ∧ t ≤ L.length ∧ x = ((if c = f then A else A.map (·.add (f * 4))), t - f, c - f)
def pieceV (x : Option Addr × Nat × Nat) : Array Value := #[.slice x.1 x.2.1 x.2.2]

end Go.Proofs.Ytgflhbpmkcggnaa

/- A region that draws its order, by facts, whose last operations are done one behind the other, within a round of a loop over a function (no function of the program). -/
namespace Go.Proofs.Ytgflhbpmkcggnaa
open Go.RowKit
theorem flow_tail_in {P : Program} {ops : Array Oper} {Q : Exit → Act → World → Prop} {l n : Nat} {a0 : Act} {id : Nat} {w : World} (hm0 : P.follows .mixedOrders = true) (hnd : noDefer ops = true) (hQ : ∀ a w, ¬ Q .outgrown a w) (φ : List (Value → World → Prop)) (m : Nat) (hok : flowOk ops a0.tmps.size = true) (hsel : Region.noSelect ops = true) (hmn : decide (m ≤ ops.size) = true) (htl : tailOk ops m = true) (hmono : ∀ p ∈ φ, Mono p)
    (hobl : ∀ f, Obls P ops φ w.drew f 0 (ops.toList.take m) a0)
    (hfin : ∀ (g : Nat → Value) u, Ext w.drew u → (∀ j, j < m → fact φ j (g j) u) → wpList P ops Q (ops.toList.drop m) (puts g 0 (ops.toList.take m) a0) u) :
    (Code.region id ops true).wpIn (Fence.wide.inRound l) n P Q a0 w := by
  refine wpIn_region_any hm0 (any_in (noDefer_at hnd) (fun ⟨a, w, h⟩ => hQ a w h) _ _ _ _ (flow_tail_any hok hsel (of_decide_eq_true hmn) htl hmono hobl hfin ops.size _ a0 w.drew inv_start (fun j _ => ?_) left_start))
  rw [Array.getD_eq_getD_getElem?]
  by_cases hj : j < ops.size
  · simp [hj]
  · simp [hj]
end Go.Proofs.Ytgflhbpmkcggnaa

/- ikey's Latest: what is seen at a number. -/
namespace Go.Proofs.Ytgflhbpmkcggnaa
open Go.RowKit Go.Shelf
attribute [local go_sem] Oper.semAt_some

/-- Of each piece the first one whose number is at most s. -/
def firsts (L : List Ent) (s : Int) (cs : List (Nat × Nat)) : List Ent := cs.filterMap fun x => ((L.drop x.1).take (x.2 - x.1)).find? fun e => decide (e.seq ≤ s)
theorem firsts_next {L : List Ent} {s : Int} {cs : List (Nat × Nat)} {k f t : Nat} (h : cs[k]? = some (f, t)) : firsts L s (cs.take (k + 1)) = firsts L s (cs.take k) ++ ((((L.drop f).take (t - f)).find? fun e => decide (e.seq ≤ s)).toList) := by
  obtain ⟨hk, he⟩ := List.getElem?_eq_some_iff.1 h
  unfold firsts
  rw [List.take_succ_eq_append_getElem hk, List.filterMap_append, he]
  simp only [List.filterMap_cons, List.filterMap_nil]
  cases ((L.drop f).take (t - f)).find? fun e => decide (e.seq ≤ s) <;> rfl
theorem find_at {α : Type} {q : α → Bool} {x : α} : ∀ {L : List α} {i : Nat}, L[i]? = some x → q x = true → (∀ j y, j < i → L[j]? = some y → q y = false) → L.find? q = some x
  | [], i, h, _, _ => by simp at h
  | a :: l, 0, h, hq, _ => by simp at h; subst h; simp [hq]
  | a :: l, i + 1, h, hq, hno => by
    have h0 := hno 0 a (Nat.succ_pos _) rfl
    rw [List.find?_cons, h0]
    exact find_at (i := i) (by simpa using h) hq (fun j y hj hy => hno (j + 1) y (by omega) (by simpa using hy))
theorem firsts_len (L : List Ent) (s : Int) (cs : List (Nat × Nat)) : (firsts L s cs).length ≤ cs.length := List.length_filterMap_le _ _
theorem cuts_len (L : List Ent) : ∀ (r f i : Nat), (cuts L r f i).length ≤ r := by
  intro r
  induction r with
  | zero => intro f i; simp [cuts]
  | succ r ih =>
    intro f i
    rw [cuts]
    split
    · split
      · exact Nat.le_succ_of_le (ih _ _)
      · simpa using ih _ _
    · simpa using ih _ _
/-- What an entry's parts are bounded by. -/
structure Good (e : Ent) : Prop where
  bk : ∀ x ∈ e.key, x < 256
  bv : ∀ x ∈ e.val, x < 256
  s1 : -9223372036854775808 ≤ e.seq
  s2 : e.seq ≤ 9223372036854775807
  d1 : -9223372036854775808 ≤ e.kind
  d2 : e.kind ≤ 9223372036854775807
theorem Em.good {w : World} {lo hi : Nat} {e : Ent} {g : Hd} (h : Em w lo hi e g) : Good e := ⟨h.bk, h.bv, h.s1, h.s2, h.d1, h.d2⟩
/-- An entry of the call's own. -/
structure Mine (B : Nat) (p : Ent × Hd) (A : World) : Prop where
  k : Own B p.1.key (.slice p.2.kA p.1.key.length p.2.kc) A
  v : Own B p.1.val (.slice p.2.vA p.1.val.length p.2.vc) A
  good : Good p.1
theorem Mine.em {B : Nat} {p : Ent × Hd} {A : World} (h : Mine B p A) : Em A 0 A.heap.size p.1 p.2 := ⟨h.k.bs, h.v.bs, h.good.bk, h.good.bv, h.good.s1, h.good.s2, h.good.d1, h.good.d2⟩
theorem Mine.below {B : Nat} {p : Ent × Hd} {A A' : World} (h : Mine B p A) (hx : Ext A A') : Mine B p A' := ⟨h.k.below hx, h.v.below hx, h.good⟩
theorem Mine.base {B B' : Nat} {p : Ent × Hd} {A : World} (h : Mine B p A) (hB : B' ≤ B) : Mine B' p A := ⟨h.k.base hB, h.v.base hB, h.good⟩
theorem Mine.chg {B : Nat} {p : Ent × Hd} {A A' : World} {S : Nat → Prop} (h : Mine B p A) (hc : Chg S A A') (hS : ∀ k, B ≤ k → ¬ S k) : Mine B p A' := ⟨row_chg h.k hc hS, row_chg h.v hc hS, h.good⟩

/-- A row of entries in a box, each of them of the call's own. -/
structure Seen (B sb : Nat) (R : List (Ent × Hd)) (A : World) : Prop where
  ex : ∃ v, Boxed A sb 22 v ∧ A.ownsRow B 48 4 v R.length (erow R)
  each : ∀ p ∈ R, Mine B p A

theorem rowN_kept {w w' : World} {base s n : Nat} {e : TypeId} {v : Value} {xs : List Value} (h : w.ownsRow base e s v n xs) (hk : ∀ g, v.ownBlock = some g → w'.heap[g]? = w.heap[g]?) : w'.ownsRow base e s v n xs := by
  obtain ⟨h1, h2⟩ := h
  refine ⟨h1, ?_⟩
  rcases h2 with h2 | ⟨g, cap, cur, hv, hg, hh, r⟩
  · exact Or.inl h2
  · exact Or.inr ⟨g, cap, cur, hv, hg, (hk g (by rw [hv]; rfl)).trans hh, r⟩
theorem rowN_lt {w : World} {base s n : Nat} {e : TypeId} {v : Value} {xs : List Value} (h : w.ownsRow base e s v n xs) : ∀ g, v.ownBlock = some g → base ≤ g ∧ g < w.heap.size ∧ ∃ cur, w.heap[g]? = some (.cells cur e (0, 0)) := by
  intro g hg
  rcases h.2 with ⟨rfl, _⟩ | ⟨g', cap, cur, hv, hb, hh, r⟩
  · cases hg
  · rw [hv] at hg
    injection hg with hg
    subst hg
    exact ⟨hb, (Array.getElem?_eq_some_iff.1 hh).1, cur, hh⟩
theorem rowN_base {w : World} {b b' s n : Nat} {e : TypeId} {v : Value} {xs : List Value} (h : w.ownsRow b e s v n xs) (hb : b' ≤ b) : w.ownsRow b' e s v n xs := by
  obtain ⟨h1, h2⟩ := h
  refine ⟨h1, ?_⟩
  rcases h2 with h2 | ⟨g, cap, cur, hv, hg, hh, r⟩
  · exact Or.inl h2
  · exact Or.inr ⟨g, cap, cur, hv, Nat.le_trans hb hg, hh, r⟩
theorem rowN_slice {w : World} {base s n : Nat} {e : TypeId} {v : Value} {xs : List Value} (h : w.ownsRow base e s v n xs) : ∃ A c, v = .slice A n c := by
  rcases h.2 with ⟨rfl, rfl⟩ | ⟨g', cap, cur, hv, _⟩
  · exact ⟨none, 0, rfl⟩
  · exact ⟨_, _, hv⟩
/-- Rows of unlike things lie apart. -/
theorem rows_apart {w : World} {B B' s s' n n' : Nat} {e e' : TypeId} {v v' : Value} {xs xs' : List Value} (h : w.ownsRow B e s v n xs) (h' : w.ownsRow B' e' s' v' n' xs') (hne : e ≠ e') {g : Nat} (hg : v.ownBlock = some g) : v'.ownBlock ≠ some g := by
  intro hg'
  obtain ⟨_, _, c, hc⟩ := rowN_lt h g hg
  obtain ⟨_, _, c', hc'⟩ := rowN_lt h' g hg'
  rw [hc] at hc'
  injection hc' with hc'
  injection hc' with _ h2 _
  exact hne h2
theorem Seen.chg {B sb : Nat} {R : List (Ent × Hd)} {A A' : World} {S : Nat → Prop} (h : Seen B sb R A) (hc : Chg S A A') (hS : ∀ k, B ≤ k → ¬ S k) (hb : ¬ S sb) : Seen B sb R A' := by
  obtain ⟨v, h1, h2⟩ := h.ex
  exact ⟨⟨v, boxed_chg h1 hc hb, rowN_kept h2 fun g hg => hc.block g (rowN_lt h2 g hg).2.1 (hS g (rowN_lt h2 g hg).1)⟩, fun p hp => (h.each p hp).chg hc hS⟩
theorem Seen.base {B B' sb : Nat} {R : List (Ent × Hd)} {A : World} (h : Seen B sb R A) (hB : B' ≤ B) : Seen B' sb R A := by
  obtain ⟨v, h1, h2⟩ := h.ex
  exact ⟨⟨v, h1, rowN_base h2 hB⟩, fun p hp => (h.each p hp).base hB⟩

/-- A copy, as a value. -/
def CpOk (B : Nat) (e : Ent) (v : Value) (u : World) : Prop := ∃ g : Hd, v = e.at_ g ∧ Mine B (e, g) u
theorem Mono.cp (B : Nat) (e : Ent) : Mono (CpOk B e) := fun _ _ _ ⟨g, h, m⟩ hu => ⟨g, h, m.below hu⟩
/-- A literal of one entry. -/
def LtOk (B : Nat) (e : Ent) (v : Value) (u : World) : Prop := ∃ (g : Hd) (b : Nat), v = .slice (some ⟨b, 0, none⟩) 1 1 ∧ Mine B (e, g) u ∧ u.heap[b]? = some (.cells (ecells (e, g)).toArray 48 (0, 0))
theorem Mono.lt (B : Nat) (e : Ent) : Mono (LtOk B e) := fun _ _ _ ⟨g, b, h, m, hb⟩ hu => ⟨g, b, h, m.below hu, ext_heap hu hb⟩

/-- Between two rounds: what is seen of the first k pieces. -/
def LatI (T : List (Ent × Hd)) (s : Int) (lo hi bd : Nat) (w w3 : World) (n₁ k : Nat) (A : World) : Prop :=
  ∃ R, R.map Prod.fst = firsts (T.map Prod.fst) s ((cuts (T.map Prod.fst) T.length 0 0).take k) ∧ Seen n₁ (w.heap.size + 1) R A ∧ Kept lo hi bd w3 A ∧ w3.heap.size ≤ A.heap.size ∧ n₁ ≤ A.heap.size ∧ A.cell? ⟨w.heap.size, 0, none⟩ = some (.int .i64 s) ∧ Below w.heap.size w A
theorem LatI.chg {T : List (Ent × Hd)} {s : Int} {lo hi bd n₁ k : Nat} {w w3 A A' : World} (h : LatI T s lo hi bd w w3 n₁ k A) (hz : w.heap.size + 2 ≤ w3.heap.size) (hc : Chg (Btw w3.heap.size n₁) A A') : LatI T s lo hi bd w w3 n₁ k A' := by
  obtain ⟨R, hR, hS, hK, hz0, hz1, hs, hb⟩ := h
  refine ⟨R, hR, hS.chg hc (fun i hi hb => by have := hb.2; omega) (fun hb => by have := hb.1; omega), fun i hi hlt => ?_, Nat.le_trans hz0 hc.size, Nat.le_trans hz1 hc.size, ?_, hb.trans (hc.below (fun i hb => by have := hb.1; omega) hb.size)⟩
  · exact (hc.block i (Nat.lt_of_lt_of_le hlt hz0) (fun hb => by have := hb.1; omega)).trans (hK i hi hlt)
  · rw [World.cell?_of_block (w := A) (a := ⟨w.heap.size, 0, none⟩) (hc.block w.heap.size (by omega) (fun hb => by have := hb.1; omega))]; exact hs

end Go.Proofs.Ytgflhbpmkcggnaa

/- Going over what Latest saw. -/
namespace Go.Proofs.Ytgflhbpmkcggnaa
open Go.RowKit Go.Shelf
attribute [local go_sem] Oper.semAt_some

/-- The row in the box, its value named. -/
structure SeenV (B sb : Nat) (v : Value) (R : List (Ent × Hd)) (A : World) : Prop where
  box : Boxed A sb 22 v
  row : A.ownsRow B 48 4 v R.length (erow R)
  each : ∀ p ∈ R, Mine B p A
theorem SeenV.chg {B sb : Nat} {v : Value} {R : List (Ent × Hd)} {A A' : World} {S : Nat → Prop} (h : SeenV B sb v R A) (hc : Chg S A A') (hS : ∀ k, B ≤ k → ¬ S k) (hb : ¬ S sb) : SeenV B sb v R A' :=
  ⟨boxed_chg h.box hc hb, rowN_kept h.row fun g hg => hc.block g (rowN_lt h.row g hg).2.1 (hS g (rowN_lt h.row g hg).1), fun p hp => (h.each p hp).chg hc hS⟩
theorem SeenV.ext {B sb : Nat} {v : Value} {R : List (Ent × Hd)} {A A' : World} (h : SeenV B sb v R A) (hx : Ext A A') : SeenV B sb v R A' := h.chg (S := fun _ => False) (Chg.of_ext hx) (fun _ _ h => h) (fun h => h)
theorem rowE_sl {A : World} {B n c : Nat} {X : Option Addr} {R : List (Ent × Hd)} (h : A.ownsRow B 48 4 (.slice X n c) n (erow R)) : Sl A 0 A.heap.size X (erow R) := by
  rcases h.2 with ⟨he, rfl⟩ | ⟨g, cap, cur, he, hb, hh, hn, hm, hcs, hx⟩
  · left
    exact List.eq_nil_of_length_eq_zero (by simpa using h.1)
  · injection he with he _ _
    subst he
    refine .inr ⟨g, 0, rfl, Nat.zero_le _, (Array.getElem?_eq_some_iff.1 hh).1, fun i u hu => ?_⟩
    rw [Nat.zero_add, cell_of_row A g i cur _ (0, 0) hh]
    rw [← hx, List.getElem?_take] at hu
    split at hu
    · rw [← Array.getElem?_toList]; exact hu
    · cases hu
theorem SeenV.es {B sb n c : Nat} {X : Option Addr} {R : List (Ent × Hd)} {A : World} (h : SeenV B sb (.slice X n c) R A) : Es A 0 A.heap.size X R := by
  have hn : n = R.length := by
    obtain ⟨A', c', e⟩ := rowN_slice h.row
    injection e
  subst hn
  exact ⟨rowE_sl h.row, fun p hp => (h.each p hp).em⟩

/-- Of the k-th: it, in memory of its own. -/
def SeqOk (R : List (Ent × Hd)) (n₁ k : Nat) (x : Ent × Hd) (A : World) : Prop := ∃ p, R[k]? = some p ∧ x.1 = p.1 ∧ Mine n₁ x A
def seqV (x : Ent × Hd) : Array Value := #[x.1.at_ x.2]
end Go.Proofs.Ytgflhbpmkcggnaa

/- The reference's Same; the law's going over what Latest tells. -/
namespace Go.Proofs.Ytgflhbpmkcggnaa
open Go.RowKit Go.Shelf Go.ChangeShapes Go.WideShapes Go.ChangeAt

set_option maxRecDepth 100000 in
theorem cv_any {w : World} {lo hi : Nat} {A : Option Addr} {c : Nat} {l : List Nat} (h : Bs w lo hi (.slice A l.length c) l) : (convert 29 9 (.slice A l.length c)).run Try.prog w = .ok (.string (tx l)) w := by
  obtain ⟨A', c', he, _, _, _, hy⟩ := h
  injection he with e1 _ e3
  subst e1 e3
  exact run_text (P := Try.prog) w 29 5 Try.underlying29 Try.underlying5 hy l.length c rfl 9 Try.underlying9
attribute [local go_sem] Oper.semAt_some

set_option maxHeartbeats 2000000 in
theorem rsame_any {w : World} {lo hi lo2 hi2 : Nat} {a b : Ent} {g h : Hd} (hu : Em w lo hi a g) (hv : Em w lo2 hi2 b h) (h1 : hi ≤ w.heap.size) (h2 : hi2 ≤ w.heap.size) :
    Calls Try.prog 54 #[a.at_ g, b.at_ h] w fun e w' => ∃ z : Bool, (z = true ↔ a = b) ∧ e = .returned (.bool z) ∧ Ext w w' := by
  obtain ⟨w1, hw1⟩ : ∃ w1, w1 = (w.alloc (.cells #[.slice g.kA a.key.length g.kc, .int .i64 a.seq, .int .i64 a.kind, .slice g.vA a.val.length g.vc] 48)).alloc (.cells #[.slice h.kA b.key.length h.kc, .int .i64 b.seq, .int .i64 b.kind, .slice h.vA b.val.length h.vc] 48) := ⟨_, rfl⟩
  have HX : Hid (Ext w w1) := by rw [hw1]; exact Ext.trans (ext_alloc _ _) (ext_alloc _ _)
  have cvn : ∀ (X : Option Addr) (c : Nat) (l : List Nat) (lo hi : Nat), hi ≤ w.heap.size → Bs w lo hi (.slice X l.length c) l → (convert 29 9 (.slice X l.length c)).run Try.prog w1 = .ok (.string (tx l)) w1 := fun X c l lo hi hh hb => cv_any (hb.below HX.out hh)
  have v1 := cvn _ _ _ _ _ h1 hu.k
  have v2 := cvn _ _ _ _ _ h2 hv.k
  have v3 := cvn _ _ _ _ _ h1 hu.v
  have v4 := cvn _ _ _ _ _ h2 hv.v
  have t1 := tx_same hu.bk hv.bk
  have t2 := tx_same hu.bv hv.bv
  rw [hw1] at v1 v2 v3 v4
  clear cvn hu hv h1 h2
  unfold Ent.at_
  rw [hw1] at HX
  clear hw1
  by_cases hk : a.key = b.key
  · rw [decide_eq_true hk] at t1
    by_cases hs : a.seq = b.seq
    · have d1 : (a.seq == b.seq) = true := by simp [hs]
      by_cases hd : a.kind = b.kind
      · have d2 : (a.kind == b.kind) = true := by simp [hd]
        obtain ⟨z, hz⟩ : ∃ z, z = decide (a.val = b.val) := ⟨_, rfl⟩
        rw [← hz] at t2
        have HZ : Hid (z = true ↔ a = b) := by rw [hz]; unfold Hid; rw [decide_eq_true_eq]; exact ⟨fun h => Ent.ext hk hs hd h, fun h => by rw [h]⟩
        clear hk hs hd hz
        go_enter Try.func54, Try.ntmps54
        go_wp2_with fail
        go_ret
        exact ⟨z, HZ.out, by cases z <;> rfl, HX.out⟩
      · have d2 : (a.kind == b.kind) = false := by simp [hd]
        have HZ : Hid (false = true ↔ a = b) := ⟨fun h => (by cases h), fun h => absurd (by rw [h]) hd⟩
        clear hk hs hd t2
        go_enter Try.func54, Try.ntmps54
        go_wp2_with fail
        go_ret
        exact ⟨false, HZ.out, rfl, HX.out⟩
    · have d1 : (a.seq == b.seq) = false := by simp [hs]
      have HZ : Hid (false = true ↔ a = b) := ⟨fun h => (by cases h), fun h => absurd (by rw [h]) hs⟩
      clear hk hs t2
      go_enter Try.func54, Try.ntmps54
      go_wp2_with fail
      go_ret
      exact ⟨false, HZ.out, rfl, HX.out⟩
  · rw [decide_eq_false hk] at t1
    have HZ : Hid (false = true ↔ a = b) := ⟨fun h => (by cases h), fun h => absurd (by rw [h]) hk⟩
    clear hk t2
    go_enter Try.func54, Try.ntmps54
    go_wp2_with fail
    go_ret
    exact ⟨false, HZ.out, rfl, HX.out⟩

theorem results_cell_bool {fn : Func} {p : Tmp} (h : fn.results = #[.cell p 4]) (tmps : Array Value) (w : World) (g : Nat) (z : Bool) (hp : tmps.getD p undef = .pointer (some ⟨g, 0, none⟩)) (hc : w.cell? ⟨g, 0, none⟩ = some (.bool z)) :
    (results fn tmps).run Try.prog w = .ok (.bool z) w := by
  simp only [results, h]
  have hp' : tmps[p]?.getD undef = .pointer (some ⟨g, 0, none⟩) := by simpa using hp
  simp [Sem.run_bind, hp', go_sem, hc]
theorem SeenV.stay {B sb : Nat} {v : Value} {R : List (Ent × Hd)} {A A' : World} (h : SeenV B sb v R A) (hs : Stay B A.heap.size A A') (hb : B ≤ sb) : SeenV B sb v R A' :=
  ⟨(hs sb hb h.box.lt).trans h.box, rowN_kept h.row fun g hg => hs g (rowN_lt h.row g hg).1 (rowN_lt h.row g hg).2.1,
    fun p hp => ⟨row_kept (h.each p hp).k fun g hg => hs g (row_lt (h.each p hp).k g hg).1 (row_lt (h.each p hp).k g hg).2, row_kept (h.each p hp).v fun g hg => hs g (row_lt (h.each p hp).v g hg).1 (row_lt (h.each p hp).v g hg).2, (h.each p hp).good⟩⟩

/-- Between two rounds. -/
structure OverI (w w3 : World) (X : Option Addr) (N c : Nat) (n₁ k : Nat) (A : World) : Prop where
  stay : Stay (w.heap.size + 4) w3.heap.size w3 A
  below : Below w.heap.size w A
  num : Boxed A (w.heap.size + 3) 3 (.int .i64 (k : Int))
  res : Boxed A (w.heap.size + 2) 4 (.bool false)
  most : Boxed A (w.heap.size + 1) 3 (.int .i64 0)
  want : Boxed A w.heap.size 22 (.slice X N c)
  z3 : w3.heap.size ≤ A.heap.size
  z1 : n₁ ≤ A.heap.size

end Go.Proofs.Ytgflhbpmkcggnaa

/- Lists of entries: may all, do they rise, are they much, are they the same. -/
namespace Go.Proofs.Ytgflhbpmkcggnaa
open Go.ChangeShapes Go.WideShapes Go.ChangeAt Go.RowKit

theorem all_next {α : Type} {f : α → Bool} {L : List α} {i : Nat} {p : α} (h : (L.take i).all f = true) (hp : L[i]? = some p) (hf : f p = true) : (L.take (i + 1)).all f = true := by
  rw [List.take_succ_eq_append_getElem (List.getElem?_eq_some_iff.1 hp).1, List.all_append, h]
  simp [(List.getElem?_eq_some_iff.1 hp).2, hf]
theorem all_not {α : Type} {f : α → Bool} {L : List α} {i : Nat} {p : α} (hp : L[i]? = some p) (hf : f p = false) : L.all f = false := by
  rw [Bool.eq_false_iff]
  intro h
  rw [List.all_eq_true] at h
  rw [h p (List.mem_of_getElem? hp)] at hf
  cases hf

set_option maxRecDepth 100000 in
set_option maxHeartbeats 4000000 in
theorem allmay_any {w : World} {lo hi : Nat} {A : Option Addr} {c : Nat} {L : List (Ent × Hd)} (h : Es w lo hi A L) (hhi : hi ≤ w.heap.size) (hlen : L.length ≤ 1000000000000) :
    Calls Try.prog 77 #[.slice A L.length c] w fun x w' => x = .returned (.bool (L.all fun p => p.1.may)) ∧ Ext w w' := by
  have HE := Lib.hid h
  have HHI := Lib.hid hhi
  have HL := Lib.hid hlen
  clear h hhi hlen
  go_enter Try.func77, Try.ntmps77
  go_wp2_with fail
  go_loopw [7] (fun a wr => ∃ i : Nat, a = .int .i64 (i : Int) ∧ i ≤ L.length ∧ Hid ((L.take i).all (fun p => p.1.may) = true) ∧ Hid (Ext w wr)) (fun a _ => L.length - (intOf a).toNat)
  case atStart => exact ⟨0, rfl, by omega, by simp [Hid], Lib.hid (Ext.refl _)⟩
  case round =>
    obtain ⟨i, rfl, hm, HR, HX⟩ := hrel
    by_cases hlt : i < L.length
    · have d : decide ((i : Int) < (L.length : Int)) = true := decide_eq_true (by omega)
      have dn : decide (i < L.length) = true := decide_eq_true hlt
      obtain ⟨b, o, hA⟩ := HE.out.base (by omega)
      subst hA
      obtain ⟨p, hp⟩ : ∃ p, L[i]? = some p := ⟨_, List.getElem?_eq_getElem hlt⟩
      obtain ⟨c0, c1, c2, c3⟩ := (HE.out.below HX.out HHI.out).get hp
      have HP := Lib.hid hp
      have n1 : (0 : Int) ≤ (i : Int) := by omega
      have n2 : (i : Int) < (L.length : Int) := by omega
      have hw2 : wrap64 ((i : Int) + 1) = ((i + 1 : Nat) : Int) := by have := HL.out; unfold wrap64; omega
      clear hp
      go_upto_region 4 with (fail)
      obtain ⟨w4, hw4⟩ : ∃ w4, w4 = wr.alloc (.cells #[.slice p.2.kA p.1.key.length p.2.kc, .int .i64 p.1.seq, .int .i64 p.1.kind, .slice p.2.vA p.1.val.length p.2.vc] 48) := ⟨_, rfl⟩
      rw [← hw4]
      have HX4 : Hid (Ext wr w4) := by rw [hw4]; exact ext_alloc _ _
      have HB4 : Hid (w4.heap[wr.heap.size]? = some (.cells #[.slice p.2.kA p.1.key.length p.2.kc, .int .i64 p.1.seq, .int .i64 p.1.kind, .slice p.2.vA p.1.val.length p.2.vc] 48 (0, 0))) := by rw [hw4]; exact heap_at _ _ rfl
      clear hw4 c0 c1 c2 c3
      have c0 := cell_of HB4.out (k := 0) rfl
      have c1 := cell_of HB4.out (k := 1) rfl
      have c2 := cell_of HB4.out (k := 2) rfl
      have c3 := cell_of HB4.out (k := 3) rfl
      go_wp2_with fail
      refine (may_any _ _ _ _ _ _ _ _ _).mono ?_
      rintro x w9 ⟨rfl, hx9⟩
      have HX9 : Hid (Ext w w9) := Ext.trans HX.out (Ext.trans HX4.out hx9)
      clear hx9 c0 c1 c2 c3
      obtain ⟨z, hz⟩ : ∃ z, z = mayN p.1.key.length p.1.seq p.1.kind p.1.val.length := ⟨_, rfl⟩
      rw [← hz]
      have HZ := Lib.hid hz
      clear hz
      cases z with
      | false =>
        go_wp2_with fail
        go_ret
        exact ⟨by rw [all_not (f := fun p : Ent × Hd => p.1.may) HP.out HZ.out.symm]; rfl, HX9.out⟩
      | true =>
        go_wp2_with fail
        go_roundw
        case rel => exact ⟨i + 1, by rw [hw2], by omega, Lib.hid (all_next (f := fun p : Ent × Hd => p.1.may) HR.out HP.out HZ.out.symm), HX9⟩
        case measure => rw [hw2]; simp [intOf]; omega
    · have d : decide ((i : Int) < (L.length : Int)) = false := decide_eq_false (by omega)
      have dn : decide (i < L.length) = false := decide_eq_false hlt
      have HM : Hid (L.all (fun p => p.1.may) = true) := by have h := HR.out; rwa [List.take_of_length_le (by omega)] at h
      clear hlt hm
      go_wp2_with fail
      go_ret
      exact ⟨by rw [HM.out]; rfl, HX.out⟩

/-- Do they rise? -/
def Rise (l : List Ent) : Prop := ∀ j a b, l[j]? = some a → l[j + 1]? = some b → cmpE a b < 0
theorem RiseAt.all {l : List Ent} {n : Nat} (h : RiseAt l n) : n = l.length ↔ Rise l := by
  obtain ⟨h1, h2, h3⟩ := h
  refine ⟨fun e j a b ha hb => h2 j a b (by have := (List.getElem?_eq_some_iff.1 hb).1; omega) ha hb, fun hr => ?_⟩
  rcases Nat.lt_or_ge n l.length with h | h
  · obtain ⟨m, a, b, e, ha, hb, hc⟩ := h3 h
    have := hr m a b ha hb
    omega
  · omega

/-- Are they much, as the laws ask it? -/
def MuchAns (L : List (Ent × Hd)) (z : Bool) : Prop := z = false → L.length ≤ 100000 ∧ ∀ p ∈ L, p.1.key.length + p.1.val.length < 100000

set_option maxRecDepth 100000 in
set_option maxHeartbeats 4000000 in
theorem much_any {w : World} {lo hi : Nat} {A : Option Addr} {c : Nat} {L : List (Ent × Hd)} (h : Es w lo hi A L) (hhi : hi ≤ w.heap.size) (hlen : L.length ≤ 4000000000000) (hln : ∀ p ∈ L, p.1.key.length ≤ 140737488351232 ∧ p.1.val.length ≤ 140737488351232) :
    Calls Try.prog 24 #[.slice A L.length c, .int .i64 100000] w fun x w' => ∃ z : Bool, MuchAns L z ∧ x = .returned (.bool z) ∧ Ext w w' := by
  have HE := Lib.hid h
  have HHI := Lib.hid hhi
  have HL := Lib.hid hlen
  have HLN := Lib.hid hln
  clear h hhi hlen hln
  go_enter Try.func24, Try.ntmps24
  go_wp2_with fail
  go_loopw [5, 6] (fun a b wr => ∃ s i : Nat, a = .int .i64 (s : Int) ∧ b = .int .i64 (i : Int) ∧ i ≤ L.length ∧ s ≤ 500000 ∧ Hid (s ≤ 100000 → i ≤ s ∧ ∀ p ∈ L.take i, p.1.key.length + p.1.val.length < s) ∧ Hid (Ext w wr)) (fun _ b _ => L.length - (intOf b).toNat)
  case atStart => exact ⟨0, 0, rfl, rfl, by omega, by omega, fun _ => ⟨by omega, by simp⟩, Lib.hid (Ext.refl _)⟩
  case round =>
    obtain ⟨s, i, rfl, rfl, hm, hs, HR, HX⟩ := hrel
    by_cases hlt : i < L.length
    · have d : decide ((i : Int) < (L.length : Int)) = true := decide_eq_true (by omega)
      have dn : decide (i < L.length) = true := decide_eq_true hlt
      by_cases hs1 : s ≤ 100000
      · have t : decide ((s : Int) ≤ 100000) = true := decide_eq_true (by omega)
        have tn : decide (s ≤ 100000) = true := decide_eq_true hs1
        obtain ⟨b, o, hA⟩ := HE.out.base (by omega)
        subst hA
        obtain ⟨p, hp⟩ : ∃ p, L[i]? = some p := ⟨_, List.getElem?_eq_getElem hlt⟩
        obtain ⟨c0, c1, c2, c3⟩ := (HE.out.below HX.out HHI.out).get hp
        have HP := Lib.hid hp
        have HLP := Lib.hid (HLN.out p (List.mem_of_getElem? hp))
        have n1 : (0 : Int) ≤ (i : Int) := by omega
        have n2 : (i : Int) < (L.length : Int) := by omega
        obtain ⟨x, hx⟩ : ∃ x, x = min p.1.key.length 100001 := ⟨_, rfl⟩
        obtain ⟨y, hy⟩ : ∃ y, y = min p.1.val.length 100001 := ⟨_, rfl⟩
        have HMX : Hid ((min (p.1.key.length : Int) 100001) = (x : Int)) := by unfold Hid; omega
        have HMY : Hid ((min (p.1.val.length : Int) 100001) = (y : Int)) := by unfold Hid; omega
        have HXY := Lib.hid (And.intro hx hy)
        have HS1 := Lib.hid hs1
        clear hp c1 c2 hx hy
        go_upto_region 5 with (fail)
        refine flow (by kernel_rfl) [Is (.int .i64 (s : Int)), Is (.int .i64 ((s : Int) + 1)), Is (.slice (some ⟨b, o, none⟩) L.length c), Is (.int .i64 (i : Int)), Is (.pointer (some ⟨b, o + i * 4, none⟩)), Is (.pointer (some ⟨b, o + i * 4, none⟩)), Is (.slice p.2.kA p.1.key.length p.2.kc), Is (.int .i64 (p.1.key.length : Int)), Is (.int .i64 (100000 : Int)), Is (.int .i64 (100001 : Int)), Is (.int .i64 (x : Int)), Is (.int .i64 ((s : Int) + 1 + (x : Int))), Is (.slice (some ⟨b, o, none⟩) L.length c), Is (.int .i64 (i : Int)), Is (.pointer (some ⟨b, o + i * 4, none⟩)), Is (.pointer (some ⟨b, o + i * 4 + 3, none⟩)), Is (.slice p.2.vA p.1.val.length p.2.vc), Is (.int .i64 (p.1.val.length : Int)), Is (.int .i64 (100000 : Int)), Is (.int .i64 (100001 : Int)), Is (.int .i64 (y : Int)), Is (.int .i64 ((s : Int) + 1 + (x : Int) + (y : Int))), Is (.int .i64 ((s : Int) + 1 + (x : Int) + (y : Int)))] (by kernel_rfl) (by kernel_rfl) ?mono (fun f1 => ?obl) ?fin
        case mono =>
          simp only [List.forall_mem_cons, List.not_mem_nil, false_imp_iff, implies_true, and_true]
          exact ⟨.is _, .is _, .is _, .is _, .is _, .is _, .is _, .is _, .is _, .is _, .is _, .is _, .is _, .is _, .is _, .is _, .is _, .is _, .is _, .is _, .is _, .is _, .is _⟩
        case fin =>
          intro g1 u hu hg
          simp only [puts, Act.put, List.setIfInBounds_toArray, List.set_cons_zero, List.set_cons_succ]
          have h22 : g1 22 = .int .i64 ((s : Int) + 1 + (x : Int) + (y : Int)) := hg 22 (by decide)
          rw [h22]
          have HXU : Hid (Ext w u) := Ext.trans HX.out (Ext.trans (Ext.drew wr) hu)
          have hL := HL.out
          clear h22 hg hu c0 c3
          go_wp2_with fail
          go_roundw
          case rel =>
            have hxy := HXY.out
            have hs1 := HS1.out
            refine ⟨s + 1 + x + y, i + 1, by simp, by go_num, by omega, by omega, Lib.hid fun hle => ?_, HXU⟩
            obtain ⟨h1, h2⟩ := HR.out hs1
            refine ⟨by omega, fun q hq => ?_⟩
            rw [List.take_succ_eq_append_getElem hlt, List.mem_append, List.mem_singleton] at hq
            rcases hq with hq | hq
            · have := h2 q hq; omega
            · have hpe : q = p := by rw [hq]; exact (List.getElem?_eq_some_iff.1 HP.out).2
              subst hpe
              omega
          case measure => simp [intOf]; omega
        case obl =>
          refine ⟨fun u hu hd => ?_, ?_⟩
          · go_simp
            exact ⟨Ext.refl _, rfl⟩
          refine ⟨fun u hu hd => ?_, ?_⟩
          · simp only [Act.put, List.setIfInBounds_toArray, List.set_cons_zero, List.set_cons_succ]
            have e0 : f1 0 = .int .i64 (s : Int) := hd 0 (by kernel_rfl)
            have q : IntKind.i64.wrap ((s : Int) + 1) = (s : Int) + 1 := by rw [IntKind.wrap_i64]; omega
            go_simp
            exact ⟨Ext.refl _, rfl⟩
          refine ⟨fun u hu hd => ?_, ?_⟩
          · simp only [Act.put, List.setIfInBounds_toArray, List.set_cons_zero, List.set_cons_succ]
            go_simp
            exact ⟨Ext.refl _, rfl⟩
          refine ⟨fun u hu hd => ?_, ?_⟩
          · simp only [Act.put, List.setIfInBounds_toArray, List.set_cons_zero, List.set_cons_succ]
            go_simp
            exact ⟨Ext.refl _, rfl⟩
          refine ⟨fun u hu hd => ?_, ?_⟩
          · simp only [Act.put, List.setIfInBounds_toArray, List.set_cons_zero, List.set_cons_succ]
            have e2 : f1 2 = .slice (some ⟨b, o, none⟩) L.length c := hd 2 (by kernel_rfl)
            have e3 : f1 3 = .int .i64 (i : Int) := hd 3 (by kernel_rfl)
            go_simp
            exact ⟨Ext.refl _, rfl⟩
          refine ⟨fun u hu hd => ?_, ?_⟩
          · simp only [Act.put, List.setIfInBounds_toArray, List.set_cons_zero, List.set_cons_succ]
            have e4 : f1 4 = .pointer (some ⟨b, o + i * 4, none⟩) := hd 4 (by kernel_rfl)
            go_simp
            exact ⟨Ext.refl _, rfl⟩
          refine ⟨fun u hu hd => ?_, ?_⟩
          · simp only [Act.put, List.setIfInBounds_toArray, List.set_cons_zero, List.set_cons_succ]
            have e5 : f1 5 = .pointer (some ⟨b, o + i * 4, none⟩) := hd 5 (by kernel_rfl)
            have hu2 := Ext.trans (Ext.drew wr) hu
            have q0 := ext_cell hu2 c0
            go_simp
            exact ⟨Ext.refl _, rfl⟩
          refine ⟨fun u hu hd => ?_, ?_⟩
          · simp only [Act.put, List.setIfInBounds_toArray, List.set_cons_zero, List.set_cons_succ]
            have e6 : f1 6 = .slice p.2.kA p.1.key.length p.2.kc := hd 6 (by kernel_rfl)
            go_simp
            exact ⟨Ext.refl _, rfl⟩
          refine ⟨fun u hu hd => ?_, ?_⟩
          · simp only [Act.put, List.setIfInBounds_toArray, List.set_cons_zero, List.set_cons_succ]
            go_simp
            exact ⟨Ext.refl _, rfl⟩
          refine ⟨fun u hu hd => ?_, ?_⟩
          · simp only [Act.put, List.setIfInBounds_toArray, List.set_cons_zero, List.set_cons_succ]
            have e8 : f1 8 = .int .i64 (100000 : Int) := hd 8 (by kernel_rfl)
            go_simp
            exact ⟨Ext.refl _, rfl⟩
          refine ⟨fun u hu hd => ?_, ?_⟩
          · simp only [Act.put, List.setIfInBounds_toArray, List.set_cons_zero, List.set_cons_succ]
            have e7 : f1 7 = .int .i64 (p.1.key.length : Int) := hd 7 (by kernel_rfl)
            have e9 : f1 9 = .int .i64 (100001 : Int) := hd 9 (by kernel_rfl)
            have q := HMX.out
            go_simp
            exact ⟨Ext.refl _, rfl⟩
          refine ⟨fun u hu hd => ?_, ?_⟩
          · simp only [Act.put, List.setIfInBounds_toArray, List.set_cons_zero, List.set_cons_succ]
            have e1 : f1 1 = .int .i64 ((s : Int) + 1) := hd 1 (by kernel_rfl)
            have e10 : f1 10 = .int .i64 (x : Int) := hd 10 (by kernel_rfl)
            have q1 : x ≤ 100001 ∧ y ≤ 100001 := by have := HXY.out; omega
            have q : IntKind.i64.wrap ((s : Int) + 1 + (x : Int)) = (s : Int) + 1 + (x : Int) := by rw [IntKind.wrap_i64]; omega
            go_simp
            exact ⟨Ext.refl _, rfl⟩
          refine ⟨fun u hu hd => ?_, ?_⟩
          · simp only [Act.put, List.setIfInBounds_toArray, List.set_cons_zero, List.set_cons_succ]
            go_simp
            exact ⟨Ext.refl _, rfl⟩
          refine ⟨fun u hu hd => ?_, ?_⟩
          · simp only [Act.put, List.setIfInBounds_toArray, List.set_cons_zero, List.set_cons_succ]
            go_simp
            exact ⟨Ext.refl _, rfl⟩
          refine ⟨fun u hu hd => ?_, ?_⟩
          · simp only [Act.put, List.setIfInBounds_toArray, List.set_cons_zero, List.set_cons_succ]
            have e12 : f1 12 = .slice (some ⟨b, o, none⟩) L.length c := hd 12 (by kernel_rfl)
            have e13 : f1 13 = .int .i64 (i : Int) := hd 13 (by kernel_rfl)
            go_simp
            exact ⟨Ext.refl _, rfl⟩
          refine ⟨fun u hu hd => ?_, ?_⟩
          · simp only [Act.put, List.setIfInBounds_toArray, List.set_cons_zero, List.set_cons_succ]
            have e14 : f1 14 = .pointer (some ⟨b, o + i * 4, none⟩) := hd 14 (by kernel_rfl)
            go_simp
            exact ⟨Ext.refl _, rfl⟩
          refine ⟨fun u hu hd => ?_, ?_⟩
          · simp only [Act.put, List.setIfInBounds_toArray, List.set_cons_zero, List.set_cons_succ]
            have e15 : f1 15 = .pointer (some ⟨b, o + i * 4 + 3, none⟩) := hd 15 (by kernel_rfl)
            have hu2 := Ext.trans (Ext.drew wr) hu
            have q0 := ext_cell hu2 c3
            go_simp
            exact ⟨Ext.refl _, rfl⟩
          refine ⟨fun u hu hd => ?_, ?_⟩
          · simp only [Act.put, List.setIfInBounds_toArray, List.set_cons_zero, List.set_cons_succ]
            have e16 : f1 16 = .slice p.2.vA p.1.val.length p.2.vc := hd 16 (by kernel_rfl)
            go_simp
            exact ⟨Ext.refl _, rfl⟩
          refine ⟨fun u hu hd => ?_, ?_⟩
          · simp only [Act.put, List.setIfInBounds_toArray, List.set_cons_zero, List.set_cons_succ]
            go_simp
            exact ⟨Ext.refl _, rfl⟩
          refine ⟨fun u hu hd => ?_, ?_⟩
          · simp only [Act.put, List.setIfInBounds_toArray, List.set_cons_zero, List.set_cons_succ]
            have e18 : f1 18 = .int .i64 (100000 : Int) := hd 18 (by kernel_rfl)
            go_simp
            exact ⟨Ext.refl _, rfl⟩
          refine ⟨fun u hu hd => ?_, ?_⟩
          · simp only [Act.put, List.setIfInBounds_toArray, List.set_cons_zero, List.set_cons_succ]
            have e17 : f1 17 = .int .i64 (p.1.val.length : Int) := hd 17 (by kernel_rfl)
            have e19 : f1 19 = .int .i64 (100001 : Int) := hd 19 (by kernel_rfl)
            have q := HMY.out
            go_simp
            exact ⟨Ext.refl _, rfl⟩
          refine ⟨fun u hu hd => ?_, ?_⟩
          · simp only [Act.put, List.setIfInBounds_toArray, List.set_cons_zero, List.set_cons_succ]
            have e11 : f1 11 = .int .i64 ((s : Int) + 1 + (x : Int)) := hd 11 (by kernel_rfl)
            have e20 : f1 20 = .int .i64 (y : Int) := hd 20 (by kernel_rfl)
            have q1 : x ≤ 100001 ∧ y ≤ 100001 := by have := HXY.out; omega
            have q : IntKind.i64.wrap ((s : Int) + 1 + (x : Int) + (y : Int)) = (s : Int) + 1 + (x : Int) + (y : Int) := by rw [IntKind.wrap_i64]; omega
            go_simp
            exact ⟨Ext.refl _, rfl⟩
          refine ⟨fun u hu hd => ?_, ?_⟩
          · simp only [Act.put, List.setIfInBounds_toArray, List.set_cons_zero, List.set_cons_succ]
            have e21 : f1 21 = .int .i64 ((s : Int) + 1 + (x : Int) + (y : Int)) := hd 21 (by kernel_rfl)
            go_simp
            exact ⟨Ext.refl _, rfl⟩
          trivial
      · have t : decide ((s : Int) ≤ 100000) = false := decide_eq_false (by omega)
        have tn : decide (s ≤ 100000) = false := decide_eq_false hs1
        have t2 : decide ((100000 : Int) < (s : Int)) = true := decide_eq_true (by omega)
        have t2n : decide (100000 < s) = true := decide_eq_true (by omega)
        clear hs1 hlt hm hs
        go_wp2_with fail
        go_ret
        exact ⟨true, fun h => (by cases h), rfl, HX.out⟩
    · have d : decide ((i : Int) < (L.length : Int)) = false := decide_eq_false (by omega)
      have dn : decide (i < L.length) = false := decide_eq_false hlt
      have HI : Hid (i = L.length) := by unfold Hid; omega
      by_cases hs1 : s ≤ 100000
      · have t2 : decide ((100000 : Int) < (s : Int)) = false := decide_eq_false (by omega)
        have t2n : decide (100000 < s) = false := decide_eq_false (by omega)
        have HS1 := Lib.hid hs1
        clear hs1 hlt hm hs
        go_wp2_with fail
        go_ret
        refine ⟨false, fun _ => ?_, rfl, HX.out⟩
        obtain ⟨h1, h2⟩ := HR.out HS1.out
        have h3 := HI.out
        have h4 := HS1.out
        rw [h3, List.take_length] at h2
        exact ⟨by omega, fun p hp => by have := h2 p hp; omega⟩
      · have t2 : decide ((100000 : Int) < (s : Int)) = true := decide_eq_true (by omega)
        have t2n : decide (100000 < s) = true := decide_eq_true (by omega)
        clear hs1 hlt hm hs
        go_wp2_with fail
        go_ret
        exact ⟨true, fun h => (by cases h), rfl, HX.out⟩

set_option maxRecDepth 100000 in
set_option maxHeartbeats 4000000 in
theorem rsamelist_any {w : World} {lo hi lo2 hi2 : Nat} {A B : Option Addr} {c c2 : Nat} {L M : List (Ent × Hd)} (h : Es w lo hi A L) (k : Es w lo2 hi2 B M) (hhi : hi ≤ w.heap.size) (hhi2 : hi2 ≤ w.heap.size) (hlen : L.length ≤ 1000000000000) (hlen2 : M.length ≤ 1000000000000) :
    Calls Try.prog 31 #[.slice A L.length c, .slice B M.length c2] w fun x w' => ∃ z : Bool, (z = true ↔ L.map Prod.fst = M.map Prod.fst) ∧ x = .returned (.bool z) ∧ Ext w w' := by
  have HE := Lib.hid h
  have HF := Lib.hid k
  have HHI := Lib.hid (And.intro hhi hhi2)
  have HL := Lib.hid (And.intro hlen hlen2)
  clear h k hhi hhi2 hlen hlen2
  by_cases hne : L.length = M.length
  · have e1 : ((L.length : Int) != (M.length : Int)) = false := by rw [hne]; simp
    have e1n : (L.length != M.length) = false := by rw [hne]; simp
    have HN := Lib.hid hne
    clear hne
    go_enter Try.func31, Try.ntmps31
    go_wp2_with fail
    go_loopw [5] (fun a wr => ∃ i : Nat, a = .int .i64 (i : Int) ∧ i ≤ L.length ∧ Hid ((L.map Prod.fst).take i = (M.map Prod.fst).take i) ∧ Hid (Ext w wr)) (fun a _ => L.length - (intOf a).toNat)
    case atStart => exact ⟨0, rfl, by omega, by simp [Hid], Lib.hid (Ext.refl _)⟩
    case round =>
      obtain ⟨i, rfl, hm, HR, HX⟩ := hrel
      by_cases hlt : i < L.length
      · have d : decide ((i : Int) < (L.length : Int)) = true := decide_eq_true (by omega)
        have dn : decide (i < L.length) = true := decide_eq_true hlt
        have hlt2 : i < M.length := by have := HN.out; omega
        obtain ⟨b, o, hA⟩ := HE.out.base (by omega)
        subst hA
        obtain ⟨b2, o2, hB⟩ := HF.out.base (by omega)
        subst hB
        obtain ⟨p, hp⟩ : ∃ p, L[i]? = some p := ⟨_, List.getElem?_eq_getElem hlt⟩
        obtain ⟨q, hq⟩ : ∃ q, M[i]? = some q := ⟨_, List.getElem?_eq_getElem hlt2⟩
        obtain ⟨c0, c1, c2', c3⟩ := (HE.out.below HX.out HHI.out.1).get hp
        obtain ⟨d0, d1, d2, d3⟩ := (HF.out.below HX.out HHI.out.2).get hq
        have HWW : Hid (∀ u, Ext wr u → Em u lo hi p.1 p.2 ∧ Em u lo2 hi2 q.1 q.2 ∧ hi ≤ u.heap.size ∧ hi2 ≤ u.heap.size) := fun u hu => by
          have hx := Ext.trans HX.out hu
          have hs := hx.size
          exact ⟨(HE.out.below hx HHI.out.1).each p (List.mem_of_getElem? hp), (HF.out.below hx HHI.out.2).each q (List.mem_of_getElem? hq), Nat.le_trans HHI.out.1 hs, Nat.le_trans HHI.out.2 hs⟩
        have HP := Lib.hid (And.intro hp hq)
        obtain ⟨z, hz⟩ : ∃ z : Bool, (z = true ↔ p.1 = q.1) := by
          by_cases e : p.1 = q.1
          · exact ⟨true, by simp [e]⟩
          · exact ⟨false, by simp [e]⟩
        have HZ := Lib.hid hz
        have n1 : (0 : Int) ≤ (i : Int) := by omega
        have n2 : (i : Int) < (L.length : Int) := by omega
        have n3 : (i : Int) < (M.length : Int) := by omega
        clear hp hq hz
        go_upto_region 6 with (fail)
        refine flow (by kernel_rfl) [Is (.slice (some ⟨b, o, none⟩) L.length c), Is (.int .i64 (i : Int)), Is (.pointer (some ⟨b, o + i * 4, none⟩)), Is (.agg #[.slice p.2.kA p.1.key.length p.2.kc, .int .i64 p.1.seq, .int .i64 p.1.kind, .slice p.2.vA p.1.val.length p.2.vc]), Is (.slice (some ⟨b2, o2, none⟩) M.length c2), Is (.int .i64 (i : Int)), Is (.pointer (some ⟨b2, o2 + i * 4, none⟩)), Is (.agg #[.slice q.2.kA q.1.key.length q.2.kc, .int .i64 q.1.seq, .int .i64 q.1.kind, .slice q.2.vA q.1.val.length q.2.vc]), Is (.bool z), Is (.bool (!z))] (by kernel_rfl) (by kernel_rfl) ?mono (fun f1 => ?obl) ?fin
        case mono =>
          simp only [List.forall_mem_cons, List.not_mem_nil, false_imp_iff, implies_true, and_true]
          exact ⟨.is _, .is _, .is _, .is _, .is _, .is _, .is _, .is _, .is _, .is _⟩
        case fin =>
          intro g1 u hu hg
          simp only [puts, Act.put, List.setIfInBounds_toArray, List.set_cons_zero, List.set_cons_succ]
          have h9 : g1 9 = .bool (!z) := hg 9 (by decide)
          rw [h9]
          have HXU : Hid (Ext w u) := Ext.trans HX.out (Ext.trans (Ext.drew wr) hu)
          clear h9 hg hu c0 c1 c2' c3 d0 d1 d2 d3
          have hL := HL.out.1
          cases z with
          | false =>
            go_wp2_with fail
            go_ret
            refine ⟨false, ⟨fun h => (by cases h), fun h => ?_⟩, rfl, HXU.out⟩
            have h1 := congrArg (fun l => l[i]?) h
            simp only [List.getElem?_map, HP.out.1, HP.out.2, Option.map_some, Option.some.injEq] at h1
            exact (HZ.out.2 h1)
          | true =>
            go_wp2_with fail
            go_roundw
            case rel => exact ⟨i + 1, by go_num, by omega, Lib.hid (by
              have e1 : i < (L.map Prod.fst).length := by rw [List.length_map]; omega
              have e2 : i < (M.map Prod.fst).length := by rw [List.length_map]; omega
              rw [List.take_succ_eq_append_getElem e1, List.take_succ_eq_append_getElem e2, HR.out]
              have h1 := (List.getElem?_eq_some_iff.1 HP.out.1).2
              have h2 := (List.getElem?_eq_some_iff.1 HP.out.2).2
              simp only [List.getElem_map, h1, h2, HZ.out.1 rfl]), HXU⟩
            case measure => simp [intOf]; omega
        case obl =>
          refine ⟨fun u hu hd => ?_, ?_⟩
          · go_simp
            exact ⟨Ext.refl _, rfl⟩
          refine ⟨fun u hu hd => ?_, ?_⟩
          · simp only [Act.put, List.setIfInBounds_toArray, List.set_cons_zero, List.set_cons_succ]
            go_simp
            exact ⟨Ext.refl _, rfl⟩
          refine ⟨fun u hu hd => ?_, ?_⟩
          · simp only [Act.put, List.setIfInBounds_toArray, List.set_cons_zero, List.set_cons_succ]
            have e0 : f1 0 = .slice (some ⟨b, o, none⟩) L.length c := hd 0 (by kernel_rfl)
            have e1 : f1 1 = .int .i64 (i : Int) := hd 1 (by kernel_rfl)
            go_simp
            exact ⟨Ext.refl _, rfl⟩
          refine ⟨fun u hu hd => ?_, ?_⟩
          · simp only [Act.put, List.setIfInBounds_toArray, List.set_cons_zero, List.set_cons_succ]
            have e2 : f1 2 = .pointer (some ⟨b, o + i * 4, none⟩) := hd 2 (by kernel_rfl)
            have hu2 := Ext.trans (Ext.drew wr) hu
            have q0 := ext_cell hu2 c0
            have q1 := ext_cell hu2 c1
            have q2 := ext_cell hu2 c2'
            have q3 := ext_cell hu2 c3
            go_simp
            exact ⟨Ext.refl _, rfl⟩
          refine ⟨fun u hu hd => ?_, ?_⟩
          · simp only [Act.put, List.setIfInBounds_toArray, List.set_cons_zero, List.set_cons_succ]
            go_simp
            exact ⟨Ext.refl _, rfl⟩
          refine ⟨fun u hu hd => ?_, ?_⟩
          · simp only [Act.put, List.setIfInBounds_toArray, List.set_cons_zero, List.set_cons_succ]
            go_simp
            exact ⟨Ext.refl _, rfl⟩
          refine ⟨fun u hu hd => ?_, ?_⟩
          · simp only [Act.put, List.setIfInBounds_toArray, List.set_cons_zero, List.set_cons_succ]
            have e4 : f1 4 = .slice (some ⟨b2, o2, none⟩) M.length c2 := hd 4 (by kernel_rfl)
            have e5 : f1 5 = .int .i64 (i : Int) := hd 5 (by kernel_rfl)
            go_simp
            exact ⟨Ext.refl _, rfl⟩
          refine ⟨fun u hu hd => ?_, ?_⟩
          · simp only [Act.put, List.setIfInBounds_toArray, List.set_cons_zero, List.set_cons_succ]
            have e6 : f1 6 = .pointer (some ⟨b2, o2 + i * 4, none⟩) := hd 6 (by kernel_rfl)
            have hu2 := Ext.trans (Ext.drew wr) hu
            have q0 := ext_cell hu2 d0
            have q1 := ext_cell hu2 d1
            have q2 := ext_cell hu2 d2
            have q3 := ext_cell hu2 d3
            go_simp
            exact ⟨Ext.refl _, rfl⟩
          refine ⟨fun u hu hd => ?_, ?_⟩
          · simp only [Act.put, List.setIfInBounds_toArray, List.set_cons_zero, List.set_cons_succ]
            have e3 : f1 3 = .agg #[.slice p.2.kA p.1.key.length p.2.kc, .int .i64 p.1.seq, .int .i64 p.1.kind, .slice p.2.vA p.1.val.length p.2.vc] := hd 3 (by kernel_rfl)
            have e7 : f1 7 = .agg #[.slice q.2.kA q.1.key.length q.2.kc, .int .i64 q.1.seq, .int .i64 q.1.kind, .slice q.2.vA q.1.val.length q.2.vc] := hd 7 (by kernel_rfl)
            have hu2 := Ext.trans (Ext.drew wr) hu
            obtain ⟨m1, m2, m3, m4⟩ := HWW.out u hu2
            go_simp
            refine (rsame_any m1 m2 m3 m4).mono ?_
            rintro x w9 ⟨z', hz', rfl, hx9⟩
            have : z' = z := by rw [Bool.eq_iff_iff, hz', HZ.out]
            subst this
            exact ⟨_, rfl, hx9, rfl⟩
          refine ⟨fun u hu hd => ?_, ?_⟩
          · simp only [Act.put, List.setIfInBounds_toArray, List.set_cons_zero, List.set_cons_succ]
            have e8 : f1 8 = .bool z := hd 8 (by kernel_rfl)
            go_simp
            exact ⟨Ext.refl _, rfl⟩
          trivial
      · have d : decide ((i : Int) < (L.length : Int)) = false := decide_eq_false (by omega)
        have dn : decide (i < L.length) = false := decide_eq_false hlt
        have HM : Hid (L.map Prod.fst = M.map Prod.fst) := by
          have h := HR.out
          rw [List.take_of_length_le (by rw [List.length_map]; omega), List.take_of_length_le (by rw [List.length_map, ← HN.out]; omega)] at h
          exact h
        clear hlt hm
        go_wp2_with fail
        go_ret
        exact ⟨true, ⟨fun _ => HM.out, fun _ => rfl⟩, rfl, HX.out⟩
  · have e1 : ((L.length : Int) != (M.length : Int)) = true := by simp; omega
    have e1n : (L.length != M.length) = true := by simpa using hne
    have HN := Lib.hid hne
    clear hne
    go_enter Try.func31, Try.ntmps31
    go_wp2_with fail
    go_ret
    exact ⟨false, ⟨fun h => (by cases h), fun h => absurd (by have := congrArg List.length h; simpa using this) HN.out⟩, rfl, Ext.refl _⟩
end Go.Proofs.Ytgflhbpmkcggnaa

/- The reference: an entry's bytes. -/
namespace Go.Proofs.Ytgflhbpmkcggnaa
open Go.ChangeShapes Go.WideShapes Go.ChangeAt Go.RowKit

set_option maxRecDepth 100000 in
set_option maxHeartbeats 4000000 in
theorem rform_any {w : World} {lo hi : Nat} {e : Ent} {g : Hd} (hm : Em w lo hi e g) (hhi : hi ≤ w.heap.size) (hmay : e.may = true) : Calls Try.prog 57 #[e.at_ g] w fun x w' => ∃ A c, x = .returned (.slice A e.form.length c) ∧ Own w.heap.size e.form (.slice A e.form.length c) w' ∧ Ext w w' := by
  obtain ⟨w1, hw1⟩ : ∃ w1, w1 = w.alloc (.cells #[.slice g.kA e.key.length g.kc, .int .i64 e.seq, .int .i64 e.kind, .slice g.vA e.val.length g.vc] 48) := ⟨_, rfl⟩
  have HX : Hid (Ext w w1) := by rw [hw1]; exact ext_alloc _ _
  have HBX : Hid (w1.heap[w.heap.size]? = some (.cells #[.slice g.kA e.key.length g.kc, .int .i64 e.seq, .int .i64 e.kind, .slice g.vA e.val.length g.vc] 48 (0, 0))) := by rw [hw1]; exact heap_at _ _ rfl
  have HM := Lib.hid hm
  have HHI := Lib.hid hhi
  have HU := Lib.hid (Ent.may_u64 hmay)
  obtain ⟨_, hkn, hs1, hs2, hd⟩ := mayN_iff.1 hmay
  obtain ⟨n, hn⟩ : ∃ n : Nat, e.seq = (n : Int) := ⟨e.seq.toNat, by omega⟩
  obtain ⟨d, hdn⟩ : ∃ d : Nat, e.kind = (d : Int) := ⟨e.kind.toNat, by omega⟩
  have hn64 : U64 n := ⟨by omega⟩
  have hd64 : U64 d := ⟨by omega⟩
  have q1 : IntKind.u64.wrap (n : Int) = (n : Int) := by rw [IntKind.wrap_u64]; omega
  have q2 : IntKind.u64.wrap (d : Int) = (d : Int) := by rw [IntKind.wrap_u64]; omega
  have hform : e.form = ((bytesForm e.key ++ form n) ++ form d) ++ (if d = 1 then bytesForm e.val else []) := by
    unfold Ent.form
    rw [hn, hdn]
    have : ((d : Int) = 1) ↔ d = 1 := by omega
    by_cases h : d = 1 <;> simp [this, h]
  obtain ⟨F2, hF2⟩ : ∃ F, F = bytesForm e.key ++ form n := ⟨_, rfl⟩
  obtain ⟨F3, hF3⟩ : ∃ F, F = F2 ++ form d := ⟨_, rfl⟩
  rw [← hF2, ← hF3] at hform
  have HF2 := Lib.hid hF2
  have HF3 := Lib.hid hF3
  have hl1 : (bytesForm e.key).length ≤ 42 := by have := (bytesForm_len HU.out.1).1; omega
  have hl2 := form_len64 hn64
  have hl3 := form_len64 hd64
  have hkl : e.key.length ≤ 1000000000000 := by omega
  have hvl : e.val.length ≤ 65536 := by omega
  have hd12 : d = 1 ∨ d = 2 := by omega
  have HVL := Lib.hid hvl
  have HN := Lib.hid hn64
  have HD := Lib.hid hd64
  have HF := Lib.hid hform
  have HKL := Lib.hid hkl
  have HLL := Lib.hid (And.intro hl1 (And.intro hl2 hl3))
  have HFL : Hid (F2.length ≤ 52 ∧ F3.length ≤ 62) := by
    have e2 := congrArg List.length hF2
    have e3 := congrArg List.length hF3
    rw [List.length_append] at e2 e3
    unfold Hid; omega
  clear hF2 hF3 hm hhi hmay hn64 hd64 hform hkl hvl hkn hs1 hs2 hd hl1 hl2 hl3
  unfold Ent.at_
  rw [hn, hdn] at hw1 HBX
  have c0 := cell_of HBX.out (k := 0) rfl
  have c1 := cell_of HBX.out (k := 1) rfl
  have c2 := cell_of HBX.out (k := 2) rfl
  have c3 := cell_of HBX.out (k := 3) rfl
  rw [hn, hdn]
  clear hn hdn
  go_enter Try.func57, Try.ntmps57
  go_upto_region 1 with (fail)
  rw [← hw1]
  clear hw1
  refine flow_tail (by kernel_rfl) [Is (.pointer (some ⟨w.heap.size, 0, none⟩)), Is (.slice g.kA e.key.length g.kc), Own w1.heap.size (bytesForm e.key), Is (.pointer (some ⟨w.heap.size, 1, none⟩)), Is (.int .i64 (n : Int)), Is (.int .u64 (n : Int)), Own w1.heap.size (form n)] 7 (by kernel_rfl) (by kernel_rfl) (by kernel_rfl) (by kernel_rfl) ?mono (fun f1 => ?obl) ?fin
  case mono =>
    simp only [List.forall_mem_cons, List.not_mem_nil, false_imp_iff, implies_true, and_true]
    exact ⟨.is _, .is _, .own _ _, .is _, .is _, .is _, .own _ _⟩
  case fin =>
    intro g1 u hu hg
    simp only [List.take_succ_cons, List.take_zero, List.drop_succ_cons, List.drop_zero, puts, Act.put, List.setIfInBounds_toArray, List.set_cons_zero, List.set_cons_succ]
    have h2 : Own w1.heap.size (bytesForm e.key) (g1 2) u := hg 2 (by decide)
    have h6 : Own w1.heap.size (form n) (g1 6) u := hg 6 (by decide)
    have HU1 := Lib.hid (Ext.trans (Ext.drew w1) hu)
    have H2 := Lib.hid h2
    have H6 := Lib.hid h6
    obtain ⟨v6, e6⟩ : ∃ v, v = g1 6 := ⟨_, rfl⟩
    obtain ⟨v2, e2⟩ : ∃ v, v = g1 2 := ⟨_, rfl⟩
    rw [← e2] at h2 H2 ⊢
    rw [← e6] at h6 H6 ⊢
    obtain ⟨A6, c6, rfl⟩ := h6.slice
    obtain ⟨A2, c2', rfl⟩ := h2.slice
    clear h2 h6 e2 e6 hg hu c0 c1 c2 c3
    refine wpList_addbytes rfl (.tmp 6) (.tmp 10) rfl w1.heap.size _ _ rfl H2.out _ _ _ _ rfl H6.out.bs (by have := HLL.out; omega) HU1.out.size ?_
    intro A7 c7 w3 ho hb
    rw [← HF2.out] at ho ⊢
    have HO3 := Lib.hid ho
    have HX3 : Hid (Below w1.heap.size w1 w3) := hb w1 HU1.out
    have b2 := (HX3.out.cell (p := ⟨w.heap.size, 2, none⟩) (World.block_lt_of_cell? w1 _ (cell_of HBX.out (k := 2) rfl))).trans (cell_of HBX.out (k := 2) rfl)
    clear ho hb
    go_wp2_with fail
    refine (rnumber_any d HD.out w3).mono ?_
    rintro x w4 ⟨v4, rfl, hown, hb4⟩
    have HX4 : Hid (Below w1.heap.size w1 w4) := HX3.out.trans (hb4.mono HX3.out.size)
    have HO4 := Lib.hid (HO3.out.below hb4)
    have HN4 : Hid (Own w3.heap.size (form d) v4 w4) := hown
    obtain ⟨A4, c4, rfl⟩ := HN4.out.slice
    clear hown hb4 b2
    go_wp2_with (at_builtin; refine wpList_addbytes rfl (.tmp 12) (.tmp 16) rfl w1.heap.size _ _ rfl HO4.out _ _ _ _ rfl HN4.out.bs (by have := HLL.out; have := HFL.out; omega) HX4.out.size ?_)
    intro A8 c8 w5 ho hb
    rw [← HF3.out] at ho
    have hfl : F2.length + (form d).length = F3.length := by rw [HF3.out, List.length_append]
    rw [hfl] at ho ⊢
    clear hfl
    have HO5 := Lib.hid ho
    have HX5 : Hid (Below w1.heap.size w1 w5) := hb w1 HX4.out
    have b2 := (HX5.out.cell (p := ⟨w.heap.size, 2, none⟩) (World.block_lt_of_cell? w1 _ (cell_of HBX.out (k := 2) rfl))).trans (cell_of HBX.out (k := 2) rfl)
    have b3 := (HX5.out.cell (p := ⟨w.heap.size, 3, none⟩) (World.block_lt_of_cell? w1 _ (cell_of HBX.out (k := 3) rfl))).trans (cell_of HBX.out (k := 3) rfl)
    have HXW : Hid (Ext w w5) := Ext.trans HX.out HX5.out
    clear ho hb
    rcases hd12 with rfl | rfl
    · rw [if_pos rfl] at HF
      have b2 : w5.cell? ⟨w.heap.size, 2, none⟩ = some (.int .i64 1) := b2
      go_wp2_with fail
      refine (rbytes_any _ lo hi e.val _ (HM.out.v.below HXW.out HHI.out) (Nat.le_trans HHI.out HXW.out.size) (Nat.le_trans HVL.out (by decide))).mono ?_
      rintro x w6 ⟨v6, rfl, hown, hb6⟩
      have HX6 : Hid (Below w1.heap.size w1 w6) := HX5.out.trans (hb6.mono HX5.out.size)
      have HV6 : Hid (Own w5.heap.size (bytesForm e.val) v6 w6) := hown
      have HO6 := Lib.hid (HO5.out.below hb6)
      have HL4 : Hid ((bytesForm e.val).length ≤ 65546) := by have := (bytesForm_len HU.out.2.2.2).1; have := HVL.out; unfold Hid; omega
      obtain ⟨A6', c6', rfl⟩ := HV6.out.slice
      clear hown hb6 b2 b3
      go_wp2_with (at_builtin; refine wpList_addbytes rfl (.tmp 21) (.tmp 24) rfl w1.heap.size _ _ rfl HO6.out _ _ _ _ rfl HV6.out.bs (by have := HFL.out; have := HL4.out; omega) HX6.out.size ?_)
      intro A9 c9 w7 ho hb
      have HX7 : Hid (Ext w w7) := Ext.trans HX.out (hb w1 HX6.out)
      rw [← HF.out] at ho
      have hfl : F3.length + (bytesForm e.val).length = e.form.length := by rw [HF.out, List.length_append]
      rw [hfl] at ho ⊢
      clear hfl
      have HO7 := Lib.hid (ho.base HX.out.size)
      clear ho hb
      go_wp2_with fail
      go_ret
      exact ⟨_, _, rfl, HO7.out, HX7.out⟩
    · rw [if_neg (by decide), List.append_nil] at HF
      have b2 : w5.cell? ⟨w.heap.size, 2, none⟩ = some (.int .i64 2) := b2
      rw [← HF.out] at HO5 ⊢
      have HO7 := Lib.hid (HO5.out.base HX.out.size)
      go_wp2_with fail
      go_ret
      exact ⟨_, _, rfl, HO7.out, HXW.out⟩
  case obl =>
    refine ⟨fun u hu hd => ?_, ?_⟩
    · go_simp
      exact ⟨Ext.refl _, rfl⟩
    refine ⟨fun u hu hd => ?_, ?_⟩
    · simp only [Act.put, List.setIfInBounds_toArray, List.set_cons_zero, List.set_cons_succ]
      have e0 : f1 0 = .pointer (some ⟨w.heap.size, 0, none⟩) := hd 0 (by kernel_rfl)
      have hu2 := Ext.trans (Ext.drew w1) hu
      have q0 := ext_cell hu2 c0
      go_simp
      exact ⟨Ext.refl _, rfl⟩
    refine ⟨fun u hu hd => ?_, ?_⟩
    · simp only [Act.put, List.setIfInBounds_toArray, List.set_cons_zero, List.set_cons_succ]
      have e1 : f1 1 = .slice g.kA e.key.length g.kc := hd 1 (by kernel_rfl)
      have hu2 := Ext.trans (Ext.drew w1) hu
      go_simp
      refine (rbytes_any _ lo hi e.key u (HM.out.k.below (Ext.trans HX.out hu2) HHI.out) (Nat.le_trans HHI.out (Ext.trans HX.out hu2).size) HKL.out).mono ?_
      rintro x w9 ⟨v, rfl, hown, hb9⟩
      exact ⟨v, rfl, hb9, ownsRow_base hown hu2.size⟩
    refine ⟨fun u hu hd => ?_, ?_⟩
    · simp only [Act.put, List.setIfInBounds_toArray, List.set_cons_zero, List.set_cons_succ]
      go_simp
      exact ⟨Ext.refl _, rfl⟩
    refine ⟨fun u hu hd => ?_, ?_⟩
    · simp only [Act.put, List.setIfInBounds_toArray, List.set_cons_zero, List.set_cons_succ]
      have e3 : f1 3 = .pointer (some ⟨w.heap.size, 1, none⟩) := hd 3 (by kernel_rfl)
      have hu2 := Ext.trans (Ext.drew w1) hu
      have q0 := ext_cell hu2 c1
      go_simp
      exact ⟨Ext.refl _, rfl⟩
    refine ⟨fun u hu hd => ?_, ?_⟩
    · simp only [Act.put, List.setIfInBounds_toArray, List.set_cons_zero, List.set_cons_succ]
      have e4 : f1 4 = .int .i64 (n : Int) := hd 4 (by kernel_rfl)
      go_simp
      exact ⟨Ext.refl _, rfl⟩
    refine ⟨fun u hu hd => ?_, ?_⟩
    · simp only [Act.put, List.setIfInBounds_toArray, List.set_cons_zero, List.set_cons_succ]
      have e5 : f1 5 = .int .u64 (n : Int) := hd 5 (by kernel_rfl)
      have hu2 := Ext.trans (Ext.drew w1) hu
      go_simp
      refine (rnumber_any n HN.out u).mono ?_
      rintro x w9 ⟨v, rfl, hown, hb9⟩
      exact ⟨v, rfl, hb9, ownsRow_base hown hu2.size⟩
    trivial
end Go.Proofs.Ytgflhbpmkcggnaa

/- The bytes of a list of entries: ikey's List, and the reference's. -/
namespace Go.Proofs.Ytgflhbpmkcggnaa
open Go.ChangeShapes Go.WideShapes Go.ChangeAt Go.RowKit

/-- The bytes of entries, one behind the other, each told how long. -/
def lf (es : List Ent) : List Nat := (es.map fun e => bytesForm e.form).flatten
/-- A list's bytes. -/
def lform (es : List Ent) : List Nat := form es.length ++ lf es
/-- What stands ahead of the k-th. -/
def lpre (es : List Ent) (k : Nat) : List Nat := form es.length ++ lf (es.take k)
theorem lpre_zero (es : List Ent) : lpre es 0 = form es.length := by simp [lpre, lf]
theorem lpre_all (es : List Ent) : lpre es es.length = lform es := by simp [lpre, lform]
theorem lpre_succ {es : List Ent} {k : Nat} {e : Ent} (h : es[k]? = some e) : lpre es (k + 1) = lpre es k ++ bytesForm e.form := by
  obtain ⟨hlt, rfl⟩ := List.getElem?_eq_some_iff.1 h
  unfold lpre lf
  rw [List.take_succ_eq_append_getElem hlt, List.map_append, List.flatten_append, List.append_assoc]
  simp
theorem bytesForm_le {l : List Nat} (h : l.length ≤ 65700) : (bytesForm l).length ≤ 65710 := by
  have := (bytesForm_len (l := l) ⟨by omega⟩).1; omega
theorem lpre_len {es : List Ent} (hm : ∀ e ∈ es, e.may = true) (hl : es.length ≤ 10000000) : ∀ k, k ≤ es.length → (lpre es k).length ≤ 10 + 65710 * k
  | 0, _ => by rw [lpre_zero]; have := form_len64 (n := es.length) ⟨by omega⟩; omega
  | k + 1, h => by
    have h1 := lpre_len hm hl k (by omega)
    have hk : es[k]? = some es[k] := List.getElem?_eq_getElem (by omega)
    have h2 := bytesForm_le (Ent.form_len (hm es[k] (List.getElem_mem (by omega))))
    rw [lpre_succ hk, List.length_append]; omega

set_option maxRecDepth 100000 in
set_option maxHeartbeats 2000000 in
/-- One of a list's. -/
theorem list1_any {w : World} {lo hi : Nat} {e : Ent} {g : Hd} (hm : Em w lo hi e g) (hhi : hi ≤ w.heap.size) (hmay : e.may = true) :
    Calls Try.prog 79 #[e.at_ g] w (NewBy w (bytesForm e.form)) := by
  obtain ⟨w1, hw1⟩ : ∃ w1, w1 = w.alloc (.cells #[.slice g.kA e.key.length g.kc, .int .i64 e.seq, .int .i64 e.kind, .slice g.vA e.val.length g.vc] 48) := ⟨_, rfl⟩
  have HX : Hid (Ext w w1) := by rw [hw1]; exact ext_alloc _ _
  have HBX : Hid (w1.heap[w.heap.size]? = some (.cells #[.slice g.kA e.key.length g.kc, .int .i64 e.seq, .int .i64 e.kind, .slice g.vA e.val.length g.vc] 48 (0, 0))) := by rw [hw1]; exact heap_at _ _ rfl
  have HBY := Lib.hid (ebytes_any (hm.below HX.out hhi) (Nat.le_trans hhi HX.out.size))
  have HMAY := Lib.hid hmay
  clear hm hhi hmay
  have c0 := cell_of HBX.out (k := 0) rfl
  have c1 := cell_of HBX.out (k := 1) rfl
  have c2 := cell_of HBX.out (k := 2) rfl
  have c3 := cell_of HBX.out (k := 3) rfl
  unfold Ent.at_ at HBY ⊢
  go_enter Try.func79, Try.ntmps79
  go_wp2_with fail
  rw [← hw1]
  clear hw1
  refine HBY.out.mono ?_
  rintro x w2 ⟨hx2, (⟨_, A, c, rfl, ho⟩ | ⟨hno, _⟩)⟩
  · have HX2 : Hid (Ext w w2) := Ext.trans HX.out hx2
    have HB := Lib.hid (bytes_any (.slice A e.form.length c) 0 w2.heap.size e.form w2 ho.bs (Nat.le_refl _) (by have := Ent.form_len HMAY.out; omega))
    clear hx2 ho c0 c1 c2 c3
    go_wp2_with fail
    refine HB.out.mono ?_
    rintro x w3 ⟨v, rfl, hown, hx3⟩
    have HX3 : Hid (Ext w w3) := Ext.trans HX2.out hx3
    have HO : Hid (Own w.heap.size (bytesForm e.form) v w3) := ownsRow_base hown HX2.out.size
    clear hx3 hown
    go_wp2_with fail
    go_ret
    exact ⟨_, rfl, HO.out, HX3.out⟩
  · rw [HMAY.out] at hno; cases hno

theorem put_nil (w : World) : (binOp .eql 89 (.func (.func 79) #[] #[]) .nilFunc).run Try.prog w = .ok (.bool false) w := by kernel_rfl
theorem enters_list1 : ∀ args w, (callFunc 79 args).run Try.prog w = .ok (.enter 79 args) w := enters_of Try.func79 (by kernel_rfl) rfl

set_option maxRecDepth 100000 in
set_option maxHeartbeats 4000000 in
theorem puts_any {w : World} {lo hi : Nat} {A : Option Addr} {c : Nat} {L : List (Ent × Hd)} (h : Es w lo hi A L) (hhi : hi ≤ w.heap.size) (hlen : L.length ≤ 10000000) (hmay : ∀ e ∈ L.map Prod.fst, e.may = true) :
    Calls Try.prog 78 #[.slice A L.length c, .func (.func 79) #[] #[]] w fun x w' => ∃ v, x = .returned (.tuple #[v, .int .i64 0]) ∧ Own w.heap.size (lform (L.map Prod.fst)) v w' ∧ Ext w w' := by
  have HE := Lib.hid h
  have HHI := Lib.hid hhi
  have HL := Lib.hid hlen
  have HM := Lib.hid hmay
  have h64 : U64 L.length := ⟨by omega⟩
  have hfn := put_nil
  have hw1 : IntKind.u64.wrap (L.length : Int) = (L.length : Int) := by rw [IntKind.wrap_u64]; omega
  obtain ⟨es, hes⟩ : ∃ es, es = L.map Prod.fst := ⟨_, rfl⟩
  have HES := Lib.hid hes
  have HLE : Hid (es.length = L.length) := by rw [hes]; simp [Hid]
  rw [← hes] at HM ⊢
  have HPL := Lib.hid (lpre_len HM.out (by rw [HLE.out]; exact hlen))
  clear h hhi hmay hes
  go_enter Try.func78, Try.ntmps78
  go_wp2_with fail
  refine (number_any _ h64 _).mono ?_
  rintro x w1 ⟨v1, rfl, hown1, hb1⟩
  have HO1 : Hid (Own w.heap.size (lpre es 0) v1 w1) := by rw [lpre_zero, HLE.out]; exact hown1
  have HX1 := Lib.hid hb1
  clear hown1 hb1
  go_wp2_with fail
  go_loopw [6, 8, 17] (fun v _ i wr => ∃ k : Nat, k ≤ L.length ∧ i = .int .i64 (k : Int) ∧ Hid (Own w.heap.size (lpre es k) v wr) ∧ Hid (Ext w wr)) (fun _ _ i _ => L.length - (intOf i).toNat)
  case atStart => exact ⟨0, Nat.zero_le _, rfl, HO1, HX1⟩
  case round =>
    obtain ⟨k, hk, rfl, HO, HX⟩ := hrel
    by_cases hlt : k < L.length
    · have d : decide ((k : Int) < (L.length : Int)) = true := decide_eq_true (by omega)
      have dn : decide (k < L.length) = true := decide_eq_true hlt
      obtain ⟨b, o, hA⟩ := HE.out.base (by omega)
      subst hA
      obtain ⟨p, hp⟩ : ∃ p, L[k]? = some p := ⟨_, List.getElem?_eq_getElem hlt⟩
      obtain ⟨c0, c1, c2, c3⟩ := (HE.out.below HX.out HHI.out).get hp
      have hpe : es[k]? = some p.1 := by rw [HES.out, List.getElem?_map, hp]; rfl
      have HPE := Lib.hid hpe
      have HPM : Hid (p.1.may = true) := HM.out _ (List.mem_of_getElem? hpe)
      have HEM : Hid (Em wr lo hi p.1 p.2) := (HE.out.below HX.out HHI.out).each p (List.mem_of_getElem? hp)
      have n1 : (0 : Int) ≤ (k : Int) := by omega
      have n2 : (k : Int) < (L.length : Int) := by omega
      have hw2 : wrap64 ((k : Int) + 1) = ((k + 1 : Nat) : Int) := by unfold wrap64; omega
      clear hp hpe
      go_upto_region 7 with (fail)
      obtain ⟨w4, hw4⟩ : ∃ w4, w4 = wr.alloc (.cells #[.slice p.2.kA p.1.key.length p.2.kc, .int .i64 p.1.seq, .int .i64 p.1.kind, .slice p.2.vA p.1.val.length p.2.vc] 48) := ⟨_, rfl⟩
      rw [← hw4]
      have HX4 : Hid (Ext wr w4) := by rw [hw4]; exact ext_alloc _ _
      have HB4 : Hid (w4.heap[wr.heap.size]? = some (.cells #[.slice p.2.kA p.1.key.length p.2.kc, .int .i64 p.1.seq, .int .i64 p.1.kind, .slice p.2.vA p.1.val.length p.2.vc] 48 (0, 0))) := by rw [hw4]; exact heap_at _ _ rfl
      have HL1 := Lib.hid (list1_any (HEM.out.below HX4.out (Nat.le_trans HHI.out HX.out.size)) (Nat.le_trans (Nat.le_trans HHI.out HX.out.size) HX4.out.size) HPM.out)
      unfold Ent.at_ at HL1
      have HO4 := Lib.hid (HO.out.below HX4.out)
      clear hw4 c0 c1 c2 c3
      have c0 := cell_of HB4.out (k := 0) rfl
      have c1 := cell_of HB4.out (k := 1) rfl
      have c2 := cell_of HB4.out (k := 2) rfl
      have c3 := cell_of HB4.out (k := 3) rfl
      have hen := enters_list1
      go_wp2_with fail
      refine HL1.out.mono ?_
      rintro x w5 ⟨v5, rfl, hown5, hx5⟩
      have HX5 : Hid (Ext w w5) := Ext.trans HX.out (Ext.trans HX4.out hx5)
      have HO5 := Lib.hid (HO4.out.below hx5)
      have HB5 : Hid (Bs w5 0 w5.heap.size v5 (bytesForm p.1.form)) := Own.bs (show Own w4.heap.size _ v5 w5 from hown5)
      have HLN : Hid ((lpre es k).length + (bytesForm p.1.form).length ≤ 1099511627776) := by
        have h1 := HPL.out k (by rw [HLE.out]; omega)
        have h2 := bytesForm_le (Ent.form_len HPM.out)
        unfold Hid; omega
      clear hown5 hx5 c0 c1 c2 c3 hen
      go_wp2_with (at_builtin; refine wpList_addbytes rfl (.tmp 21) (.tmp 24) rfl w.heap.size _ _ rfl HO5.out _ _ _ _ rfl HB5.out HLN.out HX5.out.size ?_)
      intro A6 c6 w6 ho6 hb6
      rw [← lpre_succ HPE.out] at ho6
      have HX6 : Hid (Ext w w6) := hb6 w HX5.out
      have HO6 := Lib.hid ho6
      clear ho6 hb6
      go_wp2_with fail
      go_roundw
      case rel => exact ⟨k + 1, by omega, by go_num, HO6, HX6⟩
      case measure => simp [intOf]; omega
    · have d : decide ((k : Int) < (L.length : Int)) = false := decide_eq_false (by omega)
      have dn : decide (k < L.length) = false := decide_eq_false hlt
      have HF : Hid (Own w.heap.size (lform es) u6 wr) := by
        have h := HO.out
        have hk2 : k = es.length := by rw [HLE.out]; omega
        rw [hk2, lpre_all] at h
        exact h
      clear hlt hk HO
      go_wp2_with fail
      go_ret2
      exact ⟨u6, rfl, HF.out, HX.out⟩

/-- What List answers. -/
def ListAns (w : World) (es : List Ent) (x : Ending) (w' : World) : Prop :=
  Ext w w' ∧ ((es.length ≤ 65536 ∧ (∀ e ∈ es, e.may = true) ∧ ∃ v, x = .returned (.tuple #[v, .int .i64 0]) ∧ Own w.heap.size (lform es) v w') ∨ (¬ (es.length ≤ 65536 ∧ ∀ e ∈ es, e.may = true) ∧ x = .returned (.tuple #[.slice none 0 0, .int .i64 2])))

set_option maxRecDepth 100000 in
set_option maxHeartbeats 4000000 in
theorem elist_any {w : World} {lo hi : Nat} {A : Option Addr} {c : Nat} {L : List (Ent × Hd)} (h : Es w lo hi A L) (hhi : hi ≤ w.heap.size) (hlen : L.length ≤ 1000000000000) :
    Calls Try.prog 50 #[.slice A L.length c] w (ListAns w (L.map Prod.fst)) := by
  have HA := Lib.hid (allmay_any (c := c) h hhi hlen)
  have HE := Lib.hid h
  have HHI := Lib.hid hhi
  have hall : (L.all fun p => p.1.may) = true ↔ ∀ e ∈ L.map Prod.fst, e.may = true := by
    rw [List.all_eq_true]
    exact ⟨fun h e he => by obtain ⟨p, hp, rfl⟩ := List.mem_map.1 he; exact h p hp, fun h p hp => h _ (List.mem_map_of_mem hp)⟩
  obtain ⟨m, hm⟩ : ∃ m, m = L.all fun p => p.1.may := ⟨_, rfl⟩
  rw [← hm] at HA hall
  have HALL := Lib.hid hall
  clear h hhi hm hall
  by_cases hl : 65536 < L.length
  · have d : decide ((65536 : Int) < (L.length : Int)) = true := decide_eq_true (by omega)
    have dn : decide (65536 < L.length) = true := decide_eq_true hl
    have HN := Lib.hid hl
    clear hl hlen
    go_enter Try.func50, Try.ntmps50
    go_wp2_with fail
    go_ret2
    exact ⟨Ext.refl _, .inr ⟨fun h => (by have h1 := h.1; have h2 := HN.out; rw [List.length_map] at h1; omega), rfl⟩⟩
  · have d : decide ((65536 : Int) < (L.length : Int)) = false := decide_eq_false (by omega)
    have dn : decide (65536 < L.length) = false := decide_eq_false hl
    have HN : Hid (L.length ≤ 65536) := by unfold Hid; omega
    clear hl hlen
    go_enter Try.func50, Try.ntmps50
    go_wp2_with fail
    refine HA.out.mono ?_
    rintro x w2 ⟨rfl, hx2⟩
    have HX2 := Lib.hid hx2
    clear hx2
    cases m with
    | false =>
      go_wp2_with fail
      go_ret2
      exact ⟨HX2.out, .inr ⟨fun h => (by have := HALL.out.2 h.2; cases this), rfl⟩⟩
    | true =>
      have HP := Lib.hid (puts_any (c := c) (HE.out.below HX2.out HHI.out) (Nat.le_trans HHI.out HX2.out.size) (by have := HN.out; omega) (HALL.out.1 (by trivial)))
      go_wp2_with fail
      refine HP.out.mono ?_
      rintro x w3 ⟨v, rfl, hown, hx3⟩
      have HX3 : Hid (Ext w w3) := Ext.trans HX2.out hx3
      have HO : Hid (Own w.heap.size (lform (L.map Prod.fst)) v w3) := hown.base HX2.out.size
      clear hx3 hown
      go_wp2_with fail
      go_ret2
      exact ⟨HX3.out, .inl ⟨by rw [List.length_map]; exact HN.out, HALL.out.1 (by trivial), v, rfl, HO.out⟩⟩

set_option maxRecDepth 100000 in
set_option maxHeartbeats 4000000 in
theorem rlist_any {w : World} {lo hi : Nat} {A : Option Addr} {c : Nat} {L : List (Ent × Hd)} (h : Es w lo hi A L) (hhi : hi ≤ w.heap.size) (hlen : L.length ≤ 10000000) (hmay : ∀ e ∈ L.map Prod.fst, e.may = true) :
    Calls Try.prog 36 #[.slice A L.length c] w fun x w' => ∃ v, x = .returned v ∧ Own w.heap.size (lform (L.map Prod.fst)) v w' ∧ Ext w w' := by
  have HE := Lib.hid h
  have HHI := Lib.hid hhi
  have HL := Lib.hid hlen
  have HM := Lib.hid hmay
  have h64 : U64 L.length := ⟨by omega⟩
  have hw1 : IntKind.u64.wrap (L.length : Int) = (L.length : Int) := by rw [IntKind.wrap_u64]; omega
  obtain ⟨es, hes⟩ : ∃ es, es = L.map Prod.fst := ⟨_, rfl⟩
  have HES := Lib.hid hes
  have HLE : Hid (es.length = L.length) := by rw [hes]; simp [Hid]
  rw [← hes] at HM ⊢
  have HPL := Lib.hid (lpre_len HM.out (by rw [HLE.out]; exact hlen))
  clear h hhi hmay hes
  go_enter Try.func36, Try.ntmps36
  go_wp2_with fail
  refine (rnumber_any _ h64 _).mono ?_
  rintro x w1 ⟨v1, rfl, hown1, hb1⟩
  have HO1 : Hid (Own w.heap.size (lpre es 0) v1 w1) := by rw [lpre_zero, HLE.out]; exact hown1
  have HX1 := Lib.hid hb1
  clear hown1 hb1
  go_wp2_with fail
  go_loopw [3, 4] (fun v i wr => ∃ k : Nat, k ≤ L.length ∧ i = .int .i64 (k : Int) ∧ Hid (Own w.heap.size (lpre es k) v wr) ∧ Hid (Ext w wr)) (fun _ i _ => L.length - (intOf i).toNat)
  case atStart => exact ⟨0, Nat.zero_le _, rfl, HO1, HX1⟩
  case round =>
    obtain ⟨k, hk, rfl, HO, HX⟩ := hrel
    by_cases hlt : k < L.length
    · have d : decide ((k : Int) < (L.length : Int)) = true := decide_eq_true (by omega)
      have dn : decide (k < L.length) = true := decide_eq_true hlt
      obtain ⟨b, o, hA⟩ := HE.out.base (by omega)
      subst hA
      obtain ⟨p, hp⟩ : ∃ p, L[k]? = some p := ⟨_, List.getElem?_eq_getElem hlt⟩
      obtain ⟨c0, c1, c2, c3⟩ := (HE.out.below HX.out HHI.out).get hp
      have hpe : es[k]? = some p.1 := by rw [HES.out, List.getElem?_map, hp]; rfl
      have HPE := Lib.hid hpe
      have HPM : Hid (p.1.may = true) := HM.out _ (List.mem_of_getElem? hpe)
      have HRF := Lib.hid (rform_any ((HE.out.below HX.out HHI.out).each p (List.mem_of_getElem? hp)) (Nat.le_trans HHI.out HX.out.size) HPM.out)
      unfold Ent.at_ at HRF
      have n1 : (0 : Int) ≤ (k : Int) := by omega
      have n2 : (k : Int) < (L.length : Int) := by omega
      clear hp hpe
      go_wp2_with fail
      refine HRF.out.mono ?_
      rintro x w4 ⟨A4, c4, rfl, ho4, hx4⟩
      have HX4 : Hid (Ext w w4) := Ext.trans HX.out hx4
      have HO4 := Lib.hid (HO.out.below hx4)
      have HRB := Lib.hid (rbytes_any (.slice A4 p.1.form.length c4) 0 w4.heap.size p.1.form w4 ho4.bs (Nat.le_refl _) (by have := Ent.form_len HPM.out; omega))
      clear ho4 hx4 c0 c1 c2 c3
      go_wp2_with fail
      refine HRB.out.mono ?_
      rintro x w5 ⟨v5, rfl, hown5, hx5⟩
      have HX5 : Hid (Ext w w5) := Ext.trans HX4.out hx5
      have HO5 := Lib.hid (HO4.out.below hx5)
      have HB5 : Hid (Bs w5 0 w5.heap.size v5 (bytesForm p.1.form)) := Own.bs (show Own w4.heap.size _ v5 w5 from hown5)
      have HLN : Hid ((lpre es k).length + (bytesForm p.1.form).length ≤ 1099511627776) := by
        have h1 := HPL.out k (by rw [HLE.out]; omega)
        have h2 := bytesForm_le (Ent.form_len HPM.out)
        unfold Hid; omega
      clear hown5 hx5
      go_wp2_with (at_builtin; refine wpList_addbytes rfl (.tmp 15) (.tmp 21) rfl w.heap.size _ _ rfl HO5.out _ _ _ _ rfl HB5.out HLN.out HX5.out.size ?_)
      intro A6 c6 w6 ho6 hb6
      have HX6 : Hid (Ext w w6) := hb6 w HX5.out
      have HO6 := Lib.hid ho6
      clear ho6 hb6
      go_wp2_with fail
      go_roundw
      case rel => exact ⟨k + 1, by omega, by go_num, Lib.hid (by have h := HO6.out; rw [lpre_succ HPE.out]; exact h), HX6⟩
      case measure => simp [intOf]; omega
    · have d : decide ((k : Int) < (L.length : Int)) = false := decide_eq_false (by omega)
      have dn : decide (k < L.length) = false := decide_eq_false hlt
      have HF : Hid (Own w.heap.size (lform es) u3 wr) := by
        have h := HO.out
        have hk2 : k = es.length := by rw [HLE.out]; omega
        rw [hk2, lpre_all] at h
        exact h
      clear hlt hk HO
      go_wp2_with fail
      go_ret
      exact ⟨u3, rfl, HF.out, HX.out⟩
end Go.Proofs.Ytgflhbpmkcggnaa
