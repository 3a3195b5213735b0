/- Flowin Ikeys Tailin Ilatest Iseq Iover Ilists Kplain, joined. -/
import Derived.Test.YtddfelahpiokjaaMb3
import Derived.Test.YtddfelahpiokjaaMb2
import Derived.OrdersIn
import Derived.Test.YtddfelahpiokjaaMb4
import Derived.Laws.EntriesVeiled
import Derived.Deep.Slices
import Derived.Deep.DeepCutAuto

/- A region that draws its order, by facts, within a round of a loop over a function. -/
namespace Go.Proofs.Ytddfelahpiokjaa
open Go.RowKit

section
variable {P : Program} {ops : Array Oper} {Q : Exit → Act → World → Prop} {l m : Nat}

theorem op_in {o : Oper} {a : Act} {w : World} {K : Act → World → Prop} (hnd : ∀ c, o.op ≠ .defer c) (h : o.wp P a w K Q) : o.wpIn (Fence.wide.inRound l) m P a w K Q := by
  refine ⟨fun _ _ => trivial, ?_⟩
  rw [show (Fence.wide.inRound l).round = some l from rfl, Oper.semAt_some l a.eval o hnd]
  unfold Oper.wp at h
  generalize (execOp a.eval o).run P w = r at h ⊢
  cases r with
  | ok x w' =>
    cases x with
    | value v => exact h
    | skip => exact h
    | defer d => exact h
    | enter f args => exact ⟨(fun e => (by cases e)), CallsIn.inRound l (callsIn_wide.2 h)⟩
    | row row args =>
      refine ⟨(fun e => (by cases e)), fun c cs _ => ?_⟩
      obtain ⟨v, w2, hr, hs⟩ := h c cs
      exact ⟨v, w2, hr, stepsIn_wide.2 hs⟩
    | _ => exact h.elim
  | halt x w' => cases x <;> first | exact h | exact h.elim

theorem any_in (hnd : ∀ (i : Nat) (o : Oper), ops[i]? = some o → ∀ c, o.op ≠ .defer c) (hQ : ¬ LetsOut Q) : ∀ (n : Nat) (seen : Array Bool) (a : Act) (w : World), wpAny P .any ops Q n seen a w → wpAnyIn (Fence.wide.inRound l) m P .any ops Q n seen a w := by
  intro n
  induction n with
  | zero => intro seen a w h; exact h
  | succ n ih =>
    intro seen a w h
    refine ⟨h.1, fun i hi => ?_⟩
    have h2 := h.2 i hi
    unfold wpOp at h2
    unfold wpOpIn
    cases ho : ops[i]? with
    | none => simp only [ho] at h2 ⊢; exact ih _ _ _ h2
    | some o =>
      simp only [ho] at h2 ⊢
      split
      · rename_i hw
        rw [if_pos hw] at h2
        rcases h2 with h2 | ⟨_, h2⟩
        · exact Oper.wpIn_mono (fun a w h => ih _ a w h) (op_in (hnd i o ho) h2)
        · exact absurd h2 hQ
      · rename_i hw
        rw [if_neg hw] at h2
        exact ⟨fun _ _ => trivial, ih _ _ _ h2⟩

/-- No operation of these is a defer statement. -/
def noDefer (ops : Array Oper) : Bool := ops.all fun o => match o.op with | .defer _ => false | _ => true
theorem noDefer_at (h : noDefer ops = true) (i : Nat) (o : Oper) (ho : ops[i]? = some o) (c : Call) : o.op ≠ .defer c := by
  intro e
  obtain ⟨hi, he⟩ := Array.getElem?_eq_some_iff.1 ho
  have := (Array.all_eq_true.1 h) i hi
  rw [he, e] at this
  cases this

theorem flow_in {a0 : Act} {id : Nat} {w : World} (hm : P.follows .mixedOrders = true) (hnd : noDefer ops = true) (hQ : ∀ a w, ¬ Q .outgrown a w) (φ : List (Value → World → Prop)) (hok : flowOk ops a0.tmps.size = true) (hsel : Region.noSelect ops = true) (hmono : ∀ p ∈ φ, Mono p)
    (hobl : ∀ f, Obls P ops φ w.drew f 0 ops.toList a0)
    (hfin : ∀ (g : Nat → Value) u, Ext w.drew u → (∀ j, j < ops.size → fact φ j (g j) u) → Q .normal (puts g 0 ops.toList a0) u) : (Code.region id ops true).wpIn (Fence.wide.inRound l) m P Q a0 w := by
  refine wpIn_region_any hm (any_in (noDefer_at hnd) (fun ⟨a, w, h⟩ => hQ a w h) _ _ _ _ (flow_any hok hsel hmono hobl hfin _ _ _ _ ⟨Ext.refl _, by simp, rfl, rfl, fun _ _ => rfl, fun j oj hj hs => ?_, fun j oj hj hs => ?_⟩ ?_))
  · have hlt := (Array.getElem?_eq_some_iff.1 hj).1
    simp [Array.getD, hlt] at hs
  · have hlt := (Array.getElem?_eq_some_iff.1 hj).1
    simp [Array.getD, hlt] at hs
  · unfold left
    rw [List.countP_eq_length.2]
    · simp
    · intro i hi
      have hlt := List.mem_range.1 hi
      simp [Array.getD, hlt]
end
end Go.Proofs.Ytddfelahpiokjaa

/- Going over the pieces of a row of entries that have one key each. -/
namespace Go.Proofs.Ytddfelahpiokjaa
open Go.RowKit Go.Shelf
attribute [local go_sem] Oper.semAt_some

theorem Em.keep {w w' : World} {lo hi : Nat} {e : Ent} {g : Hd} (m : Em w lo hi e g) (hk : ∀ p : Addr, lo ≤ p.block → p.block < hi → w'.cell? p = w.cell? p) : Em w' lo hi e g := ⟨m.k.of fun _ h => h.keep hk, m.v.of fun _ h => h.keep hk, m.bk, m.bv, m.s1, m.s2, m.d1, m.d2⟩
theorem Es.keep {w w' : World} {lo hi : Nat} {A : Option Addr} {L : List (Ent × Hd)} (h : Es w lo hi A L) (hk : ∀ p : Addr, lo ≤ p.block → p.block < hi → w'.cell? p = w.cell? p) : Es w' lo hi A L := ⟨h.outer.keep hk, fun p hp => (h.each p hp).keep hk⟩
theorem einfo : (Try.prog.info? 37).map (fun i => (i.zero, i.size, i.bytes)) = some (some (.agg #[.slice none 0 0, .int .i64 0, .int .i64 0, .slice none 0 0]), 4, 64) := by kernel_rfl
theorem esize (w : World) : (sizeOf (Try.prog.elem 24)).run Try.prog w = .ok 4 w := by
  obtain ⟨i0, hi, _, hz1, _⟩ := info_parts einfo
  have e : Try.prog.elem 24 = 37 := by kernel_rfl
  rw [e]
  simp [Go.sizeOf, typeInfo, hi, hz1]
/-- A piece of a row of entries. -/
theorem eslice_run (A : Option Addr) (n c k j : Nat) (hkj : k ≤ j) (hjn : j ≤ n) (hc : n ≤ c) (w : World) :
    (Instr.slice 24 (.slice A n c) (some (.int .i64 (k : Int))) (some (.int .i64 (j : Int))) none).run Try.prog w = .ok (.slice (if c = k then A else A.map (·.add (k * 4))) (j - k) (c - k)) w := by
  have he : Try.prog.underlying 24 = some (.slice (Try.prog.elem 24)) := by kernel_rfl
  rw [run_slice_lh w 24 A n c he .i64 .i64 (k : Int) (j : Int) (by omega) (by omega) (by omega), esize w]
  simp [Result.andThen, sliced]
theorem eslice_run0 (A : Option Addr) (n c j : Nat) (hjn : j ≤ n) (hc : n ≤ c) (w : World) :
    (Instr.slice 24 (.slice A n c) none (some (.int .i64 (j : Int))) none).run Try.prog w = .ok (.slice A j c) w := by
  have he : Try.prog.underlying 24 = some (.slice (Try.prog.elem 24)) := by kernel_rfl
  rw [run_slice_h w 24 A n c he .i64 (j : Int) (by omega) (by omega), esize w]
  by_cases h : c = 0
  · subst h; simp [Result.andThen, sliced]
  · have : ¬ c = 0 := h
    cases A <;> simp [Result.andThen, sliced, Addr.add]
theorem erow_drop (L : List (Ent × Hd)) (k : Nat) (hk : k ≤ L.length) : erow (L.drop k) = (erow L).drop (k * 4) := by
  have h := erow_append (L.take k) (L.drop k)
  rw [List.take_append_drop] at h
  have hl : (erow (L.take k)).length = k * 4 := by rw [erow_length, List.length_take, Nat.min_eq_left hk]
  rw [h, ← hl, List.drop_left]
theorem erow_take (L : List (Ent × Hd)) (k : Nat) (hk : k ≤ L.length) : erow (L.take k) = (erow L).take (k * 4) := by
  have h := erow_append (L.take k) (L.drop k)
  rw [List.take_append_drop] at h
  have hl : (erow (L.take k)).length = k * 4 := by rw [erow_length, List.length_take, Nat.min_eq_left hk]
  rw [h, ← hl, List.take_left]
theorem Es.drop {w : World} {lo hi c : Nat} {A : Option Addr} {L : List (Ent × Hd)} (h : Es w lo hi A L) {k : Nat} (hk : k ≤ L.length) (hc : L.length ≤ c) : Es w lo hi (if c = k then A else A.map (·.add (k * 4))) (L.drop k) := by
  refine ⟨?_, fun p hp => h.each p (List.mem_of_mem_drop hp)⟩
  rw [erow_drop L k hk]
  have h2 := Sl.drop (k := k * 4) (cap := c * 4) h.outer (by rw [erow_length]; omega) (by rw [erow_length]; omega)
  by_cases e : c = k
  · rw [if_pos e]; rw [if_pos (by omega)] at h2; exact h2
  · rw [if_neg e]; rw [if_neg (by omega)] at h2; exact h2
theorem Es.take {w : World} {lo hi : Nat} {A : Option Addr} {L : List (Ent × Hd)} (h : Es w lo hi A L) {k : Nat} (hk : k ≤ L.length) : Es w lo hi A (L.take k) := by
  refine ⟨?_, fun p hp => h.each p (List.mem_of_mem_take hp)⟩
  rw [erow_take L k hk]
  exact Sl.take h.outer _

/-- Where the pieces begin and end, from i on, the piece that i is in having begun at f. -/
def cuts (L : List Ent) : Nat → Nat → Nat → List (Nat × Nat)
  | 0, _, _ => []
  | r + 1, f, i => match L[i]?, L[i + 1]? with
    | some a, some b => if a.key = b.key then cuts L r f (i + 1) else (f, i + 1) :: cuts L r (i + 1) (i + 1)
    | _, _ => (f, i + 1) :: cuts L r (i + 1) (i + 1)

theorem cuts_same {L : List Ent} {i f : Nat} {a b : Ent} (hi : i < L.length) (ha : L[i]? = some a) (hb : L[i + 1]? = some b) (h : a.key = b.key) : cuts L (L.length - i) f i = cuts L (L.length - (i + 1)) f (i + 1) := by
  have e : L.length - i = L.length - (i + 1) + 1 := by omega
  rw [e, cuts]
  simp only [ha, hb, h, if_true]
theorem cuts_other {L : List Ent} {i f : Nat} {a : Ent} (hi : i < L.length) (ha : L[i]? = some a) (h : ∀ b, L[i + 1]? = some b → a.key ≠ b.key) : cuts L (L.length - i) f i = (f, i + 1) :: cuts L (L.length - (i + 1)) (i + 1) (i + 1) := by
  have e : L.length - i = L.length - (i + 1) + 1 := by omega
  rw [e, cuts]
  cases hb : L[i + 1]? with
  | none => simp only [ha]
  | some b => simp only [ha, if_neg (h b hb)]
theorem drop_cons {α : Type} {l r : List α} {k : Nat} {x : α} (h : l.drop k = x :: r) : k < l.length ∧ l[k]? = some x ∧ l.drop (k + 1) = r := by
  have hk : k < l.length := by
    rcases Nat.lt_or_ge k l.length with h1 | h1
    · exact h1
    · rw [List.drop_of_length_le h1] at h; cases h
  rw [List.drop_eq_getElem_cons hk] at h
  injection h with h1 h2
  exact ⟨hk, by rw [List.getElem?_eq_getElem hk, h1], h2⟩

/-- The blocks that must stay. -/
def Kept (lo hi bd : Nat) (w A : World) : Prop := ∀ k, (lo ≤ k ∧ k < hi ∨ k = bd) → k < w.heap.size → A.heap[k]? = w.heap[k]?
theorem Kept.es {lo hi bd : Nat} {w A : World} {X : Option Addr} {L : List (Ent × Hd)} (h : Kept lo hi bd w A) (hhi : hi ≤ w.heap.size) (hE : Es w lo hi X L) : Es A lo hi X L := hE.keep fun p h1 h2 => World.cell?_of_block (h p.block (.inl ⟨h1, h2⟩) (Nat.lt_of_lt_of_le h2 hhi))
theorem Kept.box {lo hi bd : Nat} {w A : World} {v : Value} (h : Kept lo hi bd w A) (hb : w.cell? ⟨bd, 0, none⟩ = some v) : A.cell? ⟨bd, 0, none⟩ = some v := by
  rw [World.cell?_of_block (w := w) (a := ⟨bd, 0, none⟩) (h bd (.inr rfl) (World.block_lt_of_cell? w _ hb))]; exact hb

/-- The k-th piece, as a value. -/
def PieceOk (L : List (Ent × Hd)) (A : Option Addr) (c : Nat) (_n₁ k : Nat) (x : Option Addr × Nat × Nat) (_w : World) : Prop :=
  ∃ f t, (cuts (L.map Prod.fst) L.length 0 0)[k]? = some (f, t) ∧ f < t ∧ t ≤ L.length ∧ x = ((if c = f then A else A.map (·.add (f * 4))), t - f, c - f)
def pieceV (x : Option Addr × Nat × Nat) : Array Value := #[.slice x.1 x.2.1 x.2.2]

end Go.Proofs.Ytddfelahpiokjaa

/- A region that draws its order, by facts, whose last operations are done one behind the other, within a round of a loop over a function (no function of the program). -/
namespace Go.Proofs.Ytddfelahpiokjaa
open Go.RowKit
theorem flow_tail_in {P : Program} {ops : Array Oper} {Q : Exit → Act → World → Prop} {l n : Nat} {a0 : Act} {id : Nat} {w : World} (hm0 : P.follows .mixedOrders = true) (hnd : noDefer ops = true) (hQ : ∀ a w, ¬ Q .outgrown a w) (φ : List (Value → World → Prop)) (m : Nat) (hok : flowOk ops a0.tmps.size = true) (hsel : Region.noSelect ops = true) (hmn : decide (m ≤ ops.size) = true) (htl : tailOk ops m = true) (hmono : ∀ p ∈ φ, Mono p)
    (hobl : ∀ f, Obls P ops φ w.drew f 0 (ops.toList.take m) a0)
    (hfin : ∀ (g : Nat → Value) u, Ext w.drew u → (∀ j, j < m → fact φ j (g j) u) → wpList P ops Q (ops.toList.drop m) (puts g 0 (ops.toList.take m) a0) u) :
    (Code.region id ops true).wpIn (Fence.wide.inRound l) n P Q a0 w := by
  refine wpIn_region_any hm0 (any_in (noDefer_at hnd) (fun ⟨a, w, h⟩ => hQ a w h) _ _ _ _ (flow_tail_any hok hsel (of_decide_eq_true hmn) htl hmono hobl hfin ops.size _ a0 w.drew inv_start (fun j _ => ?_) left_start))
  rw [Array.getD_eq_getD_getElem?]
  by_cases hj : j < ops.size
  · simp [hj]
  · simp [hj]
end Go.Proofs.Ytddfelahpiokjaa

/- ikey's Latest: what is seen at a number. -/
namespace Go.Proofs.Ytddfelahpiokjaa
open Go.RowKit Go.Shelf
attribute [local go_sem] Oper.semAt_some

/-- Of each piece the first one whose number is at most s. -/
def firsts (L : List Ent) (s : Int) (cs : List (Nat × Nat)) : List Ent := cs.filterMap fun x => ((L.drop x.1).take (x.2 - x.1)).find? fun e => decide (e.seq ≤ s)
theorem firsts_next {L : List Ent} {s : Int} {cs : List (Nat × Nat)} {k f t : Nat} (h : cs[k]? = some (f, t)) : firsts L s (cs.take (k + 1)) = firsts L s (cs.take k) ++ ((((L.drop f).take (t - f)).find? fun e => decide (e.seq ≤ s)).toList) := by
  obtain ⟨hk, he⟩ := List.getElem?_eq_some_iff.1 h
  unfold firsts
  rw [List.take_succ_eq_append_getElem hk, List.filterMap_append, he]
  simp only [List.filterMap_cons, List.filterMap_nil]
  cases ((L.drop f).take (t - f)).find? fun e => decide (e.seq ≤ s) <;> rfl
theorem find_at {α : Type} {q : α → Bool} {x : α} : ∀ {L : List α} {i : Nat}, L[i]? = some x → q x = true → (∀ j y, j < i → L[j]? = some y → q y = false) → L.find? q = some x
  | [], i, h, _, _ => by simp at h
  | a :: l, 0, h, hq, _ => by simp at h; subst h; simp [hq]
  | a :: l, i + 1, h, hq, hno => by
    have h0 := hno 0 a (Nat.succ_pos _) rfl
    rw [List.find?_cons, h0]
    exact find_at (i := i) (by simpa using h) hq (fun j y hj hy => hno (j + 1) y (by omega) (by simpa using hy))
theorem firsts_len (L : List Ent) (s : Int) (cs : List (Nat × Nat)) : (firsts L s cs).length ≤ cs.length := List.length_filterMap_le _ _
theorem cuts_len (L : List Ent) : ∀ (r f i : Nat), (cuts L r f i).length ≤ r := by
  intro r
  induction r with
  | zero => intro f i; simp [cuts]
  | succ r ih =>
    intro f i
    rw [cuts]
    split
    · split
      · exact Nat.le_succ_of_le (ih _ _)
      · simpa using ih _ _
    · simpa using ih _ _
/-- What an entry's parts are bounded by. -/
structure Good (e : Ent) : Prop where
  bk : ∀ x ∈ e.key, x < 256
  bv : ∀ x ∈ e.val, x < 256
  s1 : -9223372036854775808 ≤ e.seq
  s2 : e.seq ≤ 9223372036854775807
  d1 : -9223372036854775808 ≤ e.kind
  d2 : e.kind ≤ 9223372036854775807
theorem Em.good {w : World} {lo hi : Nat} {e : Ent} {g : Hd} (h : Em w lo hi e g) : Good e := ⟨h.bk, h.bv, h.s1, h.s2, h.d1, h.d2⟩
/-- An entry of the call's own. -/
structure Mine (B : Nat) (p : Ent × Hd) (A : World) : Prop where
  k : Own B p.1.key (.slice p.2.kA p.1.key.length p.2.kc) A
  v : Own B p.1.val (.slice p.2.vA p.1.val.length p.2.vc) A
  good : Good p.1
theorem Mine.em {B : Nat} {p : Ent × Hd} {A : World} (h : Mine B p A) : Em A 0 A.heap.size p.1 p.2 := ⟨h.k.bs, h.v.bs, h.good.bk, h.good.bv, h.good.s1, h.good.s2, h.good.d1, h.good.d2⟩
theorem Mine.below {B : Nat} {p : Ent × Hd} {A A' : World} (h : Mine B p A) (hx : Ext A A') : Mine B p A' := ⟨h.k.below hx, h.v.below hx, h.good⟩
theorem Mine.base {B B' : Nat} {p : Ent × Hd} {A : World} (h : Mine B p A) (hB : B' ≤ B) : Mine B' p A := ⟨h.k.base hB, h.v.base hB, h.good⟩
theorem Mine.chg {B : Nat} {p : Ent × Hd} {A A' : World} {S : Nat → Prop} (h : Mine B p A) (hc : Chg S A A') (hS : ∀ k, B ≤ k → ¬ S k) : Mine B p A' := ⟨row_chg h.k hc hS, row_chg h.v hc hS, h.good⟩

/-- A row of entries in a box, each of them of the call's own. -/
structure Seen (B sb : Nat) (R : List (Ent × Hd)) (A : World) : Prop where
  ex : ∃ v, Boxed A sb 24 v ∧ A.ownsRow B 37 4 v R.length (erow R)
  each : ∀ p ∈ R, Mine B p A

theorem rowN_kept {w w' : World} {base s n : Nat} {e : TypeId} {v : Value} {xs : List Value} (h : w.ownsRow base e s v n xs) (hk : ∀ g, v.ownBlock = some g → w'.heap[g]? = w.heap[g]?) : w'.ownsRow base e s v n xs := by
  obtain ⟨h1, h2⟩ := h
  refine ⟨h1, ?_⟩
  rcases h2 with h2 | ⟨g, cap, cur, hv, hg, hh, r⟩
  · exact Or.inl h2
  · exact Or.inr ⟨g, cap, cur, hv, hg, (hk g (by rw [hv]; rfl)).trans hh, r⟩
theorem rowN_lt {w : World} {base s n : Nat} {e : TypeId} {v : Value} {xs : List Value} (h : w.ownsRow base e s v n xs) : ∀ g, v.ownBlock = some g → base ≤ g ∧ g < w.heap.size ∧ ∃ cur, w.heap[g]? = some (.cells cur e (0, 0)) := by
  intro g hg
  rcases h.2 with ⟨rfl, _⟩ | ⟨g', cap, cur, hv, hb, hh, r⟩
  · cases hg
  · rw [hv] at hg
    injection hg with hg
    subst hg
    exact ⟨hb, (Array.getElem?_eq_some_iff.1 hh).1, cur, hh⟩
theorem rowN_base {w : World} {b b' s n : Nat} {e : TypeId} {v : Value} {xs : List Value} (h : w.ownsRow b e s v n xs) (hb : b' ≤ b) : w.ownsRow b' e s v n xs := by
  obtain ⟨h1, h2⟩ := h
  refine ⟨h1, ?_⟩
  rcases h2 with h2 | ⟨g, cap, cur, hv, hg, hh, r⟩
  · exact Or.inl h2
  · exact Or.inr ⟨g, cap, cur, hv, Nat.le_trans hb hg, hh, r⟩
theorem rowN_slice {w : World} {base s n : Nat} {e : TypeId} {v : Value} {xs : List Value} (h : w.ownsRow base e s v n xs) : ∃ A c, v = .slice A n c := by
  rcases h.2 with ⟨rfl, rfl⟩ | ⟨g', cap, cur, hv, _⟩
  · exact ⟨none, 0, rfl⟩
  · exact ⟨_, _, hv⟩
/-- Rows of unlike things lie apart. -/
theorem rows_apart {w : World} {B B' s s' n n' : Nat} {e e' : TypeId} {v v' : Value} {xs xs' : List Value} (h : w.ownsRow B e s v n xs) (h' : w.ownsRow B' e' s' v' n' xs') (hne : e ≠ e') {g : Nat} (hg : v.ownBlock = some g) : v'.ownBlock ≠ some g := by
  intro hg'
  obtain ⟨_, _, c, hc⟩ := rowN_lt h g hg
  obtain ⟨_, _, c', hc'⟩ := rowN_lt h' g hg'
  rw [hc] at hc'
  injection hc' with hc'
  injection hc' with _ h2 _
  exact hne h2
theorem Seen.chg {B sb : Nat} {R : List (Ent × Hd)} {A A' : World} {S : Nat → Prop} (h : Seen B sb R A) (hc : Chg S A A') (hS : ∀ k, B ≤ k → ¬ S k) (hb : ¬ S sb) : Seen B sb R A' := by
  obtain ⟨v, h1, h2⟩ := h.ex
  exact ⟨⟨v, boxed_chg h1 hc hb, rowN_kept h2 fun g hg => hc.block g (rowN_lt h2 g hg).2.1 (hS g (rowN_lt h2 g hg).1)⟩, fun p hp => (h.each p hp).chg hc hS⟩
theorem Seen.base {B B' sb : Nat} {R : List (Ent × Hd)} {A : World} (h : Seen B sb R A) (hB : B' ≤ B) : Seen B' sb R A := by
  obtain ⟨v, h1, h2⟩ := h.ex
  exact ⟨⟨v, h1, rowN_base h2 hB⟩, fun p hp => (h.each p hp).base hB⟩

/-- A copy, as a value. -/
def CpOk (B : Nat) (e : Ent) (v : Value) (u : World) : Prop := ∃ g : Hd, v = e.at_ g ∧ Mine B (e, g) u
theorem Mono.cp (B : Nat) (e : Ent) : Mono (CpOk B e) := fun _ _ _ ⟨g, h, m⟩ hu => ⟨g, h, m.below hu⟩
/-- A literal of one entry. -/
def LtOk (B : Nat) (e : Ent) (v : Value) (u : World) : Prop := ∃ (g : Hd) (b : Nat), v = .slice (some ⟨b, 0, none⟩) 1 1 ∧ Mine B (e, g) u ∧ u.heap[b]? = some (.cells (ecells (e, g)).toArray 37 (0, 0))
theorem Mono.lt (B : Nat) (e : Ent) : Mono (LtOk B e) := fun _ _ _ ⟨g, b, h, m, hb⟩ hu => ⟨g, b, h, m.below hu, ext_heap hu hb⟩

/-- Between two rounds: what is seen of the first k pieces. -/
def LatI (T : List (Ent × Hd)) (s : Int) (lo hi bd : Nat) (w w3 : World) (n₁ k : Nat) (A : World) : Prop :=
  ∃ R, R.map Prod.fst = firsts (T.map Prod.fst) s ((cuts (T.map Prod.fst) T.length 0 0).take k) ∧ Seen n₁ (w.heap.size + 1) R A ∧ Kept lo hi bd w3 A ∧ w3.heap.size ≤ A.heap.size ∧ n₁ ≤ A.heap.size ∧ A.cell? ⟨w.heap.size, 0, none⟩ = some (.int .i64 s) ∧ Below w.heap.size w A
theorem LatI.chg {T : List (Ent × Hd)} {s : Int} {lo hi bd n₁ k : Nat} {w w3 A A' : World} (h : LatI T s lo hi bd w w3 n₁ k A) (hz : w.heap.size + 2 ≤ w3.heap.size) (hc : Chg (Btw w3.heap.size n₁) A A') : LatI T s lo hi bd w w3 n₁ k A' := by
  obtain ⟨R, hR, hS, hK, hz0, hz1, hs, hb⟩ := h
  refine ⟨R, hR, hS.chg hc (fun i hi hb => by have := hb.2; omega) (fun hb => by have := hb.1; omega), fun i hi hlt => ?_, Nat.le_trans hz0 hc.size, Nat.le_trans hz1 hc.size, ?_, hb.trans (hc.below (fun i hb => by have := hb.1; omega) hb.size)⟩
  · exact (hc.block i (Nat.lt_of_lt_of_le hlt hz0) (fun hb => by have := hb.1; omega)).trans (hK i hi hlt)
  · rw [World.cell?_of_block (w := A) (a := ⟨w.heap.size, 0, none⟩) (hc.block w.heap.size (by omega) (fun hb => by have := hb.1; omega))]; exact hs

end Go.Proofs.Ytddfelahpiokjaa

/- Going over what Latest saw. -/
namespace Go.Proofs.Ytddfelahpiokjaa
open Go.RowKit Go.Shelf
attribute [local go_sem] Oper.semAt_some

/-- The row in the box, its value named. -/
structure SeenV (B sb : Nat) (v : Value) (R : List (Ent × Hd)) (A : World) : Prop where
  box : Boxed A sb 24 v
  row : A.ownsRow B 37 4 v R.length (erow R)
  each : ∀ p ∈ R, Mine B p A
theorem SeenV.chg {B sb : Nat} {v : Value} {R : List (Ent × Hd)} {A A' : World} {S : Nat → Prop} (h : SeenV B sb v R A) (hc : Chg S A A') (hS : ∀ k, B ≤ k → ¬ S k) (hb : ¬ S sb) : SeenV B sb v R A' :=
  ⟨boxed_chg h.box hc hb, rowN_kept h.row fun g hg => hc.block g (rowN_lt h.row g hg).2.1 (hS g (rowN_lt h.row g hg).1), fun p hp => (h.each p hp).chg hc hS⟩
theorem SeenV.ext {B sb : Nat} {v : Value} {R : List (Ent × Hd)} {A A' : World} (h : SeenV B sb v R A) (hx : Ext A A') : SeenV B sb v R A' := h.chg (S := fun _ => False) (Chg.of_ext hx) (fun _ _ h => h) (fun h => h)
theorem rowE_sl {A : World} {B n c : Nat} {X : Option Addr} {R : List (Ent × Hd)} (h : A.ownsRow B 37 4 (.slice X n c) n (erow R)) : Sl A 0 A.heap.size X (erow R) := by
  rcases h.2 with ⟨he, rfl⟩ | ⟨g, cap, cur, he, hb, hh, hn, hm, hcs, hx⟩
  · left
    exact List.eq_nil_of_length_eq_zero (by simpa using h.1)
  · injection he with he _ _
    subst he
    refine .inr ⟨g, 0, rfl, Nat.zero_le _, (Array.getElem?_eq_some_iff.1 hh).1, fun i u hu => ?_⟩
    rw [Nat.zero_add, cell_of_row A g i cur _ (0, 0) hh]
    rw [← hx, List.getElem?_take] at hu
    split at hu
    · rw [← Array.getElem?_toList]; exact hu
    · cases hu
theorem SeenV.es {B sb n c : Nat} {X : Option Addr} {R : List (Ent × Hd)} {A : World} (h : SeenV B sb (.slice X n c) R A) : Es A 0 A.heap.size X R := by
  have hn : n = R.length := by
    obtain ⟨A', c', e⟩ := rowN_slice h.row
    injection e
  subst hn
  exact ⟨rowE_sl h.row, fun p hp => (h.each p hp).em⟩

/-- Of the k-th: it, in memory of its own. -/
def SeqOk (R : List (Ent × Hd)) (n₁ k : Nat) (x : Ent × Hd) (A : World) : Prop := ∃ p, R[k]? = some p ∧ x.1 = p.1 ∧ Mine n₁ x A
def seqV (x : Ent × Hd) : Array Value := #[x.1.at_ x.2]
end Go.Proofs.Ytddfelahpiokjaa

/- The reference's Same; the law's going over what Latest tells. -/
namespace Go.Proofs.Ytddfelahpiokjaa
open Go.RowKit Go.Shelf Go.ChangeShapes Go.WideShapes Go.ChangeAt

set_option maxRecDepth 100000 in
theorem cv_any {w : World} {lo hi : Nat} {A : Option Addr} {c : Nat} {l : List Nat} (h : Bs w lo hi (.slice A l.length c) l) : (convert 22 9 (.slice A l.length c)).run Try.prog w = .ok (.string (tx l)) w := by
  obtain ⟨A', c', he, _, _, _, hy⟩ := h
  injection he with e1 _ e3
  subst e1 e3
  exact run_text (P := Try.prog) w 22 5 Try.underlying22 Try.underlying5 hy l.length c rfl 9 Try.underlying9
attribute [local go_sem] Oper.semAt_some

set_option maxHeartbeats 2000000 in
theorem rsame_any {w : World} {lo hi lo2 hi2 : Nat} {a b : Ent} {g h : Hd} (hu : Em w lo hi a g) (hv : Em w lo2 hi2 b h) (h1 : hi ≤ w.heap.size) (h2 : hi2 ≤ w.heap.size) :
    Calls Try.prog 15 #[a.at_ g, b.at_ h] w fun e w' => ∃ z : Bool, (z = true ↔ a = b) ∧ e = .returned (.bool z) ∧ Ext w w' := by
  obtain ⟨w1, hw1⟩ : ∃ w1, w1 = (w.alloc (.cells #[.slice g.kA a.key.length g.kc, .int .i64 a.seq, .int .i64 a.kind, .slice g.vA a.val.length g.vc] 37)).alloc (.cells #[.slice h.kA b.key.length h.kc, .int .i64 b.seq, .int .i64 b.kind, .slice h.vA b.val.length h.vc] 37) := ⟨_, rfl⟩
  have HX : Hid (Ext w w1) := by rw [hw1]; exact Ext.trans (ext_alloc _ _) (ext_alloc _ _)
  have cvn : ∀ (X : Option Addr) (c : Nat) (l : List Nat) (lo hi : Nat), hi ≤ w.heap.size → Bs w lo hi (.slice X l.length c) l → (convert 22 9 (.slice X l.length c)).run Try.prog w1 = .ok (.string (tx l)) w1 := fun X c l lo hi hh hb => cv_any (hb.below HX.out hh)
  have v1 := cvn _ _ _ _ _ h1 hu.k
  have v2 := cvn _ _ _ _ _ h2 hv.k
  have v3 := cvn _ _ _ _ _ h1 hu.v
  have v4 := cvn _ _ _ _ _ h2 hv.v
  have t1 := tx_same hu.bk hv.bk
  have t2 := tx_same hu.bv hv.bv
  rw [hw1] at v1 v2 v3 v4
  clear cvn hu hv h1 h2
  unfold Ent.at_
  rw [hw1] at HX
  clear hw1
  by_cases hk : a.key = b.key
  · rw [decide_eq_true hk] at t1
    by_cases hs : a.seq = b.seq
    · have d1 : (a.seq == b.seq) = true := by simp [hs]
      by_cases hd : a.kind = b.kind
      · have d2 : (a.kind == b.kind) = true := by simp [hd]
        obtain ⟨z, hz⟩ : ∃ z, z = decide (a.val = b.val) := ⟨_, rfl⟩
        rw [← hz] at t2
        have HZ : Hid (z = true ↔ a = b) := by rw [hz]; unfold Hid; rw [decide_eq_true_eq]; exact ⟨fun h => Ent.ext hk hs hd h, fun h => by rw [h]⟩
        clear hk hs hd hz
        go_enter Try.func15, Try.ntmps15
        go_wp2_with fail
        go_ret
        exact ⟨z, HZ.out, by cases z <;> rfl, HX.out⟩
      · have d2 : (a.kind == b.kind) = false := by simp [hd]
        have HZ : Hid (false = true ↔ a = b) := ⟨fun h => (by cases h), fun h => absurd (by rw [h]) hd⟩
        clear hk hs hd t2
        go_enter Try.func15, Try.ntmps15
        go_wp2_with fail
        go_ret
        exact ⟨false, HZ.out, rfl, HX.out⟩
    · have d1 : (a.seq == b.seq) = false := by simp [hs]
      have HZ : Hid (false = true ↔ a = b) := ⟨fun h => (by cases h), fun h => absurd (by rw [h]) hs⟩
      clear hk hs t2
      go_enter Try.func15, Try.ntmps15
      go_wp2_with fail
      go_ret
      exact ⟨false, HZ.out, rfl, HX.out⟩
  · rw [decide_eq_false hk] at t1
    have HZ : Hid (false = true ↔ a = b) := ⟨fun h => (by cases h), fun h => absurd (by rw [h]) hk⟩
    clear hk t2
    go_enter Try.func15, Try.ntmps15
    go_wp2_with fail
    go_ret
    exact ⟨false, HZ.out, rfl, HX.out⟩

theorem results_cell_bool {fn : Func} {p : Tmp} (h : fn.results = #[.cell p 4]) (tmps : Array Value) (w : World) (g : Nat) (z : Bool) (hp : tmps.getD p undef = .pointer (some ⟨g, 0, none⟩)) (hc : w.cell? ⟨g, 0, none⟩ = some (.bool z)) :
    (results fn tmps).run Try.prog w = .ok (.bool z) w := by
  simp only [results, h]
  have hp' : tmps[p]?.getD undef = .pointer (some ⟨g, 0, none⟩) := by simpa using hp
  simp [Sem.run_bind, hp', go_sem, hc]
theorem SeenV.stay {B sb : Nat} {v : Value} {R : List (Ent × Hd)} {A A' : World} (h : SeenV B sb v R A) (hs : Stay B A.heap.size A A') (hb : B ≤ sb) : SeenV B sb v R A' :=
  ⟨(hs sb hb h.box.lt).trans h.box, rowN_kept h.row fun g hg => hs g (rowN_lt h.row g hg).1 (rowN_lt h.row g hg).2.1,
    fun p hp => ⟨row_kept (h.each p hp).k fun g hg => hs g (row_lt (h.each p hp).k g hg).1 (row_lt (h.each p hp).k g hg).2, row_kept (h.each p hp).v fun g hg => hs g (row_lt (h.each p hp).v g hg).1 (row_lt (h.each p hp).v g hg).2, (h.each p hp).good⟩⟩

/-- Between two rounds. -/
structure OverI (w w3 : World) (X : Option Addr) (N c : Nat) (n₁ k : Nat) (A : World) : Prop where
  stay : Stay (w.heap.size + 4) w3.heap.size w3 A
  below : Below w.heap.size w A
  num : Boxed A (w.heap.size + 3) 3 (.int .i64 (k : Int))
  res : Boxed A (w.heap.size + 2) 4 (.bool false)
  most : Boxed A (w.heap.size + 1) 3 (.int .i64 0)
  want : Boxed A w.heap.size 24 (.slice X N c)
  z3 : w3.heap.size ≤ A.heap.size
  z1 : n₁ ≤ A.heap.size

end Go.Proofs.Ytddfelahpiokjaa

/- Lists of entries: may all, do they rise, are they much, are they the same. -/
namespace Go.Proofs.Ytddfelahpiokjaa
open Go.ChangeShapes Go.WideShapes Go.ChangeAt Go.RowKit

theorem all_next {α : Type} {f : α → Bool} {L : List α} {i : Nat} {p : α} (h : (L.take i).all f = true) (hp : L[i]? = some p) (hf : f p = true) : (L.take (i + 1)).all f = true := by
  rw [List.take_succ_eq_append_getElem (List.getElem?_eq_some_iff.1 hp).1, List.all_append, h]
  simp [(List.getElem?_eq_some_iff.1 hp).2, hf]
theorem all_not {α : Type} {f : α → Bool} {L : List α} {i : Nat} {p : α} (hp : L[i]? = some p) (hf : f p = false) : L.all f = false := by
  rw [Bool.eq_false_iff]
  intro h
  rw [List.all_eq_true] at h
  rw [h p (List.mem_of_getElem? hp)] at hf
  cases hf

set_option maxRecDepth 100000 in
set_option maxHeartbeats 4000000 in
theorem allmay_any {w : World} {lo hi : Nat} {A : Option Addr} {c : Nat} {L : List (Ent × Hd)} (h : Es w lo hi A L) (hhi : hi ≤ w.heap.size) (hlen : L.length ≤ 1000000000000) :
    Calls Try.prog 50 #[.slice A L.length c] w fun x w' => x = .returned (.bool (L.all fun p => p.1.may)) ∧ Ext w w' := by
  have HE := Lib.hid h
  have HHI := Lib.hid hhi
  have HL := Lib.hid hlen
  clear h hhi hlen
  go_enter Try.func50, Try.ntmps50
  go_wp2_with fail
  go_loopw [7] (fun a wr => ∃ i : Nat, a = .int .i64 (i : Int) ∧ i ≤ L.length ∧ Hid ((L.take i).all (fun p => p.1.may) = true) ∧ Hid (Ext w wr)) (fun a _ => L.length - (intOf a).toNat)
  case atStart => exact ⟨0, rfl, by omega, by simp [Hid], Lib.hid (Ext.refl _)⟩
  case round =>
    obtain ⟨i, rfl, hm, HR, HX⟩ := hrel
    by_cases hlt : i < L.length
    · have d : decide ((i : Int) < (L.length : Int)) = true := decide_eq_true (by omega)
      have dn : decide (i < L.length) = true := decide_eq_true hlt
      obtain ⟨b, o, hA⟩ := HE.out.base (by omega)
      subst hA
      obtain ⟨p, hp⟩ : ∃ p, L[i]? = some p := ⟨_, List.getElem?_eq_getElem hlt⟩
      obtain ⟨c0, c1, c2, c3⟩ := (HE.out.below HX.out HHI.out).get hp
      have HP := Lib.hid hp
      have n1 : (0 : Int) ≤ (i : Int) := by omega
      have n2 : (i : Int) < (L.length : Int) := by omega
      have hw2 : wrap64 ((i : Int) + 1) = ((i + 1 : Nat) : Int) := by have := HL.out; unfold wrap64; omega
      clear hp
      go_upto_region 4 with (fail)
      obtain ⟨w4, hw4⟩ : ∃ w4, w4 = wr.alloc (.cells #[.slice p.2.kA p.1.key.length p.2.kc, .int .i64 p.1.seq, .int .i64 p.1.kind, .slice p.2.vA p.1.val.length p.2.vc] 37) := ⟨_, rfl⟩
      rw [← hw4]
      have HX4 : Hid (Ext wr w4) := by rw [hw4]; exact ext_alloc _ _
      have HB4 : Hid (w4.heap[wr.heap.size]? = some (.cells #[.slice p.2.kA p.1.key.length p.2.kc, .int .i64 p.1.seq, .int .i64 p.1.kind, .slice p.2.vA p.1.val.length p.2.vc] 37 (0, 0))) := by rw [hw4]; exact heap_at _ _ rfl
      clear hw4 c0 c1 c2 c3
      have c0 := cell_of HB4.out (k := 0) rfl
      have c1 := cell_of HB4.out (k := 1) rfl
      have c2 := cell_of HB4.out (k := 2) rfl
      have c3 := cell_of HB4.out (k := 3) rfl
      go_wp2_with fail
      refine (may_any _ _ _ _ _ _ _ _ _).mono ?_
      rintro x w9 ⟨rfl, hx9⟩
      have HX9 : Hid (Ext w w9) := Ext.trans HX.out (Ext.trans HX4.out hx9)
      clear hx9 c0 c1 c2 c3
      obtain ⟨z, hz⟩ : ∃ z, z = mayN p.1.key.length p.1.seq p.1.kind p.1.val.length := ⟨_, rfl⟩
      rw [← hz]
      have HZ := Lib.hid hz
      clear hz
      cases z with
      | false =>
        go_wp2_with fail
        go_ret
        exact ⟨by rw [all_not (f := fun p : Ent × Hd => p.1.may) HP.out HZ.out.symm]; rfl, HX9.out⟩
      | true =>
        go_wp2_with fail
        go_roundw
        case rel => exact ⟨i + 1, by rw [hw2], by omega, Lib.hid (all_next (f := fun p : Ent × Hd => p.1.may) HR.out HP.out HZ.out.symm), HX9⟩
        case measure => rw [hw2]; simp [intOf]; omega
    · have d : decide ((i : Int) < (L.length : Int)) = false := decide_eq_false (by omega)
      have dn : decide (i < L.length) = false := decide_eq_false hlt
      have HM : Hid (L.all (fun p => p.1.may) = true) := by have h := HR.out; rwa [List.take_of_length_le (by omega)] at h
      clear hlt hm
      go_wp2_with fail
      go_ret
      exact ⟨by rw [HM.out]; rfl, HX.out⟩

/-- Do they rise? -/
def Rise (l : List Ent) : Prop := ∀ j a b, l[j]? = some a → l[j + 1]? = some b → cmpE a b < 0
theorem RiseAt.all {l : List Ent} {n : Nat} (h : RiseAt l n) : n = l.length ↔ Rise l := by
  obtain ⟨h1, h2, h3⟩ := h
  refine ⟨fun e j a b ha hb => h2 j a b (by have := (List.getElem?_eq_some_iff.1 hb).1; omega) ha hb, fun hr => ?_⟩
  rcases Nat.lt_or_ge n l.length with h | h
  · obtain ⟨m, a, b, e, ha, hb, hc⟩ := h3 h
    have := hr m a b ha hb
    omega
  · omega

set_option maxRecDepth 100000 in
set_option maxHeartbeats 4000000 in
theorem rises_any {w : World} {lo hi : Nat} {A : Option Addr} {c : Nat} {L : List (Ent × Hd)} (h : Es w lo hi A L) (hhi : hi ≤ w.heap.size) (hlen : L.length ≤ 1000000000000) :
    Calls Try.prog 28 #[.slice A L.length c] w fun x w' => ∃ z : Bool, (z = true ↔ Rise (L.map Prod.fst) ∧ (L.all fun p => p.1.may) = true) ∧ x = .returned (.bool z) ∧ Ext w w' := by
  have HR := Lib.hid (rising_any (c := c) h hhi hlen)
  have HA : Hid (∀ u, Ext w u → Calls Try.prog 50 #[.slice A L.length c] u fun x w' => x = .returned (.bool (L.all fun p => p.1.may)) ∧ Ext u w') := fun u hu => allmay_any (h.below hu hhi) (Nat.le_trans hhi hu.size) hlen
  clear h hhi hlen
  obtain ⟨m, hm⟩ : ∃ m, m = L.all fun p => p.1.may := ⟨_, rfl⟩
  rw [← hm] at HA ⊢
  clear hm
  go_enter Try.func28, Try.ntmps28
  go_wp2_with fail
  refine HR.out.mono ?_
  rintro x w2 ⟨n, hr, rfl, hx2⟩
  have hn := hr.all
  rw [List.length_map] at hn
  have HX2 := Lib.hid hx2
  have HN := Lib.hid hn
  clear hr hx2 hn
  by_cases h0 : n = L.length
  · have e1 : ((n : Int) == (L.length : Int)) = true := by rw [beq_iff_eq]; omega
    have e1n : (n == L.length) = true := by simpa using h0
    have HH := Lib.hid h0
    clear h0
    go_wp2_with fail
    refine (HA.out w2 HX2.out).mono ?_
    rintro x w3 ⟨rfl, hx3⟩
    have HX3 : Hid (Ext w w3) := Ext.trans HX2.out hx3
    clear hx3
    go_wp2_with fail
    go_ret
    exact ⟨m, ⟨fun h => ⟨HN.out.1 HH.out, h⟩, fun h => h.2⟩, rfl, HX3.out⟩
  · have e1 : ((n : Int) == (L.length : Int)) = false := by rw [beq_eq_false_iff_ne]; omega
    have e1n : (n == L.length) = false := by simpa using h0
    have HH := Lib.hid h0
    clear h0
    go_wp2_with fail
    go_ret
    exact ⟨false, ⟨fun h => (by cases h), fun h => absurd (HN.out.2 h.1) HH.out⟩, rfl, HX2.out⟩

/-- Are they much, as the laws ask it? -/
def MuchAns (L : List (Ent × Hd)) (z : Bool) : Prop := z = false → L.length ≤ 100000 ∧ ∀ p ∈ L, p.1.key.length + p.1.val.length < 100000

set_option maxRecDepth 100000 in
set_option maxHeartbeats 4000000 in
theorem much_any {w : World} {lo hi : Nat} {A : Option Addr} {c : Nat} {L : List (Ent × Hd)} (h : Es w lo hi A L) (hhi : hi ≤ w.heap.size) (hlen : L.length ≤ 4000000000000) (hln : ∀ p ∈ L, p.1.key.length ≤ 140737488351232 ∧ p.1.val.length ≤ 140737488351232) :
    Calls Try.prog 29 #[.slice A L.length c, .int .i64 100000] w fun x w' => ∃ z : Bool, MuchAns L z ∧ x = .returned (.bool z) ∧ Ext w w' := by
  have HE := Lib.hid h
  have HHI := Lib.hid hhi
  have HL := Lib.hid hlen
  have HLN := Lib.hid hln
  clear h hhi hlen hln
  go_enter Try.func29, Try.ntmps29
  go_wp2_with fail
  go_loopw [5, 6] (fun a b wr => ∃ s i : Nat, a = .int .i64 (s : Int) ∧ b = .int .i64 (i : Int) ∧ i ≤ L.length ∧ s ≤ 500000 ∧ Hid (s ≤ 100000 → i ≤ s ∧ ∀ p ∈ L.take i, p.1.key.length + p.1.val.length < s) ∧ Hid (Ext w wr)) (fun _ b _ => L.length - (intOf b).toNat)
  case atStart => exact ⟨0, 0, rfl, rfl, by omega, by omega, fun _ => ⟨by omega, by simp⟩, Lib.hid (Ext.refl _)⟩
  case round =>
    obtain ⟨s, i, rfl, rfl, hm, hs, HR, HX⟩ := hrel
    by_cases hlt : i < L.length
    · have d : decide ((i : Int) < (L.length : Int)) = true := decide_eq_true (by omega)
      have dn : decide (i < L.length) = true := decide_eq_true hlt
      by_cases hs1 : s ≤ 100000
      · have t : decide ((s : Int) ≤ 100000) = true := decide_eq_true (by omega)
        have tn : decide (s ≤ 100000) = true := decide_eq_true hs1
        obtain ⟨b, o, hA⟩ := HE.out.base (by omega)
        subst hA
        obtain ⟨p, hp⟩ : ∃ p, L[i]? = some p := ⟨_, List.getElem?_eq_getElem hlt⟩
        obtain ⟨c0, c1, c2, c3⟩ := (HE.out.below HX.out HHI.out).get hp
        have HP := Lib.hid hp
        have HLP := Lib.hid (HLN.out p (List.mem_of_getElem? hp))
        have n1 : (0 : Int) ≤ (i : Int) := by omega
        have n2 : (i : Int) < (L.length : Int) := by omega
        obtain ⟨x, hx⟩ : ∃ x, x = min p.1.key.length 100001 := ⟨_, rfl⟩
        obtain ⟨y, hy⟩ : ∃ y, y = min p.1.val.length 100001 := ⟨_, rfl⟩
        have HMX : Hid ((min (p.1.key.length : Int) 100001) = (x : Int)) := by unfold Hid; omega
        have HMY : Hid ((min (p.1.val.length : Int) 100001) = (y : Int)) := by unfold Hid; omega
        have HXY := Lib.hid (And.intro hx hy)
        have HS1 := Lib.hid hs1
        clear hp c1 c2 hx hy
        go_upto_region 5 with (fail)
        refine flow (by kernel_rfl) [Is (.int .i64 (s : Int)), Is (.int .i64 ((s : Int) + 1)), Is (.slice (some ⟨b, o, none⟩) L.length c), Is (.int .i64 (i : Int)), Is (.pointer (some ⟨b, o + i * 4, none⟩)), Is (.pointer (some ⟨b, o + i * 4, none⟩)), Is (.slice p.2.kA p.1.key.length p.2.kc), Is (.int .i64 (p.1.key.length : Int)), Is (.int .i64 (100000 : Int)), Is (.int .i64 (100001 : Int)), Is (.int .i64 (x : Int)), Is (.int .i64 ((s : Int) + 1 + (x : Int))), Is (.slice (some ⟨b, o, none⟩) L.length c), Is (.int .i64 (i : Int)), Is (.pointer (some ⟨b, o + i * 4, none⟩)), Is (.pointer (some ⟨b, o + i * 4 + 3, none⟩)), Is (.slice p.2.vA p.1.val.length p.2.vc), Is (.int .i64 (p.1.val.length : Int)), Is (.int .i64 (100000 : Int)), Is (.int .i64 (100001 : Int)), Is (.int .i64 (y : Int)), Is (.int .i64 ((s : Int) + 1 + (x : Int) + (y : Int))), Is (.int .i64 ((s : Int) + 1 + (x : Int) + (y : Int)))] (by kernel_rfl) (by kernel_rfl) ?mono (fun f1 => ?obl) ?fin
        case mono =>
          simp only [List.forall_mem_cons, List.not_mem_nil, false_imp_iff, implies_true, and_true]
          exact ⟨.is _, .is _, .is _, .is _, .is _, .is _, .is _, .is _, .is _, .is _, .is _, .is _, .is _, .is _, .is _, .is _, .is _, .is _, .is _, .is _, .is _, .is _, .is _⟩
        case fin =>
          intro g1 u hu hg
          simp only [puts, Act.put, List.setIfInBounds_toArray, List.set_cons_zero, List.set_cons_succ]
          have h22 : g1 22 = .int .i64 ((s : Int) + 1 + (x : Int) + (y : Int)) := hg 22 (by decide)
          rw [h22]
          have HXU : Hid (Ext w u) := Ext.trans HX.out (Ext.trans (Ext.drew wr) hu)
          have hL := HL.out
          clear h22 hg hu c0 c3
          go_wp2_with fail
          go_roundw
          case rel =>
            have hxy := HXY.out
            have hs1 := HS1.out
            refine ⟨s + 1 + x + y, i + 1, by simp, by go_num, by omega, by omega, Lib.hid fun hle => ?_, HXU⟩
            obtain ⟨h1, h2⟩ := HR.out hs1
            refine ⟨by omega, fun q hq => ?_⟩
            rw [List.take_succ_eq_append_getElem hlt, List.mem_append, List.mem_singleton] at hq
            rcases hq with hq | hq
            · have := h2 q hq; omega
            · have hpe : q = p := by rw [hq]; exact (List.getElem?_eq_some_iff.1 HP.out).2
              subst hpe
              omega
          case measure => simp [intOf]; omega
        case obl =>
          refine ⟨fun u hu hd => ?_, ?_⟩
          · go_simp
            exact ⟨Ext.refl _, rfl⟩
          refine ⟨fun u hu hd => ?_, ?_⟩
          · simp only [Act.put, List.setIfInBounds_toArray, List.set_cons_zero, List.set_cons_succ]
            have e0 : f1 0 = .int .i64 (s : Int) := hd 0 (by kernel_rfl)
            have q : IntKind.i64.wrap ((s : Int) + 1) = (s : Int) + 1 := by rw [IntKind.wrap_i64]; omega
            go_simp
            exact ⟨Ext.refl _, rfl⟩
          refine ⟨fun u hu hd => ?_, ?_⟩
          · simp only [Act.put, List.setIfInBounds_toArray, List.set_cons_zero, List.set_cons_succ]
            go_simp
            exact ⟨Ext.refl _, rfl⟩
          refine ⟨fun u hu hd => ?_, ?_⟩
          · simp only [Act.put, List.setIfInBounds_toArray, List.set_cons_zero, List.set_cons_succ]
            go_simp
            exact ⟨Ext.refl _, rfl⟩
          refine ⟨fun u hu hd => ?_, ?_⟩
          · simp only [Act.put, List.setIfInBounds_toArray, List.set_cons_zero, List.set_cons_succ]
            have e2 : f1 2 = .slice (some ⟨b, o, none⟩) L.length c := hd 2 (by kernel_rfl)
            have e3 : f1 3 = .int .i64 (i : Int) := hd 3 (by kernel_rfl)
            go_simp
            exact ⟨Ext.refl _, rfl⟩
          refine ⟨fun u hu hd => ?_, ?_⟩
          · simp only [Act.put, List.setIfInBounds_toArray, List.set_cons_zero, List.set_cons_succ]
            have e4 : f1 4 = .pointer (some ⟨b, o + i * 4, none⟩) := hd 4 (by kernel_rfl)
            go_simp
            exact ⟨Ext.refl _, rfl⟩
          refine ⟨fun u hu hd => ?_, ?_⟩
          · simp only [Act.put, List.setIfInBounds_toArray, List.set_cons_zero, List.set_cons_succ]
            have e5 : f1 5 = .pointer (some ⟨b, o + i * 4, none⟩) := hd 5 (by kernel_rfl)
            have hu2 := Ext.trans (Ext.drew wr) hu
            have q0 := ext_cell hu2 c0
            go_simp
            exact ⟨Ext.refl _, rfl⟩
          refine ⟨fun u hu hd => ?_, ?_⟩
          · simp only [Act.put, List.setIfInBounds_toArray, List.set_cons_zero, List.set_cons_succ]
            have e6 : f1 6 = .slice p.2.kA p.1.key.length p.2.kc := hd 6 (by kernel_rfl)
            go_simp
            exact ⟨Ext.refl _, rfl⟩
          refine ⟨fun u hu hd => ?_, ?_⟩
          · simp only [Act.put, List.setIfInBounds_toArray, List.set_cons_zero, List.set_cons_succ]
            go_simp
            exact ⟨Ext.refl _, rfl⟩
          refine ⟨fun u hu hd => ?_, ?_⟩
          · simp only [Act.put, List.setIfInBounds_toArray, List.set_cons_zero, List.set_cons_succ]
            have e8 : f1 8 = .int .i64 (100000 : Int) := hd 8 (by kernel_rfl)
            go_simp
            exact ⟨Ext.refl _, rfl⟩
          refine ⟨fun u hu hd => ?_, ?_⟩
          · simp only [Act.put, List.setIfInBounds_toArray, List.set_cons_zero, List.set_cons_succ]
            have e7 : f1 7 = .int .i64 (p.1.key.length : Int) := hd 7 (by kernel_rfl)
            have e9 : f1 9 = .int .i64 (100001 : Int) := hd 9 (by kernel_rfl)
            have q := HMX.out
            go_simp
            exact ⟨Ext.refl _, rfl⟩
          refine ⟨fun u hu hd => ?_, ?_⟩
          · simp only [Act.put, List.setIfInBounds_toArray, List.set_cons_zero, List.set_cons_succ]
            have e1 : f1 1 = .int .i64 ((s : Int) + 1) := hd 1 (by kernel_rfl)
            have e10 : f1 10 = .int .i64 (x : Int) := hd 10 (by kernel_rfl)
            have q1 : x ≤ 100001 ∧ y ≤ 100001 := by have := HXY.out; omega
            have q : IntKind.i64.wrap ((s : Int) + 1 + (x : Int)) = (s : Int) + 1 + (x : Int) := by rw [IntKind.wrap_i64]; omega
            go_simp
            exact ⟨Ext.refl _, rfl⟩
          refine ⟨fun u hu hd => ?_, ?_⟩
          · simp only [Act.put, List.setIfInBounds_toArray, List.set_cons_zero, List.set_cons_succ]
            go_simp
            exact ⟨Ext.refl _, rfl⟩
          refine ⟨fun u hu hd => ?_, ?_⟩
          · simp only [Act.put, List.setIfInBounds_toArray, List.set_cons_zero, List.set_cons_succ]
            go_simp
            exact ⟨Ext.refl _, rfl⟩
          refine ⟨fun u hu hd => ?_, ?_⟩
          · simp only [Act.put, List.setIfInBounds_toArray, List.set_cons_zero, List.set_cons_succ]
            have e12 : f1 12 = .slice (some ⟨b, o, none⟩) L.length c := hd 12 (by kernel_rfl)
            have e13 : f1 13 = .int .i64 (i : Int) := hd 13 (by kernel_rfl)
            go_simp
            exact ⟨Ext.refl _, rfl⟩
          refine ⟨fun u hu hd => ?_, ?_⟩
          · simp only [Act.put, List.setIfInBounds_toArray, List.set_cons_zero, List.set_cons_succ]
            have e14 : f1 14 = .pointer (some ⟨b, o + i * 4, none⟩) := hd 14 (by kernel_rfl)
            go_simp
            exact ⟨Ext.refl _, rfl⟩
          refine ⟨fun u hu hd => ?_, ?_⟩
          · simp only [Act.put, List.setIfInBounds_toArray, List.set_cons_zero, List.set_cons_succ]
            have e15 : f1 15 = .pointer (some ⟨b, o + i * 4 + 3, none⟩) := hd 15 (by kernel_rfl)
            have hu2 := Ext.trans (Ext.drew wr) hu
            have q0 := ext_cell hu2 c3
            go_simp
            exact ⟨Ext.refl _, rfl⟩
          refine ⟨fun u hu hd => ?_, ?_⟩
          · simp only [Act.put, List.setIfInBounds_toArray, List.set_cons_zero, List.set_cons_succ]
            have e16 : f1 16 = .slice p.2.vA p.1.val.length p.2.vc := hd 16 (by kernel_rfl)
            go_simp
            exact ⟨Ext.refl _, rfl⟩
          refine ⟨fun u hu hd => ?_, ?_⟩
          · simp only [Act.put, List.setIfInBounds_toArray, List.set_cons_zero, List.set_cons_succ]
            go_simp
            exact ⟨Ext.refl _, rfl⟩
          refine ⟨fun u hu hd => ?_, ?_⟩
          · simp only [Act.put, List.setIfInBounds_toArray, List.set_cons_zero, List.set_cons_succ]
            have e18 : f1 18 = .int .i64 (100000 : Int) := hd 18 (by kernel_rfl)
            go_simp
            exact ⟨Ext.refl _, rfl⟩
          refine ⟨fun u hu hd => ?_, ?_⟩
          · simp only [Act.put, List.setIfInBounds_toArray, List.set_cons_zero, List.set_cons_succ]
            have e17 : f1 17 = .int .i64 (p.1.val.length : Int) := hd 17 (by kernel_rfl)
            have e19 : f1 19 = .int .i64 (100001 : Int) := hd 19 (by kernel_rfl)
            have q := HMY.out
            go_simp
            exact ⟨Ext.refl _, rfl⟩
          refine ⟨fun u hu hd => ?_, ?_⟩
          · simp only [Act.put, List.setIfInBounds_toArray, List.set_cons_zero, List.set_cons_succ]
            have e11 : f1 11 = .int .i64 ((s : Int) + 1 + (x : Int)) := hd 11 (by kernel_rfl)
            have e20 : f1 20 = .int .i64 (y : Int) := hd 20 (by kernel_rfl)
            have q1 : x ≤ 100001 ∧ y ≤ 100001 := by have := HXY.out; omega
            have q : IntKind.i64.wrap ((s : Int) + 1 + (x : Int) + (y : Int)) = (s : Int) + 1 + (x : Int) + (y : Int) := by rw [IntKind.wrap_i64]; omega
            go_simp
            exact ⟨Ext.refl _, rfl⟩
          refine ⟨fun u hu hd => ?_, ?_⟩
          · simp only [Act.put, List.setIfInBounds_toArray, List.set_cons_zero, List.set_cons_succ]
            have e21 : f1 21 = .int .i64 ((s : Int) + 1 + (x : Int) + (y : Int)) := hd 21 (by kernel_rfl)
            go_simp
            exact ⟨Ext.refl _, rfl⟩
          trivial
      · have t : decide ((s : Int) ≤ 100000) = false := decide_eq_false (by omega)
        have tn : decide (s ≤ 100000) = false := decide_eq_false hs1
        have t2 : decide ((100000 : Int) < (s : Int)) = true := decide_eq_true (by omega)
        have t2n : decide (100000 < s) = true := decide_eq_true (by omega)
        clear hs1 hlt hm hs
        go_wp2_with fail
        go_ret
        exact ⟨true, fun h => (by cases h), rfl, HX.out⟩
    · have d : decide ((i : Int) < (L.length : Int)) = false := decide_eq_false (by omega)
      have dn : decide (i < L.length) = false := decide_eq_false hlt
      have HI : Hid (i = L.length) := by unfold Hid; omega
      by_cases hs1 : s ≤ 100000
      · have t2 : decide ((100000 : Int) < (s : Int)) = false := decide_eq_false (by omega)
        have t2n : decide (100000 < s) = false := decide_eq_false (by omega)
        have HS1 := Lib.hid hs1
        clear hs1 hlt hm hs
        go_wp2_with fail
        go_ret
        refine ⟨false, fun _ => ?_, rfl, HX.out⟩
        obtain ⟨h1, h2⟩ := HR.out HS1.out
        have h3 := HI.out
        have h4 := HS1.out
        rw [h3, List.take_length] at h2
        exact ⟨by omega, fun p hp => by have := h2 p hp; omega⟩
      · have t2 : decide ((100000 : Int) < (s : Int)) = true := decide_eq_true (by omega)
        have t2n : decide (100000 < s) = true := decide_eq_true (by omega)
        clear hs1 hlt hm hs
        go_wp2_with fail
        go_ret
        exact ⟨true, fun h => (by cases h), rfl, HX.out⟩

set_option maxRecDepth 100000 in
set_option maxHeartbeats 4000000 in
theorem rsamelist_any {w : World} {lo hi lo2 hi2 : Nat} {A B : Option Addr} {c c2 : Nat} {L M : List (Ent × Hd)} (h : Es w lo hi A L) (k : Es w lo2 hi2 B M) (hhi : hi ≤ w.heap.size) (hhi2 : hi2 ≤ w.heap.size) (hlen : L.length ≤ 1000000000000) (hlen2 : M.length ≤ 1000000000000) :
    Calls Try.prog 10 #[.slice A L.length c, .slice B M.length c2] w fun x w' => ∃ z : Bool, (z = true ↔ L.map Prod.fst = M.map Prod.fst) ∧ x = .returned (.bool z) ∧ Ext w w' := by
  have HE := Lib.hid h
  have HF := Lib.hid k
  have HHI := Lib.hid (And.intro hhi hhi2)
  have HL := Lib.hid (And.intro hlen hlen2)
  clear h k hhi hhi2 hlen hlen2
  by_cases hne : L.length = M.length
  · have e1 : ((L.length : Int) != (M.length : Int)) = false := by rw [hne]; simp
    have e1n : (L.length != M.length) = false := by rw [hne]; simp
    have HN := Lib.hid hne
    clear hne
    go_enter Try.func10, Try.ntmps10
    go_wp2_with fail
    go_loopw [5] (fun a wr => ∃ i : Nat, a = .int .i64 (i : Int) ∧ i ≤ L.length ∧ Hid ((L.map Prod.fst).take i = (M.map Prod.fst).take i) ∧ Hid (Ext w wr)) (fun a _ => L.length - (intOf a).toNat)
    case atStart => exact ⟨0, rfl, by omega, by simp [Hid], Lib.hid (Ext.refl _)⟩
    case round =>
      obtain ⟨i, rfl, hm, HR, HX⟩ := hrel
      by_cases hlt : i < L.length
      · have d : decide ((i : Int) < (L.length : Int)) = true := decide_eq_true (by omega)
        have dn : decide (i < L.length) = true := decide_eq_true hlt
        have hlt2 : i < M.length := by have := HN.out; omega
        obtain ⟨b, o, hA⟩ := HE.out.base (by omega)
        subst hA
        obtain ⟨b2, o2, hB⟩ := HF.out.base (by omega)
        subst hB
        obtain ⟨p, hp⟩ : ∃ p, L[i]? = some p := ⟨_, List.getElem?_eq_getElem hlt⟩
        obtain ⟨q, hq⟩ : ∃ q, M[i]? = some q := ⟨_, List.getElem?_eq_getElem hlt2⟩
        obtain ⟨c0, c1, c2', c3⟩ := (HE.out.below HX.out HHI.out.1).get hp
        obtain ⟨d0, d1, d2, d3⟩ := (HF.out.below HX.out HHI.out.2).get hq
        have HWW : Hid (∀ u, Ext wr u → Em u lo hi p.1 p.2 ∧ Em u lo2 hi2 q.1 q.2 ∧ hi ≤ u.heap.size ∧ hi2 ≤ u.heap.size) := fun u hu => by
          have hx := Ext.trans HX.out hu
          have hs := hx.size
          exact ⟨(HE.out.below hx HHI.out.1).each p (List.mem_of_getElem? hp), (HF.out.below hx HHI.out.2).each q (List.mem_of_getElem? hq), Nat.le_trans HHI.out.1 hs, Nat.le_trans HHI.out.2 hs⟩
        have HP := Lib.hid (And.intro hp hq)
        obtain ⟨z, hz⟩ : ∃ z : Bool, (z = true ↔ p.1 = q.1) := by
          by_cases e : p.1 = q.1
          · exact ⟨true, by simp [e]⟩
          · exact ⟨false, by simp [e]⟩
        have HZ := Lib.hid hz
        have n1 : (0 : Int) ≤ (i : Int) := by omega
        have n2 : (i : Int) < (L.length : Int) := by omega
        have n3 : (i : Int) < (M.length : Int) := by omega
        clear hp hq hz
        go_upto_region 6 with (fail)
        refine flow (by kernel_rfl) [Is (.slice (some ⟨b, o, none⟩) L.length c), Is (.int .i64 (i : Int)), Is (.pointer (some ⟨b, o + i * 4, none⟩)), Is (.agg #[.slice p.2.kA p.1.key.length p.2.kc, .int .i64 p.1.seq, .int .i64 p.1.kind, .slice p.2.vA p.1.val.length p.2.vc]), Is (.slice (some ⟨b2, o2, none⟩) M.length c2), Is (.int .i64 (i : Int)), Is (.pointer (some ⟨b2, o2 + i * 4, none⟩)), Is (.agg #[.slice q.2.kA q.1.key.length q.2.kc, .int .i64 q.1.seq, .int .i64 q.1.kind, .slice q.2.vA q.1.val.length q.2.vc]), Is (.bool z), Is (.bool (!z))] (by kernel_rfl) (by kernel_rfl) ?mono (fun f1 => ?obl) ?fin
        case mono =>
          simp only [List.forall_mem_cons, List.not_mem_nil, false_imp_iff, implies_true, and_true]
          exact ⟨.is _, .is _, .is _, .is _, .is _, .is _, .is _, .is _, .is _, .is _⟩
        case fin =>
          intro g1 u hu hg
          simp only [puts, Act.put, List.setIfInBounds_toArray, List.set_cons_zero, List.set_cons_succ]
          have h9 : g1 9 = .bool (!z) := hg 9 (by decide)
          rw [h9]
          have HXU : Hid (Ext w u) := Ext.trans HX.out (Ext.trans (Ext.drew wr) hu)
          clear h9 hg hu c0 c1 c2' c3 d0 d1 d2 d3
          have hL := HL.out.1
          cases z with
          | false =>
            go_wp2_with fail
            go_ret
            refine ⟨false, ⟨fun h => (by cases h), fun h => ?_⟩, rfl, HXU.out⟩
            have h1 := congrArg (fun l => l[i]?) h
            simp only [List.getElem?_map, HP.out.1, HP.out.2, Option.map_some, Option.some.injEq] at h1
            exact (HZ.out.2 h1)
          | true =>
            go_wp2_with fail
            go_roundw
            case rel => exact ⟨i + 1, by go_num, by omega, Lib.hid (by
              have e1 : i < (L.map Prod.fst).length := by rw [List.length_map]; omega
              have e2 : i < (M.map Prod.fst).length := by rw [List.length_map]; omega
              rw [List.take_succ_eq_append_getElem e1, List.take_succ_eq_append_getElem e2, HR.out]
              have h1 := (List.getElem?_eq_some_iff.1 HP.out.1).2
              have h2 := (List.getElem?_eq_some_iff.1 HP.out.2).2
              simp only [List.getElem_map, h1, h2, HZ.out.1 rfl]), HXU⟩
            case measure => simp [intOf]; omega
        case obl =>
          refine ⟨fun u hu hd => ?_, ?_⟩
          · go_simp
            exact ⟨Ext.refl _, rfl⟩
          refine ⟨fun u hu hd => ?_, ?_⟩
          · simp only [Act.put, List.setIfInBounds_toArray, List.set_cons_zero, List.set_cons_succ]
            go_simp
            exact ⟨Ext.refl _, rfl⟩
          refine ⟨fun u hu hd => ?_, ?_⟩
          · simp only [Act.put, List.setIfInBounds_toArray, List.set_cons_zero, List.set_cons_succ]
            have e0 : f1 0 = .slice (some ⟨b, o, none⟩) L.length c := hd 0 (by kernel_rfl)
            have e1 : f1 1 = .int .i64 (i : Int) := hd 1 (by kernel_rfl)
            go_simp
            exact ⟨Ext.refl _, rfl⟩
          refine ⟨fun u hu hd => ?_, ?_⟩
          · simp only [Act.put, List.setIfInBounds_toArray, List.set_cons_zero, List.set_cons_succ]
            have e2 : f1 2 = .pointer (some ⟨b, o + i * 4, none⟩) := hd 2 (by kernel_rfl)
            have hu2 := Ext.trans (Ext.drew wr) hu
            have q0 := ext_cell hu2 c0
            have q1 := ext_cell hu2 c1
            have q2 := ext_cell hu2 c2'
            have q3 := ext_cell hu2 c3
            go_simp
            exact ⟨Ext.refl _, rfl⟩
          refine ⟨fun u hu hd => ?_, ?_⟩
          · simp only [Act.put, List.setIfInBounds_toArray, List.set_cons_zero, List.set_cons_succ]
            go_simp
            exact ⟨Ext.refl _, rfl⟩
          refine ⟨fun u hu hd => ?_, ?_⟩
          · simp only [Act.put, List.setIfInBounds_toArray, List.set_cons_zero, List.set_cons_succ]
            go_simp
            exact ⟨Ext.refl _, rfl⟩
          refine ⟨fun u hu hd => ?_, ?_⟩
          · simp only [Act.put, List.setIfInBounds_toArray, List.set_cons_zero, List.set_cons_succ]
            have e4 : f1 4 = .slice (some ⟨b2, o2, none⟩) M.length c2 := hd 4 (by kernel_rfl)
            have e5 : f1 5 = .int .i64 (i : Int) := hd 5 (by kernel_rfl)
            go_simp
            exact ⟨Ext.refl _, rfl⟩
          refine ⟨fun u hu hd => ?_, ?_⟩
          · simp only [Act.put, List.setIfInBounds_toArray, List.set_cons_zero, List.set_cons_succ]
            have e6 : f1 6 = .pointer (some ⟨b2, o2 + i * 4, none⟩) := hd 6 (by kernel_rfl)
            have hu2 := Ext.trans (Ext.drew wr) hu
            have q0 := ext_cell hu2 d0
            have q1 := ext_cell hu2 d1
            have q2 := ext_cell hu2 d2
            have q3 := ext_cell hu2 d3
            go_simp
            exact ⟨Ext.refl _, rfl⟩
          refine ⟨fun u hu hd => ?_, ?_⟩
          · simp only [Act.put, List.setIfInBounds_toArray, List.set_cons_zero, List.set_cons_succ]
            have e3 : f1 3 = .agg #[.slice p.2.kA p.1.key.length p.2.kc, .int .i64 p.1.seq, .int .i64 p.1.kind, .slice p.2.vA p.1.val.length p.2.vc] := hd 3 (by kernel_rfl)
            have e7 : f1 7 = .agg #[.slice q.2.kA q.1.key.length q.2.kc, .int .i64 q.1.seq, .int .i64 q.1.kind, .slice q.2.vA q.1.val.length q.2.vc] := hd 7 (by kernel_rfl)
            have hu2 := Ext.trans (Ext.drew wr) hu
            obtain ⟨m1, m2, m3, m4⟩ := HWW.out u hu2
            go_simp
            refine (rsame_any m1 m2 m3 m4).mono ?_
            rintro x w9 ⟨z', hz', rfl, hx9⟩
            have : z' = z := by rw [Bool.eq_iff_iff, hz', HZ.out]
            subst this
            exact ⟨_, rfl, hx9, rfl⟩
          refine ⟨fun u hu hd => ?_, ?_⟩
          · simp only [Act.put, List.setIfInBounds_toArray, List.set_cons_zero, List.set_cons_succ]
            have e8 : f1 8 = .bool z := hd 8 (by kernel_rfl)
            go_simp
            exact ⟨Ext.refl _, rfl⟩
          trivial
      · have d : decide ((i : Int) < (L.length : Int)) = false := decide_eq_false (by omega)
        have dn : decide (i < L.length) = false := decide_eq_false hlt
        have HM : Hid (L.map Prod.fst = M.map Prod.fst) := by
          have h := HR.out
          rw [List.take_of_length_le (by rw [List.length_map]; omega), List.take_of_length_le (by rw [List.length_map, ← HN.out]; omega)] at h
          exact h
        clear hlt hm
        go_wp2_with fail
        go_ret
        exact ⟨true, ⟨fun _ => HM.out, fun _ => rfl⟩, rfl, HX.out⟩
  · have e1 : ((L.length : Int) != (M.length : Int)) = true := by simp; omega
    have e1n : (L.length != M.length) = true := by simpa using hne
    have HN := Lib.hid hne
    clear hne
    go_enter Try.func10, Try.ntmps10
    go_wp2_with fail
    go_ret
    exact ⟨false, ⟨fun h => (by cases h), fun h => absurd (by have := congrArg List.length h; simpa using this) HN.out⟩, rfl, Ext.refl _⟩
end Go.Proofs.Ytddfelahpiokjaa

/- Plain mathematics of blocks: their bytes, and what stands in them (no function of the program). -/
namespace Go.Proofs.Ytddfelahpiokjaa

/-- Four bytes, the highest first. -/
def be4 (n : Nat) : List Nat := [n / 16777216 % 256, n / 65536 % 256, n / 256 % 256, n % 256]
def num4 (l : List Nat) : Nat := l.foldl (fun n c => n * 256 + c) 0
theorem be4_length (n : Nat) : (be4 n).length = 4 := rfl
theorem be4_lt (n : Nat) : ∀ c ∈ be4 n, c < 256 := by
  intro c hc
  simp only [be4, List.mem_cons, List.not_mem_nil, or_false] at hc
  rcases hc with rfl | rfl | rfl | rfl <;> omega
theorem num4_be4 {n : Nat} (h : n < 4294967296) : num4 (be4 n) = n := by
  simp only [num4, be4, List.foldl]; omega
theorem list4 {l : List Nat} (h : l.length = 4) : ∃ a b c d, l = [a, b, c, d] := by
  match l, h with
  | [a, b, c, d], _ => exact ⟨a, b, c, d, rfl⟩
theorem be4_num4 {l : List Nat} (h : l.length = 4) (hb : ∀ c ∈ l, c < 256) : be4 (num4 l) = l := by
  obtain ⟨a, b, c, d, rfl⟩ := list4 h
  have ha := hb a (by simp)
  have hb' := hb b (by simp)
  have hc := hb c (by simp)
  have hd := hb d (by simp)
  simp only [num4, be4, List.foldl, List.cons.injEq, and_true]
  refine ⟨by omega, by omega, by omega, by omega⟩
theorem num4_lt {l : List Nat} (h : l.length = 4) (hb : ∀ c ∈ l, c < 256) : num4 l < 4294967296 := by
  obtain ⟨a, b, c, d, rfl⟩ := list4 h
  have ha := hb a (by simp)
  have hb' := hb b (by simp)
  have hc := hb c (by simp)
  have hd := hb d (by simp)
  simp only [num4, List.foldl]; omega
theorem num4_inj {l r : List Nat} (h : l.length = 4) (k : r.length = 4) (hl : ∀ c ∈ l, c < 256) (hr : ∀ c ∈ r, c < 256) (e : num4 l = num4 r) : l = r := by
  rw [← be4_num4 h hl, ← be4_num4 k hr, e]


/-- How many first numbers both have the same. -/
def shr : List Nat → List Nat → Nat
  | a :: l, b :: r => if a = b then shr l r + 1 else 0
  | _, _ => 0
theorem shr_nil (b : List Nat) : shr [] b = 0 := by cases b <;> rfl
theorem shr_le_l : ∀ (a b : List Nat), shr a b ≤ a.length
  | [], b => by rw [shr_nil]; exact Nat.zero_le _
  | _ :: _, [] => Nat.zero_le _
  | x :: l, y :: r => by
    unfold shr
    split
    · have := shr_le_l l r; simp only [List.length_cons]; omega
    · omega
theorem shr_le_r : ∀ (a b : List Nat), shr a b ≤ b.length
  | [], b => by rw [shr_nil]; exact Nat.zero_le _
  | _ :: _, [] => Nat.zero_le _
  | x :: l, y :: r => by
    unfold shr
    split
    · have := shr_le_r l r; simp only [List.length_cons]; omega
    · omega
theorem shr_take : ∀ (a b : List Nat), a.take (shr a b) = b.take (shr a b)
  | [], b => by rw [shr_nil]; rfl
  | _ :: _, [] => rfl
  | x :: l, y :: r => by
    unfold shr
    split
    · rename_i h
      rw [List.take_succ_cons, List.take_succ_cons, h, shr_take l r]
    · rfl
/-- So far they are the same, and there they end or part. -/
theorem shr_is : ∀ {a b : List Nat} {n : Nat}, n ≤ a.length → n ≤ b.length → a.take n = b.take n → (∀ x y, a[n]? = some x → b[n]? = some y → x ≠ y) → shr a b = n
  | [], b, n, h1, _, _, _ => by rw [shr_nil]; simp at h1; omega
  | _ :: _, [], n, _, h2, _, _ => by simp at h2; subst h2; rfl
  | x :: l, y :: r, n, h1, h2, h3, h4 => by
    unfold shr
    cases n with
    | zero =>
      have := h4 x y rfl rfl
      rw [if_neg this]
    | succ n =>
      rw [List.take_succ_cons, List.take_succ_cons] at h3
      injection h3 with h3 h5
      rw [if_pos h3, shr_is (n := n) (by simpa using h1) (by simpa using h2) h5 (fun u v hu hv => h4 u v (by simpa using hu) (by simpa using hv))]

/-- An entry's bytes behind a key. -/
def kform (ah : List Nat) (e : Ent) : List Nat :=
  form (shr ah e.key) ++ (bytesForm (e.key.drop (shr ah e.key)) ++ (form e.seq.toNat ++ (form e.kind.toNat ++ (if e.kind = 1 then bytesForm e.val else []))))
theorem kform_pos (ah : List Nat) (e : Ent) : 0 < (kform ah e).length := by
  have := form_pos (shr ah e.key)
  unfold kform
  rw [List.length_append]; omega
theorem kform_len {ah : List Nat} {e : Ent} (h : e.may = true) : (kform ah e).length ≤ 65700 := by
  obtain ⟨u1, u2, u3, u4⟩ := Ent.may_u64 h
  obtain ⟨h1, h2, h3, h4, h5⟩ := mayN_iff.1 h
  have hs := shr_le_r ah e.key
  have a0 := form_len64 (n := shr ah e.key) ⟨by omega⟩
  have hd : (e.key.drop (shr ah e.key)).length ≤ 32 := by rw [List.length_drop]; omega
  have a1 := (bytesForm_len (l := e.key.drop (shr ah e.key)) ⟨by omega⟩).1
  have a2 := form_len64 u2
  have a3 := form_len64 u3
  have a4 := (bytesForm_len u4).1
  unfold kform
  split <;> simp only [List.length_append, List.length_nil] <;> rcases h5 with ⟨h5, h6⟩ | ⟨h5, h6⟩ <;> omega
theorem kform_lt {ah : List Nat} {e : Ent} (hk : ∀ x ∈ e.key, x < 256) (hv : ∀ x ∈ e.val, x < 256) : ∀ x ∈ kform ah e, x < 256 := by
  intro x hx
  unfold kform bytesForm at hx
  simp only [List.mem_append] at hx
  rcases hx with hx | (hx | hx) | hx | hx | hx
  · exact form_bytes _ x hx
  · exact form_bytes _ x hx
  · exact hk x (List.mem_of_mem_drop hx)
  · exact form_bytes _ x hx
  · exact form_bytes _ x hx
  · split at hx
    · rcases List.mem_append.1 hx with hx | hx
      · exact form_bytes _ x hx
      · exact hv x hx
    · cases hx

/-- The key that stands ahead of the i-th entry, as its bytes see it. -/
def ahOf (L : List Ent) (i : Nat) : List Nat := if i % 4 = 0 then [] else ((L[i - 1]?).map Ent.key).getD []
/-- The i-th entry's bytes. -/
def pieceOf (L : List Ent) (i : Nat) : List Nat := ((L[i]?).map (kform (ahOf L i))).getD []
/-- The first k entries' bytes. -/
def upto (L : List Ent) (k : Nat) : List Nat := (List.range k).flatMap (pieceOf L)
/-- The bytes from the k-th entry on. -/
def fromK (L : List Ent) (k : Nat) : List Nat := (List.range (L.length - k)).flatMap fun i => pieceOf L (k + i)
/-- Where the restarts among the first k entries begin. -/
def ats (L : List Ent) (k : Nat) : List Nat := ((List.range k).filter fun i => i % 4 = 0).map fun i => (upto L i).length
/-- A block's bytes. -/
def wr (L : List Ent) : List Nat := upto L L.length ++ ((ats L L.length).flatMap be4 ++ be4 (ats L L.length).length)
/-- May a block have these entries? -/
def MayB (L : List Ent) : Prop := 1 ≤ L.length ∧ L.length ≤ 1024 ∧ Rise L ∧ ∀ e ∈ L, e.may = true

theorem upto_zero (L : List Ent) : upto L 0 = [] := rfl
theorem upto_succ (L : List Ent) (k : Nat) : upto L (k + 1) = upto L k ++ pieceOf L k := by
  unfold upto
  rw [List.range_succ, List.flatMap_append]; simp
theorem piece_at {L : List Ent} {k : Nat} {e : Ent} (h : L[k]? = some e) : pieceOf L k = kform (ahOf L k) e := by unfold pieceOf; rw [h]; rfl
theorem fromK_at {L : List Ent} {k : Nat} (h : k < L.length) : fromK L k = pieceOf L k ++ fromK L (k + 1) := by
  unfold fromK
  have e1 : L.length - k = (L.length - (k + 1)) + 1 := by omega
  rw [e1, List.range_succ_eq_map, List.flatMap_cons, List.flatMap_map]
  congr 1
  refine congrArg (fun f => List.flatMap f _) ?_
  funext i
  show pieceOf L (k + (i + 1)) = _
  congr 1; omega
theorem fromK_end (L : List Ent) {k : Nat} (h : L.length ≤ k) : fromK L k = [] := by
  unfold fromK
  rw [show L.length - k = 0 by omega]; rfl
theorem fromK_zero (L : List Ent) : fromK L 0 = upto L L.length := by
  unfold fromK upto
  rw [Nat.sub_zero]
  refine congrArg (fun f => List.flatMap f _) ?_
  funext i
  rw [Nat.zero_add]
theorem ats_zero (L : List Ent) : ats L 0 = [] := rfl
theorem ats_hit (L : List Ent) {k : Nat} (h : k % 4 = 0) : ats L (k + 1) = ats L k ++ [(upto L k).length] := by
  unfold ats
  rw [List.range_succ, List.filter_append, List.map_append]
  simp [h]
theorem ats_miss (L : List Ent) {k : Nat} (h : k % 4 ≠ 0) : ats L (k + 1) = ats L k := by
  unfold ats
  rw [List.range_succ, List.filter_append, List.map_append]
  simp [h]
theorem ats_len (L : List Ent) (k : Nat) : (ats L k).length = (k + 3) / 4 := by
  induction k with
  | zero => rfl
  | succ k ih =>
    by_cases h : k % 4 = 0
    · rw [ats_hit L h, List.length_append, ih, List.length_singleton]; omega
    · rw [ats_miss L h, ih]; omega
theorem ats_get (L : List Ent) (k j : Nat) (h : 4 * j < k) : (ats L k)[j]? = some (upto L (4 * j)).length := by
  induction k with
  | zero => omega
  | succ k ih =>
    have hl := ats_len L k
    by_cases hk : k % 4 = 0
    · rw [ats_hit L hk]
      by_cases h1 : 4 * j < k
      · rw [List.getElem?_append_left (by omega)]; exact ih h1
      · have : k = 4 * j := by omega
        subst this
        rw [List.getElem?_append_right (by omega), hl, show j - (4 * j + 3) / 4 = 0 by omega]; rfl
    · rw [ats_miss L hk]; exact ih (by omega)
theorem upto_le {L : List Ent} (hm : ∀ e ∈ L, e.may = true) (k : Nat) : (upto L k).length ≤ 65700 * k := by
  induction k with
  | zero => simp [upto_zero]
  | succ k ih =>
    rw [upto_succ, List.length_append]
    have : (pieceOf L k).length ≤ 65700 := by
      cases h : L[k]? with
      | none => unfold pieceOf; rw [h]; simp
      | some e => rw [piece_at h]; exact kform_len (hm e (List.mem_of_getElem? h))
    omega
theorem ats_lt {L : List Ent} (hm : ∀ e ∈ L, e.may = true) (hl : L.length ≤ 1024) : ∀ x ∈ ats L L.length, x < 4294967296 := by
  intro x hx
  unfold ats at hx
  simp only [List.mem_map, List.mem_filter, List.mem_range] at hx
  obtain ⟨i, ⟨hi, _⟩, rfl⟩ := hx
  have := upto_le hm i
  omega
theorem flat4_len (l : List Nat) : (l.flatMap be4).length = 4 * l.length := by
  induction l with
  | nil => rfl
  | cons a l ih => rw [List.flatMap_cons, List.length_append, ih, be4_length, List.length_cons]; omega
theorem wr_len (L : List Ent) : (wr L).length = (upto L L.length).length + 4 * (ats L L.length).length + 4 := by
  unfold wr
  rw [List.length_append, List.length_append, flat4_len, be4_length]; omega
theorem upto_lt {L : List Ent} (hb : ∀ e ∈ L, (∀ x ∈ e.key, x < 256) ∧ ∀ x ∈ e.val, x < 256) (k : Nat) : ∀ x ∈ upto L k, x < 256 := by
  induction k with
  | zero => intro x hx; cases hx
  | succ k ih =>
    intro x hx
    rw [upto_succ] at hx
    rcases List.mem_append.1 hx with hx | hx
    · exact ih x hx
    · cases h : L[k]? with
      | none => unfold pieceOf at hx; rw [h] at hx; cases hx
      | some e => rw [piece_at h] at hx; exact kform_lt (hb e (List.mem_of_getElem? h)).1 (hb e (List.mem_of_getElem? h)).2 x hx

/-! What stands in bytes. -/

/-- An entry that may be stands here, behind a key. -/
def Stands (ah l : List Nat) (e : Ent) (rest : List Nat) : Prop :=
  e.may = true ∧ ∃ n, n ≤ ah.length ∧ n ≤ e.key.length ∧ ah.take n = e.key.take n ∧
    l = form n ++ (bytesForm (e.key.drop n) ++ (form e.seq.toNat ++ (form e.kind.toNat ++ ((if e.kind = 1 then bytesForm e.val else []) ++ rest))))
theorem stands_kform {ah : List Nat} {e : Ent} (h : e.may = true) (rest : List Nat) : Stands ah (kform ah e ++ rest) e rest := by
  refine ⟨h, shr ah e.key, shr_le_l _ _, shr_le_r _ _, shr_take _ _, ?_⟩
  unfold kform
  simp only [List.append_assoc]

/-- These bytes are those of entries that may be. -/
def BodyIs (L : List Ent) (bd : List Nat) : Prop := MayB L ∧ upto L L.length = bd
/-- What a reading is told, where it stands. -/
structure Ahead (bd : List Nat) (k : Nat) (ah l : List Nat) : Prop where
  is : ∀ L, BodyIs L bd → k ≤ L.length ∧ l = fromK L k ∧ (0 < k → ∃ p, L[k - 1]? = some p ∧ ah = p.key) ∧ (k = 0 → ah = [])
theorem Ahead.start (bd : List Nat) : Ahead bd 0 [] bd := ⟨fun L h => ⟨Nat.zero_le _, by rw [fromK_zero]; exact h.2.symm, fun h => absurd h (by omega), fun _ => rfl⟩⟩
/-- What stands behind the key ahead: of a block, the next entry. -/
theorem Ahead.stands {bd : List Nat} {k : Nat} {ah l : List Nat} (h : Ahead bd k ah l) {L : List Ent} (hL : BodyIs L bd) (hl : l ≠ []) : ∃ e, L[k]? = some e ∧ Stands ah l e (fromK L (k + 1)) := by
  obtain ⟨h1, h2, h3, h4⟩ := h.is L hL
  have hk : k < L.length := by
    rcases Nat.lt_or_ge k L.length with h | h
    · exact h
    · exact absurd (h2.trans (fromK_end L h)) hl
  refine ⟨L[k], List.getElem?_eq_getElem hk, ?_⟩
  rw [h2, fromK_at hk, piece_at (List.getElem?_eq_getElem hk)]
  have hm : L[k].may = true := hL.1.2.2.2 _ (List.getElem_mem hk)
  by_cases h0 : k % 4 = 0
  · unfold ahOf
    rw [if_pos h0]
    refine ⟨hm, 0, Nat.zero_le _, Nat.zero_le _, rfl, ?_⟩
    unfold kform
    rw [shr_nil]
    simp only [List.append_assoc]
  · have hk0 : 0 < k := by omega
    obtain ⟨p, hp, ha⟩ := h3 hk0
    unfold ahOf
    rw [if_neg h0, hp, ha]
    exact stands_kform hm _
theorem Ahead.ends {bd : List Nat} {k : Nat} {ah : List Nat} (h : Ahead bd k ah []) {L : List Ent} (hL : BodyIs L bd) : L.length = k := by
  obtain ⟨h1, h2, h3, h4⟩ := h.is L hL
  rcases Nat.lt_or_ge k L.length with hk | hk
  · rw [fromK_at hk, piece_at (List.getElem?_eq_getElem hk)] at h2
    have h5 := congrArg List.length h2
    rw [List.length_append, List.length_nil] at h5
    have := kform_pos (ahOf L k) L[k]
    omega
  · omega
/-- One entry on. -/
theorem Ahead.next {bd : List Nat} {k : Nat} {ah l rest : List Nat} {e : Ent} (h : Ahead bd k ah l) (hl : l ≠ []) (hn : ∀ e' rest', Stands ah l e' rest' → e' = e ∧ rest' = rest) :
    Ahead bd (k + 1) e.key rest ∧ ∀ L, BodyIs L bd → L[k]? = some e := by
  have hh : ∀ L, BodyIs L bd → L[k]? = some e ∧ rest = fromK L (k + 1) := fun L hL => by
    obtain ⟨e', he', hs⟩ := h.stands hL hl
    obtain ⟨rfl, e2⟩ := hn _ _ hs
    exact ⟨he', e2.symm⟩
  refine ⟨⟨fun L hL => ⟨?_, (hh L hL).2, fun _ => ⟨e, by simpa using (hh L hL).1, rfl⟩, fun h => absurd h (by omega)⟩⟩, fun L hL => (hh L hL).1⟩
  have := (List.getElem?_eq_some_iff.1 (hh L hL).1).1
  omega
theorem Stands.unique {ah l : List Nat} {e e' : Ent} {rest rest' : List Nat} (h : Stands ah l e rest) (h' : Stands ah l e' rest') : e = e' ∧ rest = rest' := by
  obtain ⟨hm, n, a1, a2, a3, a4⟩ := h
  obtain ⟨hm', n', b1, b2, b3, b4⟩ := h'
  obtain ⟨u1, u2, u3, u4⟩ := Ent.may_u64 hm
  obtain ⟨v1, v2, v3, v4⟩ := Ent.may_u64 hm'
  have hh := a4.symm.trans b4
  have un : U64 n := ⟨Nat.lt_of_le_of_lt a2 u1.lt⟩
  have un' : U64 n' := ⟨Nat.lt_of_le_of_lt b2 v1.lt⟩
  obtain ⟨rfl, hh⟩ := form_cut un un' hh
  have ud : U64 (e.key.drop n).length := ⟨by rw [List.length_drop]; have := u1.lt; omega⟩
  have ud' : U64 (e'.key.drop n).length := ⟨by rw [List.length_drop]; have := v1.lt; omega⟩
  obtain ⟨e1, hh⟩ := bytesForm_cut ud ud' hh
  obtain ⟨e2, hh⟩ := form_cut u2 v2 hh
  obtain ⟨e3, hh⟩ := form_cut u3 v3 hh
  obtain ⟨c1, c2, c3, c4, c5⟩ := mayN_iff.1 hm
  obtain ⟨d1, d2, d3, d4, d5⟩ := mayN_iff.1 hm'
  have k0 : e.kind = e'.kind := by rcases c5 with ⟨a, _⟩ | ⟨a, _⟩ <;> rcases d5 with ⟨b, _⟩ | ⟨b, _⟩ <;> omega
  have s0 : e.seq = e'.seq := by omega
  have key0 : e.key = e'.key := by
    rw [← List.take_append_drop n e.key, ← List.take_append_drop n e'.key, e1, ← a3, ← b3]
  rcases c5 with ⟨a, _⟩ | ⟨a, an⟩
  · rw [if_pos a, if_pos (k0.symm.trans a)] at hh
    obtain ⟨e4, e5⟩ := bytesForm_cut u4 v4 hh
    refine ⟨?_, e5⟩
    cases e; cases e'; simp_all
  · have hk2 : ¬ e.kind = 1 := by omega
    have hk2' : ¬ e'.kind = 1 := by omega
    rw [if_neg hk2, if_neg hk2'] at hh
    have v0 : e.val = e'.val := by
      rcases d5 with ⟨b, _⟩ | ⟨b, bn⟩
      · omega
      · rw [List.eq_nil_of_length_eq_zero an, List.eq_nil_of_length_eq_zero bn]
    refine ⟨?_, by simpa using hh⟩
    cases e; cases e'; simp_all

/-- A block says its entries. -/
theorem body_unique_at {bd : List Nat} {L M : List Ent} (h : BodyIs L bd) (k : BodyIs M bd) : ∀ n, n ≤ L.length → n ≤ M.length ∧ L.take n = M.take n ∧ fromK L n = fromK M n := by
  intro n
  induction n with
  | zero => intro _; exact ⟨Nat.zero_le _, rfl, by rw [fromK_zero, fromK_zero, h.2, k.2]⟩
  | succ n ih =>
    intro hn
    obtain ⟨h1, h2, h3⟩ := ih (by omega)
    have hA : Ahead bd n (if n = 0 then [] else ((L[n - 1]?).map Ent.key).getD []) (fromK L n) → True := fun _ => trivial
    have hk : n < L.length := by omega
    have hm : n < M.length := by
      rcases Nat.lt_or_ge n M.length with hx | hx
      · exact hx
      · rw [fromK_end M hx, fromK_at hk, piece_at (List.getElem?_eq_getElem hk)] at h3
        have h5 := congrArg List.length h3
        rw [List.length_append, List.length_nil] at h5
        have := kform_pos (ahOf L n) L[n]
        omega
    have hah : ahOf L n = ahOf M n := by
      unfold ahOf
      split
      · rfl
      · have e1 : L[n - 1]? = (L.take n)[n - 1]? := by rw [List.getElem?_take, if_pos (by omega)]
        have e2 : M[n - 1]? = (M.take n)[n - 1]? := by rw [List.getElem?_take, if_pos (by omega)]
        rw [e1, e2, h2]
    have h4 := h3
    rw [fromK_at hk, fromK_at hm, piece_at (List.getElem?_eq_getElem hk), piece_at (List.getElem?_eq_getElem hm), hah] at h4
    have s1 := stands_kform (ah := ahOf M n) (h.1.2.2.2 _ (List.getElem_mem hk)) (fromK L (n + 1))
    have s2 := stands_kform (ah := ahOf M n) (k.1.2.2.2 _ (List.getElem_mem hm)) (fromK M (n + 1))
    rw [h4] at s1
    obtain ⟨e1, e2⟩ := s1.unique s2
    refine ⟨hm, ?_, e2⟩
    rw [List.take_add_one, List.take_add_one, h2, List.getElem?_eq_getElem hk, List.getElem?_eq_getElem hm, e1]
theorem body_unique {bd : List Nat} {L M : List Ent} (h : BodyIs L bd) (k : BodyIs M bd) : L = M := by
  obtain ⟨h1, h2, _⟩ := body_unique_at h k L.length (Nat.le_refl _)
  obtain ⟨k1, _, _⟩ := body_unique_at k h M.length (Nat.le_refl _)
  have e : L.length = M.length := by omega
  rw [List.take_length, e, List.take_length] at h2
  exact h2
/-- The block of which these are the bytes. -/
def IsB (b : List Nat) (L : List Ent) : Prop := MayB L ∧ wr L = b
/-- How many restarts the last bytes say, and what stands ahead of them. -/
def bodyOf (b : List Nat) : List Nat := b.take (b.length - 4 - 4 * num4 (b.drop (b.length - 4)))
theorem IsB.last {b : List Nat} {L : List Ent} (h : IsB b L) : 4 ≤ b.length ∧ b.drop (b.length - 4) = be4 (ats L L.length).length ∧ num4 (b.drop (b.length - 4)) = (L.length + 3) / 4 ∧ b.length = (upto L L.length).length + 4 * ((L.length + 3) / 4) + 4 := by
  have hl := wr_len L
  rw [h.2] at hl
  rw [ats_len] at hl
  have hd : b.drop (b.length - 4) = be4 (ats L L.length).length := by
    rw [← h.2, wr_len]
    unfold wr
    rw [← List.append_assoc, List.drop_append_of_le_length (by rw [List.length_append, flat4_len]; omega)]
    rw [List.drop_eq_nil_of_le (by rw [List.length_append, flat4_len]; omega)]; rfl
  refine ⟨by omega, hd, ?_, hl⟩
  rw [hd, ats_len]
  have := h.1.2.1
  exact num4_be4 (by omega)
theorem IsB.body {b : List Nat} {L : List Ent} (h : IsB b L) : BodyIs L (bodyOf b) := by
  obtain ⟨h1, h2, h3, h4⟩ := h.last
  refine ⟨h.1, ?_⟩
  unfold bodyOf
  rw [h3, show b.length - 4 - 4 * ((L.length + 3) / 4) = (upto L L.length).length by omega, ← h.2]
  unfold wr
  rw [List.take_append_of_le_length (Nat.le_refl _), List.take_length]
theorem IsB.unique {b : List Nat} {L M : List Ent} (h : IsB b L) (k : IsB b M) : L = M := body_unique h.body k.body
theorem rise_short {L : List Ent} (h : Rise L) (n : Nat) : Rise (L.take n) := by
  intro j a b ha hb
  rw [List.getElem?_take] at ha hb
  split at ha
  · split at hb
    · exact h j a b ha hb
    · cases hb
  · cases ha
end Go.Proofs.Ytddfelahpiokjaa
