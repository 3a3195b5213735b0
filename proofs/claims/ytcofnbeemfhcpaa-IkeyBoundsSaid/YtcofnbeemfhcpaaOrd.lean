/- A region that draws its order, walked in the order of its text: an operation that reads may come whenever it likes, for what it reads stays as it is in every later world; what makes memory comes up alone. -/
import Derived.Test.YtcofnbeemfhcpaaWords
import Derived.OrdersHeld
import Derived.Tactics
namespace Go.Proofs.Ytcofnbeemfhcpaa
open Go.RowKit

/-- A later world: what was there is as it was. -/
def Ext (w w' : World) : Prop := Below w.heap.size w w'
theorem Ext.refl (w : World) : Ext w w := Below.refl _ _
theorem Ext.trans {a b c : World} (h : Ext a b) (k : Ext b c) : Ext a c := Below.trans h (Below.mono k h.size)
theorem Ext.drew (w : World) : Ext w w.drew := (Below.refl _ _).drew

section
variable {P : Program} {ops : Array Oper} {Q : Exit → Act → World → Prop}

/-- Whatever comes up next, the world behind it is a later one, and so on. -/
def Later (P : Program) (ops : Array Oper) (Q : Exit → Act → World → Prop) : Nat → Array Bool → Act → World → Prop
  | 0, seen, a, w => Region.ready .any ops seen = [] ∧ Q .normal a w
  | n + 1, seen, a, w => (Region.ready .any ops seen = [] → Q .normal a w) ∧
      ∀ i ∈ Region.ready .any ops seen, wpOp P ops Q i (fun b u => Ext w u ∧ Later P ops Q n (seen.setIfInBounds i true) b u) a w

theorem Later.any : ∀ (n : Nat) (seen : Array Bool) (a : Act) (w : World), Later P ops Q n seen a w → wpAny P .any ops Q n seen a w := by
  intro n
  induction n with
  | zero => intro seen a w h; exact h
  | succ n ih => intro seen a w h; exact ⟨h.1, fun i hi => wpOp_mono (fun b u hb => ih _ b u hb.2) (h.2 i hi)⟩

theorem yields_later {o : Oper} {v : Value} {a : Act} {w u : World} (h : YieldsIf P ops (Ext w) o v a) (hu : Ext w u) : YieldsIf P ops (Ext u) o v a := by
  rcases h with ⟨h1, h2⟩ | h
  · exact .inl ⟨h1, fun x hx => h2 x (hu.trans hx)⟩
  · exact .inr h

/-- A reading may be done first. -/
theorem Later.first {i : Nat} {oi : Oper} {v : Value} (hi : ops[i]? = some oi) (hsel : Region.noSelect ops = true) (hQ : ∀ c a w, Q (.panic c) (a.put oi.dst v) w → Q (.panic c) a w) :
    ∀ (n : Nat) (seen : Array Bool) (a : Act) (w : World), Region.free .any ops seen i = true → i ∈ Region.ready .any ops seen → YieldsIf P ops (Ext w) oi v a →
      (∀ j oj, ops[j]? = some oj → j ≠ i → seen.getD j true = false → (∀ e ∈ oj.after, Region.binds .any e = true → e.on ≠ i) → oi.apart ops oj = true) →
      Later P ops Q n (seen.setIfInBounds i true) (a.put oi.dst v) w → Later P ops Q (n + 1) seen a w := by
  intro n
  induction n with
  | zero =>
    intro seen a w _ hr hy _ H
    refine ⟨fun h => absurd hr (by rw [h]; simp), fun j hj => ?_⟩
    rcases Decidable.em (j = i) with e | e
    · subst e
      exact YieldsIf.wpOp hi hy (Ext.refl w) ⟨Ext.refl w, H⟩
    · have h1 := ready_mono hj e
      rw [H.1] at h1
      cases h1
  | succ n ih =>
    intro seen a w hf hr hy hap H
    refine ⟨fun h => absurd hr (by rw [h]; simp), fun j hj => ?_⟩
    rcases Decidable.em (j = i) with e | e
    · subst e
      exact YieldsIf.wpOp hi hy (Ext.refl w) ⟨Ext.refl w, H⟩
    · obtain ⟨hun, oj, hoj, hall⟩ := mem_ready.1 hj
      have hun' : seen.getD i false = false := by
        have h0 := (mem_ready.1 hr).1
        rcases Nat.lt_or_ge i seen.size with hlt | hge
        · simp [hlt] at h0 ⊢; exact h0
        · simp [Array.getElem?_eq_none hge]
      have hno : ∀ e ∈ oj.after, Region.binds .any e = true → e.on ≠ i := fun x hx hb heq => by
        have := hall x hx hb
        rw [heq, hun'] at this
        cases this
      have h2 := wpOp_putIf hoj (hap j oj hoj e hun hno) (fun cs b => Region.noSelect_spec hsel i oi cs b hi) (fun cs b => Region.noSelect_spec hsel j oj cs b hoj) hQ hy (H.2 j (ready_mono hj e))
      have hap' : ∀ k ok, ops[k]? = some ok → k ≠ i → (seen.setIfInBounds j true).getD k true = false → (∀ e ∈ ok.after, Region.binds .any e = true → e.on ≠ i) → oi.apart ops ok = true := by
        intro k ok hk hki hku hkn
        rcases Decidable.em (j = k) with ejk | ejk
        · subst ejk; exact hap j ok hk hki hun hkn
        · rw [getD_set_ne true ejk] at hku; exact hap k ok hk hki hku hkn
      have hr' := ready_mono hr (Ne.symm e)
      have hf' : Region.free .any ops (seen.setIfInBounds j true) i = true := by
        simp only [Region.free, hi, List.all_eq_true, List.mem_range] at hf ⊢
        intro k hk
        rcases Decidable.em (j = k) with ejk | ejk
        · subst ejk
          have : (seen.setIfInBounds j true).getD j true = true := by
            rcases Nat.lt_or_ge j seen.size with hlt | hge
            · simp [hlt]
            · simp [hge]
          simp [this]
        · rw [getD_set_ne true ejk]; exact hf k hk
      refine wpOp_mono (fun b u h3 => ⟨h3.2.1, ih _ b u hf' hr' (yields_later h3.1 h3.2.1) hap' ?_⟩) h2
      rw [Array.setIfInBounds_comm _ _ e]
      exact h3.2.2

/-- The first k have come up. -/
def Done (n k : Nat) : Array Bool := (Array.range n).map fun i => decide (i < k)
theorem Done.zero (n : Nat) : Done n 0 = Array.replicate n false := by
  apply Array.ext
  · simp [Done]
  · intro i h1 h2; simp [Done]
theorem Done.succ {n k : Nat} (_hk : k < n) : (Done n k).setIfInBounds k true = Done n (k + 1) := by
  apply Array.ext
  · simp [Done]
  · intro i h1 h2
    rw [Array.getElem_setIfInBounds]
    · simp [Done]
      rw [Bool.eq_iff_iff]
      simp
      omega
    · simpa [Done] using h1

/-- From the k-th operation on, in the order of the text. -/
def From (P : Program) (ops : Array Oper) (Q : Exit → Act → World → Prop) (k : Nat) (rest : List Oper) (a : Act) (w : World) : Prop :=
  ops.toList.drop k = rest → Later P ops Q (ops.size - k) (Done ops.size k) a w

theorem From.here {k : Nat} {o : Oper} {rest : List Oper} (h : ops.toList.drop k = o :: rest) : k < ops.size ∧ ops[k]? = some o ∧ ops.toList.drop (k + 1) = rest := by
  have hk : k < ops.toList.length := by
    rcases Nat.lt_or_ge k ops.toList.length with hlt | hge
    · exact hlt
    · rw [List.drop_of_length_le hge] at h; cases h
  rw [List.drop_eq_getElem_cons hk] at h
  injection h with h1 h2
  refine ⟨by simpa using hk, ?_, h2⟩
  rw [← Array.getElem?_toList, List.getElem?_eq_getElem hk, h1]

theorem From.read {k : Nat} {o : Oper} {rest : List Oper} {v : Value} {a : Act} {w : World} (hsel : Region.noSelect ops = true) (hf : Region.free .any ops (Done ops.size k) k = true) (hr : (Region.ready .any ops (Done ops.size k)).contains k = true)
    (hQ : ∀ c a w, Q (.panic c) (a.put o.dst v) w → Q (.panic c) a w) (hy : YieldsIf P ops (Ext w) o v a) (h : From P ops Q (k + 1) rest (a.put o.dst v) w) : From P ops Q k (o :: rest) a w := by
  intro hd
  obtain ⟨hk, ho, hrest⟩ := From.here hd
  have h1 := h hrest
  rw [← Done.succ hk] at h1
  have e : ops.size - k = (ops.size - (k + 1)) + 1 := by omega
  rw [e]
  exact Later.first ho hsel hQ _ _ a w hf (by simpa using hr) hy (Region.free_spec ho hf) h1

theorem From.make {k : Nat} {o : Oper} {rest : List Oper} {a : Act} {w : World} (hr : Region.ready .any ops (Done ops.size k) = [k])
    (h : ∀ K : Act → World → Prop, (∀ b u, Ext w u → From P ops Q (k + 1) rest b u → K b u) → if Region.wanted o (yielded ops a.tmps) = true then Oper.wp P o a w K Q else K (a.put o.dst undef) w) : From P ops Q k (o :: rest) a w := by
  intro hd
  obtain ⟨hk, ho, hrest⟩ := From.here hd
  have e : ops.size - k = (ops.size - (k + 1)) + 1 := by omega
  rw [e]
  refine ⟨fun h0 => (by rw [hr] at h0; cases h0), fun j hj => ?_⟩
  rw [hr] at hj
  simp at hj
  subst hj
  have h1 := h (fun b u => Ext w u ∧ Later P ops Q (ops.size - (j + 1)) ((Done ops.size j).setIfInBounds j true) b u) (fun b u hu hb => ⟨hu, by rw [Done.succ hk]; exact hb hrest⟩)
  unfold wpOp
  simp only [ho]
  split
  · rename_i hw; rw [if_pos hw] at h1; exact .inl h1
  · rename_i hw; rw [if_neg hw] at h1; exact h1

theorem From.done {k : Nat} {a : Act} {w : World} (hr : Region.ready .any ops (Done ops.size k) = []) (h : Q .normal a w) : From P ops Q k [] a w := by
  intro _
  cases ops.size - k with
  | zero => exact ⟨hr, h⟩
  | succ n => exact ⟨fun _ => h, fun i hi => by rw [hr] at hi; cases hi⟩

theorem From.start {id : Nat} {a : Act} {w : World} (hm : P.follows .mixedOrders = true) (h : From P ops Q 0 ops.toList a w.drew) : (Code.region id ops true).wp P Q a w := by
  refine wp_region_any hm (Later.any _ _ _ _ ?_)
  have h1 := h rfl
  rw [Done.zero] at h1
  exact h1
end
end Go.Proofs.Ytcofnbeemfhcpaa
