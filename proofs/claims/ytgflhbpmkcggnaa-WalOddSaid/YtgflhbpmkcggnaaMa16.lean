/- Flows2, joined. -/
import Derived.Test.YtgflhbpmkcggnaaMa12

/- A region that draws its order and holds one append (or other change) and, behind it, one store; some operations that neither read nor change memory may come at any time: facts for all others, then what the append makes, then what the store makes (no function of the program). -/
namespace Go.Proofs.Ytgflhbpmkcggnaa.S2
open Go.RowKit

/-- Each operation gives its fact. The s-th changes memory, then the t-th does; those of T look at no memory. -/
def Obls (P : Program) (ops : Array Oper) (φ : List (Value → World → Prop)) (w0 : World) (s t : Nat) (T : List Nat) (S S' : Value → World → World → Prop) (f : Nat → Value) : Nat → List Oper → Act → Prop
  | _, [], _ => True
  | k, o :: rest, a => (if k = s then (∀ u, Ext w0 u → (∀ j, j ≠ s → j ≠ t → j ∉ T → j < ops.size → fact φ j (f j) u) → if Region.wanted o (yielded ops a.tmps) = true then GivesR P ((execOp a.eval o).run P u) (fun v u' => S (kept o v) u u') else S undef u u)
    else if k = t then (∀ u1 u2, Ext w0 u1 → (∀ j, aft o j = true → j ≠ s → fact φ j (f j) u1) → S (f s) u1 u2 → if Region.wanted o (yielded ops a.tmps) = true then GivesR P ((execOp a.eval o).run P u2) (fun _ u' => S' (f s) u2 u') else S' (f s) u2 u2)
    else if k ∈ T then (∀ u u', Ext w0 u → (∀ j, aft o j = true → j ≠ s → j ≠ t → fact φ j (f j) u) → if Region.wanted o (yielded ops a.tmps) = true then GivesR P ((execOp a.eval o).run P u') (fun v u2 => u2 = u' ∧ fact φ k (kept o v) u) else fact φ k undef u)
    else (∀ u, Ext w0 u → (∀ j, aft o j = true → fact φ j (f j) u) →
      if Region.wanted o (yielded ops a.tmps) = true then GivesR P ((execOp a.eval o).run P u) (fun v u' => Ext u u' ∧ fact φ k (kept o v) u') else fact φ k undef u)) ∧ Obls P ops φ w0 s t T S S' f (k + 1) rest (a.put o.dst (f k))

/-- All but the two and those of T stand ahead of the first of the two; the second waits for it. -/
def ok2 (ops : Array Oper) (s t : Nat) (T : List Nat) : Bool := decide (s < ops.size) && decide (t < ops.size) && decide (s ≠ t) && decide (s ∉ T) && decide (t ∉ T) && (match ops[t]? with | some o => aft o s | none => false) &&
  (List.range ops.size).all fun j => decide (j = s) || decide (j = t) || decide (j ∈ T) || reachB ops ops.size s j
structure SInv (ops : Array Oper) (φ : List (Value → World → Prop)) (w0 : World) (s t : Nat) (S S' : Value → World → World → Prop) (seen : Nat → Bool) (f : Nat → Value) (u : World) : Prop where
  closed : ∀ j oj, ops[j]? = some oj → seen j = true → ∀ k, aft oj k = true → seen k = true
  holds : (seen s = false ∧ seen t = false ∧ Ext w0 u ∧ ∀ j, seen j = true → fact φ j (f j) u) ∨
    (seen s = true ∧ ∃ u1, Ext w0 u1 ∧ (∀ j, j ≠ s → j ≠ t → seen j = true → fact φ j (f j) u1) ∧ ((seen t = false ∧ S (f s) u1 u) ∨ (seen t = true ∧ ∃ u2, S (f s) u1 u2 ∧ S' (f s) u2 u)))

section
variable {P : Program} {ops : Array Oper} {Q : Exit → Act → World → Prop} {φ : List (Value → World → Prop)} {a0 : Act} {w0 : World} {s t : Nat} {T : List Nat} {S S' : Value → World → World → Prop}

theorem to_fi (hok : ok2 ops s t T = true) (hmono : ∀ p ∈ φ, Mono p) (f : Nat → Value) :
    ∀ (l : List Oper) (k : Nat) (a : Act), (∀ i o, l[i]? = some o → ops[k + i]? = some o) → Obls P ops φ w0 s t T S S' f k l a → Fi.Obls P ops (SInv ops φ w0 s t S S') f k l a := by
  unfold ok2 at hok
  simp only [Bool.and_eq_true, decide_eq_true_eq] at hok
  obtain ⟨⟨⟨⟨⟨⟨hss, htt⟩, hne⟩, hsT⟩, htT⟩, hat⟩, hst⟩ := hok
  intro l
  induction l with
  | nil => intro k a _ _; trivial
  | cons o l ih =>
    intro k a hops h
    refine ⟨fun seen u hI hn hd => ?_, ih (k + 1) _ (fun i o h => by rw [show k + 1 + i = k + (i + 1) by omega]; exact hops (i + 1) o (by simpa using h)) h.2⟩
    have hk : ops[k]? = some o := by have := hops 0 o rfl; simpa using this
    have hlt : k < ops.size := (Array.getElem?_eq_some_iff.1 hk).1
    have hcl := St.closed_upd hI.closed hk hd
    have h0 := h.1
    have sees : ∀ j, reachB ops ops.size k j = true → seen j = true := fun j h4 => by
      revert h4
      cases hn2 : ops.size with
      | zero => omega
      | succ n =>
        intro h4
        simp only [reachB, hk] at h4
        rcases Bool.or_eq_true_iff.1 h4 with h4 | h4
        · exact hd j h4
        · obtain ⟨k', _, h5⟩ := List.any_eq_true.1 h4
          simp only [Bool.and_eq_true] at h5
          exact St.reach_seen hI.closed n k' j (hd k' h5.1) h5.2
    have apart : ∀ {α : Type} (g : Nat → α) (v : α) (j : Nat), j ≠ k → Fi.upd g k v j = g j := fun g v j hj => Fi.upd_ne g v hj
    by_cases hks : k = s
    · subst hks
      rw [if_pos rfl] at h0
      rcases hI.holds with ⟨h1, h1', h2, h3⟩ | ⟨h1, _⟩
      · have hall : ∀ j, j ≠ k → j ≠ t → j ∉ T → j < ops.size → seen j = true := fun j hj hjt hjT hjl => by
          have h4 := (List.all_eq_true.1 hst) j (List.mem_range.2 hjl)
          simp only [Bool.or_eq_true, decide_eq_true_eq] at h4
          rcases h4 with ((h4 | h4) | h4) | h4
          · exact absurd h4 hj
          · exact absurd h4 hjt
          · exact absurd h4 hjT
          · exact sees j h4
        have h5 := h0 u h2 fun j hj hjt hjT hjl => h3 j (hall j hj hjt hjT hjl)
        have keep : ∀ v u', S v u u' → SInv ops φ w0 k t S S' (Fi.upd seen k true) (Fi.upd f k v) u' := fun v u' hv => by
          refine ⟨hcl, .inr ⟨Fi.upd_at _ _ _, u, h2, fun j hj _ hs => ?_, .inl ⟨?_, ?_⟩⟩⟩
          · rw [apart _ _ _ hj] at hs ⊢
            exact h3 j hs
          · rw [apart _ _ _ (Ne.symm hne)]; exact h1'
          · rw [Fi.upd_at]; exact hv
        split
        · rename_i hw
          rw [if_pos hw] at h5
          exact St.GivesR.mono h5 fun v u' hv => keep _ _ hv
        · rename_i hw
          rw [if_neg hw] at h5
          exact keep _ _ h5
      · rw [h1] at hn; cases hn
    · rw [if_neg hks] at h0
      have hsk : s ≠ k := fun e => hks e.symm
      by_cases hkt : k = t
      · subst hkt
        rw [if_pos rfl] at h0
        have hs : seen s = true := hd s (by rw [hk] at hat; exact hat)
        rcases hI.holds with ⟨h1, _⟩ | ⟨h1, u1, h2, h3, h4⟩
        · rw [hs] at h1; cases h1
        · rcases h4 with ⟨h4, h5⟩ | ⟨h4, _⟩
          · have hself : aft o k = true → False := fun e => by have := hd k e; rw [hn] at this; cases this
            have h6 := h0 u1 u h2 (fun j hj hjs => h3 j hjs (fun e => hself (e ▸ hj)) (hd j hj)) h5
            have keep : ∀ v u', S' (f s) u u' → SInv ops φ w0 s k S S' (Fi.upd seen k true) (Fi.upd f k v) u' := fun v u' hv => by
              refine ⟨hcl, .inr ⟨by rw [apart _ _ _ hsk]; exact h1, u1, h2, fun j hj hjt hs => ?_, .inr ⟨Fi.upd_at _ _ _, u, ?_, ?_⟩⟩⟩
              · rw [apart _ _ _ hjt] at hs ⊢
                exact h3 j hj hjt hs
              · rw [apart _ _ _ hsk]; exact h5
              · rw [apart _ _ _ hsk]; exact hv
            split
            · rename_i hw
              rw [if_pos hw] at h6
              exact St.GivesR.mono h6 fun v u' hv => keep _ _ hv
            · rename_i hw
              rw [if_neg hw] at h6
              exact keep _ _ h6
          · rw [h4] at hn; cases hn
      · rw [if_neg hkt] at h0
        have htk : t ≠ k := fun e => hkt e.symm
        by_cases hkT : k ∈ T
        · rw [if_pos hkT] at h0
          rcases hI.holds with ⟨h1, h1', h2, h3⟩ | ⟨h1, u1, h2, h3, h4⟩
          · have h5 := h0 u u h2 fun j hj _ _ => h3 j (hd j hj)
            have keep : ∀ v, fact φ k v u → SInv ops φ w0 s t S S' (Fi.upd seen k true) (Fi.upd f k v) u := fun v hv => by
              refine ⟨hcl, .inl ⟨by rw [apart _ _ _ hsk]; exact h1, by rw [apart _ _ _ htk]; exact h1', h2, fun j hs => ?_⟩⟩
              by_cases e : j = k
              · subst e; rw [Fi.upd_at]; exact hv
              · rw [apart _ _ _ e] at hs ⊢; exact h3 j hs
            split
            · rename_i hw
              rw [if_pos hw] at h5
              refine St.GivesR.mono h5 fun v u' hv => ?_
              rw [hv.1]
              exact keep _ hv.2
            · rename_i hw
              rw [if_neg hw] at h5
              exact keep _ h5
          · have h5 := h0 u1 u h2 fun j hj hjs hjt => h3 j hjs hjt (hd j hj)
            have keep : ∀ v, fact φ k v u1 → SInv ops φ w0 s t S S' (Fi.upd seen k true) (Fi.upd f k v) u := fun v hv => by
              refine ⟨hcl, .inr ⟨by rw [apart _ _ _ hsk]; exact h1, u1, h2, fun j hj hjt hs => ?_, by rw [apart _ _ _ htk, apart _ _ _ hsk]; exact h4⟩⟩
              by_cases e : j = k
              · subst e; rw [Fi.upd_at]; exact hv
              · rw [apart _ _ _ e] at hs ⊢; exact h3 j hj hjt hs
            split
            · rename_i hw
              rw [if_pos hw] at h5
              refine St.GivesR.mono h5 fun v u' hv => ?_
              rw [hv.1]
              exact keep _ hv.2
            · rename_i hw
              rw [if_neg hw] at h5
              exact keep _ h5
        · rw [if_neg hkT] at h0
          rcases hI.holds with ⟨h1, h1', h2, h3⟩ | ⟨h1, _⟩
          · have h5 := h0 u h2 fun j hj => h3 j (hd j hj)
            have keep : ∀ v u', Ext u u' → fact φ k v u' → SInv ops φ w0 s t S S' (Fi.upd seen k true) (Fi.upd f k v) u' := fun v u' hx hv => by
              refine ⟨hcl, .inl ⟨by rw [apart _ _ _ hsk]; exact h1, by rw [apart _ _ _ htk]; exact h1', Ext.trans h2 hx, fun j hs => ?_⟩⟩
              by_cases e : j = k
              · subst e; rw [Fi.upd_at]; exact hv
              · rw [apart _ _ _ e] at hs ⊢; exact fact_mono hmono j (h3 j hs) hx
            split
            · rename_i hw
              rw [if_pos hw] at h5
              exact St.GivesR.mono h5 fun v u' hv => keep _ _ hv.1 hv.2
            · rename_i hw
              rw [if_neg hw] at h5
              exact keep _ _ (Ext.refl _) h5
          · exfalso
            have h4 := (List.all_eq_true.1 hst) k (List.mem_range.2 hlt)
            simp only [Bool.or_eq_true, decide_eq_true_eq] at h4
            rcases h4 with ((h4 | h4) | h4) | h4
            · exact hks h4
            · exact hkt h4
            · exact hkT h4
            · have := St.reach_seen hI.closed _ _ _ h1 h4
              rw [hn] at this; cases this

/-- A region that draws its order, with one append and then one store in it. -/
theorem flow {id : Nat} {w : World} (hm : P.follows .mixedOrders = true) (φ : List (Value → World → Prop)) (s t : Nat) (T : List Nat) (S S' : Value → World → World → Prop) (hok : flowOk ops a0.tmps.size = true) (hsel : Region.noSelect ops = true)
    (hst : ok2 ops s t T = true) (hmono : ∀ p ∈ φ, Mono p)
    (hobl : ∀ f, Obls P ops φ w.drew s t T S S' f 0 ops.toList a0)
    (hfin : ∀ (g : Nat → Value) u1 u2 u, Ext w.drew u1 → (∀ j, j < ops.size → j ≠ s → j ≠ t → fact φ j (g j) u1) → S (g s) u1 u2 → S' (g s) u2 u → Q .normal (puts g 0 ops.toList a0) u) : (Code.region id ops true).wp P Q a0 w := by
  have h9 := hst
  unfold ok2 at h9
  simp only [Bool.and_eq_true, decide_eq_true_eq] at h9
  refine Fi.flow hm (SInv ops φ w.drew s t S S') hok hsel (fun f => ⟨fun j oj _ h => (by cases h), .inl ⟨rfl, rfl, Ext.refl _, fun j h => (by cases h)⟩⟩) (fun f => to_fi hst hmono f _ _ _ (fun i o h => by rw [Nat.zero_add, ← Array.getElem?_toList]; exact h) (hobl f)) fun g seen u hall hI => ?_
  rcases hI.holds with ⟨h1, _⟩ | ⟨_, u1, h2, h3, h4⟩
  · rw [hall s h9.1.1.1.1.1.1] at h1; cases h1
  · rcases h4 with ⟨h4, _⟩ | ⟨_, u2, h4, h5⟩
    · rw [hall t h9.1.1.1.1.1.2] at h4; cases h4
    · exact hfin g u1 u2 u h2 (fun j hj hjs hjt => h3 j hjs hjt (hall j hj)) h4 h5
end
end Go.Proofs.Ytgflhbpmkcggnaa.S2
