/- A loop over a function: what the function owes, and what the loop's body owes (no function of the program stands here). -/
import Derived.Test.YtcofnbeemfhcpaaOrd
import Derived.RangeFuncNested
import Derived.RangeFuncBound
import Derived.RangeFuncCalls
import Derived.RangeFuncLeaves
import Derived.RangeFuncBox
import Derived.Shelf.Abstract
import Derived.Shelf.RegionOpen
import Derived.OwnWalkIn
import Derived.TacticsInMore
import Derived.LoopNIn
import Derived.LoopIn
namespace Go.Proofs.Ytcofnbeemfhcpaa
open Go.RowKit

/-- A world in which no block but those of S, and new ones, is another. -/
structure Chg (S : Nat → Prop) (w w' : World) : Prop where
  os : w'.os = w.os
  tape : w'.tape = w.tape
  output : w'.output = w.output
  size : w.heap.size ≤ w'.heap.size
  block : ∀ k, k < w.heap.size → ¬ S k → w'.heap[k]? = w.heap[k]?

section
variable {S S' : Nat → Prop} {w w' w'' : World}
theorem Chg.refl (S : Nat → Prop) (w : World) : Chg S w w := ⟨rfl, rfl, rfl, Nat.le_refl _, fun _ _ _ => rfl⟩
theorem Chg.trans (h : Chg S w w') (k : Chg S w' w'') : Chg S w w'' :=
  ⟨k.os.trans h.os, k.tape.trans h.tape, k.output.trans h.output, Nat.le_trans h.size k.size, fun i hi hs => (k.block i (Nat.lt_of_lt_of_le hi h.size) hs).trans (h.block i hi hs)⟩
theorem Chg.mono (h : Chg S w w') (hS : ∀ k, k < w.heap.size → S k → S' k) : Chg S' w w' := ⟨h.os, h.tape, h.output, h.size, fun i hi hs => h.block i hi (fun x => hs (hS i hi x))⟩
/-- A step that touches what is new since, too. -/
theorem Chg.trans_new (h : Chg S w w') (k : Chg S' w' w'') (hS : ∀ i, i < w.heap.size → S' i → S i) : Chg S w w'' :=
  ⟨k.os.trans h.os, k.tape.trans h.tape, k.output.trans h.output, Nat.le_trans h.size k.size, fun i hi hs => (k.block i (Nat.lt_of_lt_of_le hi h.size) (fun x => hs (hS i hi x))).trans (h.block i hi hs)⟩
theorem Chg.of_below (h : Below w.heap.size w w') : Chg S w w' := ⟨h.os, h.tape, h.output, h.size, fun i hi _ => h.block i hi⟩
theorem Chg.of_ext (h : Ext w w') : Chg S w w' := Chg.of_below h
theorem Chg.below {B : Nat} (h : Chg S w w') (hS : ∀ k, S k → B ≤ k) (hB : B ≤ w.heap.size) : Below B w w' := ⟨h.os, h.tape, h.output, h.size, fun i hi => h.block i (by omega) (fun x => by have := hS i x; omega)⟩
theorem Chg.grown {row : Option Nat} (hg : w.grownBy w' row) (hr : ∀ k, row = some k → S k) : Chg S w w' := ⟨hg.os, hg.tape, hg.output, hg.size, fun i hi hs => hg.block i hi (fun e => hs (hr i e.symm))⟩
theorem Chg.setCell (w : World) (p : Addr) (u : Value) (hp : S p.block) : Chg S w (w.setCell p u) := ⟨rfl, rfl, rfl, by simp [World.setCell], fun i _ hs => Below.heap_setCell _ _ _ _ (fun e => hs (e ▸ hp))⟩
theorem Chg.alloc (w : World) (o : Obj) : Chg S w (w.alloc o) := Chg.of_below ((Below.refl _ _).alloc (Nat.le_refl _) _)
theorem Chg.drew (w : World) : Chg S w w.drew := Chg.of_below (Below.refl _ _).drew
theorem Chg.nothing (h : Chg (fun _ => False) w w') : Below w.heap.size w w' := ⟨h.os, h.tape, h.output, h.size, fun i hi => h.block i hi id⟩
end

/-- A row of the call's own stays where its block stays. -/
theorem row_kept {w w' : World} {base : Nat} {e : TypeId} {n : Nat} {v : Value} {xs : List Value} (h : w.ownsRow base e 1 v n xs) (hk : ∀ g, v.ownBlock = some g → w'.heap[g]? = w.heap[g]?) : w'.ownsRow base e 1 v n xs := by
  obtain ⟨h1, h2⟩ := h
  refine ⟨h1, ?_⟩
  rcases h2 with h2 | ⟨g, cap, cur, hv, hg, hh, r⟩
  · exact Or.inl h2
  · exact Or.inr ⟨g, cap, cur, hv, hg, (hk g (by rw [hv]; rfl)).trans hh, r⟩
theorem row_lt {w : World} {base : Nat} {e : TypeId} {n : Nat} {v : Value} {xs : List Value} (h : w.ownsRow base e 1 v n xs) : ∀ g, v.ownBlock = some g → base ≤ g ∧ g < w.heap.size := by
  intro g hg
  rcases h.2 with ⟨rfl, _⟩ | ⟨g', cap, cur, hv, hb, hh, r⟩
  · cases hg
  · rw [hv] at hg
    injection hg with hg
    subst hg
    exact ⟨hb, (Array.getElem?_eq_some_iff.1 hh).1⟩

/-- The blocks from a up to b are as they were. -/
def Stay (a b : Nat) (w w' : World) : Prop := ∀ k, a ≤ k → k < b → w'.heap[k]? = w.heap[k]?
theorem Stay.refl (a b : Nat) (w : World) : Stay a b w w := fun _ _ _ => rfl
theorem Stay.trans {a b : Nat} {w w' w'' : World} (h : Stay a b w w') (k : Stay a b w' w'') : Stay a b w w'' := fun i h1 h2 => (k i h1 h2).trans (h i h1 h2)
theorem Stay.ext {a b : Nat} {w w' : World} (h : Ext w w') (hb : b ≤ w.heap.size) : Stay a b w w' := fun k _ h2 => h.block k (by omega)
/-- Blocks from a up to b. -/
def Btw (a b : Nat) (k : Nat) : Prop := a ≤ k ∧ k < b
/-- Blocks from a on. -/
def Frm (a : Nat) (k : Nat) : Prop := a ≤ k

/-- A step of a round: its blocks stay, none is lost. -/
structure Step (a b : Nat) (w w' : World) : Prop where
  stay : Stay a b w w'
  os : w'.os = w.os
  tape : w'.tape = w.tape
  output : w'.output = w.output
  size : w.heap.size ≤ w'.heap.size
theorem Step.refl (a b : Nat) (w : World) : Step a b w w := ⟨Stay.refl _ _ _, rfl, rfl, rfl, Nat.le_refl _⟩
theorem Step.trans {a b : Nat} {w w' w'' : World} (h : Step a b w w') (k : Step a b w' w'') : Step a b w w'' := ⟨h.stay.trans k.stay, k.os.trans h.os, k.tape.trans h.tape, k.output.trans h.output, Nat.le_trans h.size k.size⟩
theorem Step.of_chg {S : Nat → Prop} {a b : Nat} {w w' : World} (h : Chg S w w') (hb : b ≤ w.heap.size) (hS : ∀ k, a ≤ k → k < b → ¬ S k) : Step a b w w' := ⟨fun k h1 h2 => h.block k (by omega) (hS k h1 h2), h.os, h.tape, h.output, h.size⟩

theorem putObj_chg (W : World) (l : Nat) (o : Obj) : Chg (fun i => i = l) W (W.putObj l o) := ⟨rfl, rfl, rfl, by simp, fun k _ hk => World.putObj_heap_other hk⟩

theorem roundIn_any {P : Program} {m m' l : Nat} {f : FuncId} {tmps : Array Value} {assign body : Code} {w : World} {R : Ending → World → Prop} (h : RoundIn Fence.wide m P l f tmps assign body w R) : RoundIn Fence.wide m' P l f tmps assign body w R :=
  ⟨h.1, fun c cs _ => h.2 c cs (room_wide _)⟩

/-- What a function owes over which one ranges: it hands over, one behind the other, so many x; of the k-th 'Ok' holds. From its beginning (world W) to the first call of yield it makes memory alone (up to block n₁); between two calls it changes no memory but that. C: what the one who goes over it promises. -/
def Iter (P : Program) {α : Type} (gf : Nat) (lb : Array Value) (len : Nat) (encs : α → Array Value) (Ok : Nat → Nat → α → World → Prop) (C : World → Prop) (w : World) : Prop :=
  ∀ (m l : Nat) (J : Nat → Nat → World → Prop) (Jx : World → Prop) (W : World), Ext w W →
    (∀ n₁ k A, J n₁ k A → C A) → (∀ n₁ k A A', W.heap.size ≤ n₁ → J n₁ k A → Chg (Btw W.heap.size n₁) A A' → J n₁ k A') → (∀ A A', Jx A → Chg (Frm W.heap.size) A A' → Jx A') → (∀ A, Ext W A → J A.heap.size 0 A) →
    (∀ n₁ k x A, W.heap.size ≤ n₁ → n₁ ≤ A.heap.size → J n₁ k A → k < len → Ok n₁ k x A → YieldAt Fence.wide m P l (encs x) A fun e A' => Step W.heap.size n₁ A A' ∧ ((e = .returned (.bool true) ∧ J n₁ (k + 1) A') ∨ (e = .returned (.bool false) ∧ Jx A'))) →
    Calls P gf (#[.func (.yield l) #[] #[]] ++ lb) W fun e A => (∃ v, e = .returned v) ∧ ((∃ n₁, W.heap.size ≤ n₁ ∧ J n₁ len A) ∨ Jx A)

/-- What a round's body owes. -/
def bodyOwes (a b : Nat) (I : World → Prop) (Ix : Code → World → Prop) (A : World) : Exit → Act → World → Prop
  | .normal, _, A' => Step a b A A' ∧ I A'
  | .ret, _, A' => Step a b A A' ∧ Ix .ret A'
  | .exit id, _, A' => Step a b A A' ∧ Ix (.exit id) A'
  | .goto t, _, A' => Step a b A A' ∧ Ix (.goto t) A'
  | .panic _, _, _ => False
  | .outgrown, _, _ => False

/-- The loop. -/
theorem wpIn_over {P : Program} {n : Nat} {α : Type} {g : Operand} {ps : Array Tmp} {assign body : Code} {Q : Exit → Act → World → Prop} {a : Act} {w : World}
    {gf : Nat} {lb : Array Value} (hg : a.eval g = .func (.func gf) #[] lb) (eg : ∀ args w, (callFunc gf args).run P w = .ok (.enter gf args) w)
    {encs : α → Array Value} {len : Nat} {Ok : Nat → Nat → α → World → Prop} {C : World → Prop} (hseq : Iter P gf lb len encs Ok C w) (hps : ∀ x, (encs x).size = ps.size)
    (I : Nat → Nat → World → Prop) (Ix : Code → World → Prop) (hC : ∀ n₁ k A, I n₁ k A → C A)
    (hI : ∀ n₁ k A A', w.heap.size + 2 ≤ n₁ → I n₁ k A → Chg (Btw w.heap.size n₁) A A' → I n₁ k A') (hIx : ∀ c A A', Ix c A → Chg (Frm w.heap.size) A A' → Ix c A') (h0 : ∀ A, Ext w A → I A.heap.size 0 A)
    (hround : ∀ l n₁ k x A, w.heap.size ≤ l → l < n₁ → w.heap.size + 2 ≤ n₁ → n₁ ≤ A.heap.size → I n₁ k A → k < len → Ok n₁ k x A →
      assign.wpIn (Fence.wide.inRound l) (n - 1 - 1) P (Exit.then (fun a₁ A1 => Step w.heap.size n₁ A A1 ∧ ∀ A2, Chg (fun i => i = l) A1 A2 → body.wpIn (Fence.wide.inRound l) (n - 1 - 1) P (bodyOwes w.heap.size n₁ (I n₁ (k + 1)) Ix A2) a₁ A2) (fun _ _ _ => False))
        { tmps := (ps.zip (encs x)).foldl (fun t (p, v) => t.setIfInBounds p v) a.tmps, defers := [] } A)
    (hdone : ∀ D n₁ W, w.heap.size ≤ D → D < n₁ → w.heap.size + 2 ≤ n₁ → I n₁ len W → W.heap[D]? = some (.deferred (some [])) → Q .normal { a with defers := { target := .collected D, args := #[] } :: a.defers } W)
    (hstop : ∀ D c W, w.heap.size ≤ D → Ix c W → W.heap[D]? = some (.deferred (some [])) → c.wpIn Fence.wide n P Q { a with defers := { target := .collected D, args := #[] } :: a.defers } W) :
    (Code.rangeFunc g ps assign body).wpIn Fence.wide n P Q a w := by
  refine wpIn_rangeFunc ?_
  intro fn hfn
  obtain ⟨rec, hrec⟩ : ∃ rec : LoopState → Option Code → Loop, rec = fun st pe => { state := st, pending := pe, fn, tmps := a.tmps, params := ps, assign, body, defers := w.heap.size } := ⟨_, rfl⟩
  obtain ⟨W1, hW1⟩ : ∃ W1, W1 = (w.alloc (.deferred (some []))).alloc (.loop (rec .ready none)) := ⟨_, rfl⟩
  have hx1 : Ext w W1 := by rw [hW1]; exact ((Below.refl _ w).alloc (Nat.le_refl _) _).alloc (by simp) _
  have hz1 : W1.heap.size = w.heap.size + 2 := by rw [hW1]; simp
  have hL1 : W1.heap[w.heap.size + 1]? = some (.loop (rec .ready none)) := by
    rw [hW1]; have := World.alloc_heap_new (w.alloc (.deferred (some []))) (.loop (rec .ready none)); rwa [World.size_alloc] at this
  have hD1 : W1.heap[w.heap.size]? = some (.deferred (some [])) := by
    rw [hW1]; exact (Below.heap_alloc _ _ _ (by simp)).trans (World.alloc_heap_new w _)
  refine ⟨w.heap.size + 1, [{ target := .collected w.heap.size, args := #[] }], W1, { target := .fn (.func gf) lb, args := #[.func (.yield (w.heap.size + 1)) #[] #[]] }, W1, gf,
    #[.func (.yield (w.heap.size + 1)) #[] #[]] ++ lb, W1, ?_, ?_, (fun _ _ => trivial), ?_, (fun h => (by cases h)), ?_⟩
  · rw [hW1, hrec]; exact run_enterLoop_outer _ _ _ _ _
  · simp only [resolve, hg]
    simp [go_sem]
  · simp [invoke, go_sem, eg]
  · refine callsIn_wide.2 ((hseq (n - 1 - 1) (w.heap.size + 1)
      (fun n₁ k A => I n₁ k A ∧ A.heap[w.heap.size + 1]? = some (.loop (rec .ready none)) ∧ A.heap[w.heap.size]? = some (.deferred (some [])))
      (fun A => ∃ c, Ix c A ∧ A.heap[w.heap.size + 1]? = some (.loop (rec .done (some c))) ∧ A.heap[w.heap.size]? = some (.deferred (some [])))
      W1 hx1 (fun n₁ k A h => hC n₁ k A h.1) ?_ ?_ ?_ ?_).mono ?_)
    · rintro n₁ k A A' hn ⟨hi, hl, hd⟩ hc
      have lt1 := (Array.getElem?_eq_some_iff.1 hl).1
      have lt2 := (Array.getElem?_eq_some_iff.1 hd).1
      exact ⟨hI n₁ k A A' (by omega) hi (hc.mono fun i _ hb => ⟨by have := hb.1; omega, hb.2⟩), (hc.block _ lt1 (fun hb => by have := hb.1; omega)).trans hl, (hc.block _ lt2 (fun hb => by have := hb.1; omega)).trans hd⟩
    · rintro A A' ⟨c, hi, hl, hd⟩ hc
      have lt1 := (Array.getElem?_eq_some_iff.1 hl).1
      have lt2 := (Array.getElem?_eq_some_iff.1 hd).1
      exact ⟨c, hIx c A A' hi (hc.mono fun i _ hb => by have : W1.heap.size ≤ i := hb; show w.heap.size ≤ i; omega), (hc.block _ lt1 (fun hb => by have : W1.heap.size ≤ _ := hb; omega)).trans hl, (hc.block _ lt2 (fun hb => by have : W1.heap.size ≤ _ := hb; omega)).trans hd⟩
    · intro A hx
      exact ⟨h0 A (hx1.trans hx), (hx.block _ (by omega)).trans hL1, (hx.block _ (by omega)).trans hD1⟩
    · rintro n₁ k x A hn hnA ⟨hi, hl, hd⟩ hk hok
      have hy := run_yield (P := P) (args := encs x) hl (by rw [hrec]; exact hps x)
      rw [hrec] at hy
      refine ⟨fn, _, assign, body, hy, roundIn_of_wpIn hfn ?_⟩
      refine wpIn_mono (hround (w.heap.size + 1) n₁ k x A (by omega) (by omega) (by omega) hnA hi hk hok) ?_
      intro e a₁ A1 hp
      cases e with
      | normal =>
        obtain ⟨hst, hb⟩ := hp
        have hl1 := (hst.stay (w.heap.size + 1) (by omega) (by omega)).trans hl
        have hd1 := (hst.stay w.heap.size (Nat.le_refl _) (by omega)).trans hd
        have lt1 := (Array.getElem?_eq_some_iff.1 hl1).1
        refine ⟨_, run_beginRound hl1 (by rw [hrec]), ?_⟩
        have hc2 := putObj_chg A1 (w.heap.size + 1) (.loop { rec .ready none with state := .busy })
        have hl2 : (A1.putObj (w.heap.size + 1) (.loop { rec .ready none with state := .busy })).heap[w.heap.size + 1]? = some (.loop { rec .ready none with state := .busy }) := World.putObj_heap_same lt1
        have hd2 := (hc2.block w.heap.size (by omega) (by omega)).trans hd1
        have fin : ∀ (jump : Option Code) (W3 : World), Step w.heap.size n₁ (A1.putObj (w.heap.size + 1) (.loop { rec .ready none with state := .busy })) W3 →
            (Instr.endRound (w.heap.size + 1) jump).run P W3 = .ok (.bool jump.isNone) (W3.putObj (w.heap.size + 1) (.loop (rec (if jump.isNone then .ready else .done) jump))) ∧
            (W3.putObj (w.heap.size + 1) (.loop (rec (if jump.isNone then .ready else .done) jump))).heap[w.heap.size + 1]? = some (.loop (rec (if jump.isNone then .ready else .done) jump)) ∧
            (W3.putObj (w.heap.size + 1) (.loop (rec (if jump.isNone then .ready else .done) jump))).heap[w.heap.size]? = some (.deferred (some [])) ∧
            Step W1.heap.size n₁ A (W3.putObj (w.heap.size + 1) (.loop (rec (if jump.isNone then .ready else .done) jump))) := fun jump W3 hs3 => by
          have hl3 := (hs3.stay _ (by omega) (by omega)).trans hl2
          have hd3 := (hs3.stay _ (Nat.le_refl _) (by omega)).trans hd2
          have lt3 := (Array.getElem?_eq_some_iff.1 hl3).1
          have hr := run_endRound (P := P) jump hl3
          rw [hrec] at hr ⊢
          refine ⟨hr, World.putObj_heap_same lt3, (World.putObj_heap_other (by omega)).trans hd3, ?_⟩
          have s1 : Step W1.heap.size n₁ A A1 := ⟨fun i h1 h2 => hst.stay i (by omega) h2, hst.os, hst.tape, hst.output, hst.size⟩
          have s2 : Step W1.heap.size n₁ A1 (A1.putObj (w.heap.size + 1) (.loop { rec .ready none with state := .busy })) := ⟨fun i h1 h2 => World.putObj_heap_other (by omega), rfl, rfl, rfl, by simp⟩
          have s3 : Step W1.heap.size n₁ (A1.putObj (w.heap.size + 1) (.loop { rec .ready none with state := .busy })) W3 := ⟨fun i h1 h2 => hs3.stay i (by omega) h2, hs3.os, hs3.tape, hs3.output, hs3.size⟩
          exact ((s1.trans s2).trans s3).trans ⟨fun i h1 h2 => World.putObj_heap_other (by omega), rfl, rfl, rfl, by simp⟩
        have hchg : ∀ (W3 : World) (o : Obj), Chg (Btw w.heap.size n₁) W3 (W3.putObj (w.heap.size + 1) o) := fun W3 o => (putObj_chg W3 _ o).mono fun i _ e => ⟨by omega, by omega⟩
        have hchg2 : ∀ (W3 : World) (o : Obj), Chg (Frm w.heap.size) W3 (W3.putObj (w.heap.size + 1) o) := fun W3 o => (putObj_chg W3 _ o).mono fun i _ e => show w.heap.size ≤ i by omega
        refine wpIn_mono (hb _ hc2) ?_
        intro e a3 W3 hp
        cases e with
        | normal =>
          obtain ⟨hs3, hi3⟩ := hp
          obtain ⟨hr, hl4, hd4, hst4⟩ := fin none W3 hs3
          exact ⟨_, _, hr, hst4, .inl ⟨rfl, hI n₁ (k + 1) _ _ (by omega) hi3 (hchg _ _), hl4, hd4⟩⟩
        | ret =>
          obtain ⟨hs3, hi3⟩ := hp
          obtain ⟨hr, hl4, hd4, hst4⟩ := fin (some .ret) W3 hs3
          exact ⟨_, _, hr, hst4, .inr ⟨rfl, .ret, hIx _ _ _ hi3 (hchg2 _ _), hl4, hd4⟩⟩
        | exit id =>
          obtain ⟨hs3, hi3⟩ := hp
          obtain ⟨hr, hl4, hd4, hst4⟩ := fin (some (.exit id)) W3 hs3
          exact ⟨_, _, hr, hst4, .inr ⟨rfl, .exit id, hIx _ _ _ hi3 (hchg2 _ _), hl4, hd4⟩⟩
        | goto t =>
          obtain ⟨hs3, hi3⟩ := hp
          obtain ⟨hr, hl4, hd4, hst4⟩ := fin (some (.goto t)) W3 hs3
          exact ⟨_, _, hr, hst4, .inr ⟨rfl, .goto t, hIx _ _ _ hi3 (hchg2 _ _), hl4, hd4⟩⟩
        | panic ch => exact hp.elim
        | outgrown => exact hp.elim
      | ret => exact hp.elim
      | exit id => exact hp.elim
      | goto t => exact hp.elim
      | panic ch => exact hp.elim
      | outgrown => exact hp.elim
    · rintro e W2 ⟨⟨v, rfl⟩, (⟨n₁, hn, hi, hl, hd⟩ | ⟨c, hi, hl, hd⟩)⟩
      · have hr := run_endLoop (P := P) hl (by rw [hrec]; simp)
        rw [hrec] at hr
        exact ⟨none, _, hr, hdone _ n₁ _ (Nat.le_refl _) (by omega) (by omega) (hI n₁ len _ _ (by omega) hi ((putObj_chg _ _ _).mono fun i _ e => ⟨by omega, by omega⟩)) ((World.putObj_heap_other (by omega)).trans hd)⟩
      · have hr := run_endLoop (P := P) hl (by rw [hrec]; simp)
        rw [hrec] at hr
        exact ⟨some c, _, hr, hstop _ c _ (Nat.le_refl _) (hIx c _ _ hi ((putObj_chg _ _ _).mono fun i _ e => show w.heap.size ≤ i by omega)) ((World.putObj_heap_other (by omega)).trans hd)⟩


theorem row_chg {A A' : World} {S : Nat → Prop} {B n : Nat} {t : TypeId} {v : Value} {xs : List Value} (h : A.ownsRow B t 1 v n xs) (hc : Chg S A A') (hS : ∀ k, B ≤ k → ¬ S k) : A'.ownsRow B t 1 v n xs :=
  row_kept h fun g hg => hc.block g (row_lt h g hg).2 (hS g (row_lt h g hg).1)
theorem boxed_chg {A A' : World} {S : Nat → Prop} {b : Nat} {t : TypeId} {v : Value} (h : Boxed A b t v) (hc : Chg S A A') (hS : ¬ S b) : Boxed A' b t v := (hc.block b h.lt hS).trans h
theorem ext_alloc (w : World) (o : Obj) : Ext w (w.alloc o) := (Below.refl _ _).alloc (Nat.le_refl _) _
theorem ext_cell {w u : World} {p : Addr} {v : Value} (hu : Ext w u) (h : w.cell? p = some v) : u.cell? p = some v := (hu.cell (World.block_lt_of_cell? w _ h)).trans h
theorem cell_new {w : World} {p : Addr} {v : Value} (h : w.cell? p = some v) (o : Obj) : (w.alloc o).cell? p = some v := (World.cell?_alloc_lt w o p (World.block_lt_of_cell? w _ h)).trans h
theorem heap_at (w : World) (o : Obj) {k : Nat} (h : k = w.heap.size) : (w.alloc o).heap[k]? = some o := by subst h; exact World.alloc_heap_new w o
theorem cell_of {w : World} {b k : Nat} {c : Array Value} {t : TypeId} {v : Value} (h : w.heap[b]? = some (.cells c t (0, 0))) (hv : c[k]? = some v) : w.cell? ⟨b, k, none⟩ = some v := by simp [World.cell?, h, hv]
theorem ext_heap {w u : World} (h : Ext w u) {b : Nat} {o : Obj} (hb : w.heap[b]? = some o) : u.heap[b]? = some o := (h.block b (Array.getElem?_eq_some_iff.1 hb).1).trans hb
theorem ownsRow_base {w : World} {b b' : Nat} {e : TypeId} {v : Value} {n : Nat} {xs : List Value} (h : w.ownsRow b e 1 v n xs) (hb : b' ≤ b) : w.ownsRow b' e 1 v n xs := by
  obtain ⟨h1, h2⟩ := h
  refine ⟨h1, ?_⟩
  rcases h2 with h2 | ⟨g, cap, cur, hv, hg, hh, r⟩
  · exact Or.inl h2
  · exact Or.inr ⟨g, cap, cur, hv, Nat.le_trans hb hg, hh, r⟩
end Go.Proofs.Ytcofnbeemfhcpaa
