import Derived.Test.YtkdidghfcfcpfaaGreatMc2
import Derived.WalkLawsBesides
import Derived.Test.YtkdidghfcfcpfaaGreatMc4
import Derived.Test.YtkdidghfcfcpfaaGreatMc3
import Derived.Test.YtkdidghfcfcpfaaGreatMc0
namespace Go.Proofs.YtkdidghfcfcpfaaGreat
open Go.RowKit
structure StepK (K : Nat → Prop) (w w' : World) : Prop where
 stay : ∀ k, K k → k < w.heap.size → w'.heap[k]? = w.heap[k]?
 os : w'.os = w.os
 tape : w'.tape = w.tape
 output : w'.output = w.output
 size : w.heap.size ≤ w'.heap.size
theorem StepK.refl (K : Nat → Prop) (w : World) : StepK K w w := ⟨fun _ _ _ => rfl, rfl, rfl, rfl, zNr _⟩
theorem StepK.trans {K : Nat → Prop} {w w' w'' : World} (h : StepK K w w') (k : StepK K w' w'') : StepK K w w'' := ⟨fun i h1 h2 => (k.stay i h1 (Nat.lt_of_lt_of_le h2 h.size)).trans (h.stay i h1 h2), k.os.trans h.os, k.tape.trans h.tape, k.output.trans h.output, zNt h.size k.size⟩
theorem StepK.of_chg {S K : Nat → Prop} {w w' : World} (h : Chg S w w') (hS : ∀ k, k < w.heap.size → K k → ¬ S k) : StepK K w w' := ⟨fun k h1 h2 => h.block k h2 (hS k h2 h1), h.os, h.tape, h.output, h.size⟩
theorem StepK.mono {K K' : Nat → Prop} {w w' : World} (h : StepK K w w') (hk : ∀ i, K' i → K i) : StepK K' w w' := ⟨fun i h1 h2 => h.stay i (hk i h1) h2, h.os, h.tape, h.output, h.size⟩
def IterP (P : Program) {α : Type} (gf : Nat) (lb : Array Value) (encs : α → Array Value) (Ok : (Nat → Prop) → (Nat → Prop) → Nat → α → World → Prop) (Done : Nat → Prop) (Pan : Nat → List PanicEntry → Prop) (C : World → Prop) (w : World) : Prop :=
 ∀ (m l : Nat) (J : (Nat → Prop) → (Nat → Prop) → Nat → World → Prop) (Jx : World → Prop) (W : World), Ext w W →
  (∀ D K k A, J D K k A → C A) →
  (∀ D K k A D' K' A', J D K k A → Chg D A A' → (∀ i, D' i → D i ∨ A.heap.size ≤ i) → (∀ i, K' i → K i ∨ A.heap.size ≤ i) → J D' K' k A') →
  (∀ A D K, Ext W A → (∀ i, D i → W.heap.size ≤ i) → (∀ i, K i → W.heap.size ≤ i) → J D K 0 A) →
  (∀ D K k x A, (∀ i, D i → W.heap.size ≤ i ∧ i < A.heap.size) → (∀ i, K i → W.heap.size ≤ i ∧ i < A.heap.size) → J D K k A → Ok D K k x A →
   YieldAt Fence.wide m P l (encs x) A fun e A' => StepK K A A' ∧ ((e = .returned (.bool true) ∧ J D K (k + 1) A') ∨ (e = .returned (.bool false) ∧ Jx A'))) →
  Calls P gf (#[.func (.yield l) #[] #[]] ++ lb) W fun e A => ((∃ v, e = .returned v) ∧ ((∃ D K k, J D K k A ∧ Done k) ∨ Jx A)) ∨ (∃ ch, e = .panicked ch ∧ ∃ D K k, J D K k A ∧ Pan k ch)
def bodyOwesK (K : Nat → Prop) (I : World → Prop) (Ix : Code → World → Prop) (A : World) : Exit → Act → World → Prop
 | .normal, _, A' => StepK K A A' ∧ I A'
 | .ret, _, A' => StepK K A A' ∧ Ix .ret A'
 | .exit id, _, A' => StepK K A A' ∧ Ix (.exit id) A'
 | .goto t, _, A' => StepK K A A' ∧ Ix (.goto t) A'
 | .panic _, _, _ => False
 | .outgrown, _, _ => False
theorem wpIn_overP {P : Program} {n : Nat} {α : Type} {g : Operand} {ps : Array Tmp} {assign body : Code} {Q : Exit → Act → World → Prop} {a : Act} {w : World}
    {gf : Nat} {lb : Array Value} (hg : a.eval g = .func (.func gf) #[] lb) (eg : ∀ args w, (callFunc gf args).run P w = .ok (.enter gf args) w)
    {encs : α → Array Value} {Ok : (Nat → Prop) → (Nat → Prop) → Nat → α → World → Prop} {Done : Nat → Prop} {Pan : Nat → List PanicEntry → Prop} {C : World → Prop} (hseq : IterP P gf lb encs Ok Done Pan C w) (hps : ∀ x, (encs x).size = ps.size)
    (I : (Nat → Prop) → (Nat → Prop) → Nat → World → Prop) (Ix : Code → World → Prop) (hC : ∀ D K k A, I D K k A → C A)
    (hI : ∀ D K k A D' K' A', I D K k A → Chg D A A' → (∀ i, D' i → D i ∨ A.heap.size ≤ i) → (∀ i, K' i → K i ∨ A.heap.size ≤ i) → I D' K' k A') (hIx : ∀ c A A', Ix c A → Chg (fun i => i = w.heap.size + 1) A A' → Ix c A')
    (h0 : ∀ A D K, Ext w A → (∀ i, D i → w.heap.size ≤ i) → (∀ i, K i → w.heap.size ≤ i) → I D K 0 A)
    (hround : ∀ l D K k x A, l = w.heap.size + 1 → D l → K l → (∀ i, D i → w.heap.size ≤ i ∧ i < A.heap.size) → (∀ i, K i → w.heap.size ≤ i ∧ i < A.heap.size) → I D K k A → Ok D K k x A →
     assign.wpIn (Fence.wide.inRound l) (n - 1 - 1) P (Exit.then (fun a₁ A1 => StepK K A A1 ∧ ∀ A2, Chg (fun i => i = l) A1 A2 → body.wpIn (Fence.wide.inRound l) (n - 1 - 1) P (bodyOwesK K (I D K (k + 1)) Ix A2) a₁ A2) (fun _ _ _ => False))
      { tmps := (ps.zip (encs x)).foldl (fun t (p, v) => t.setIfInBounds p v) a.tmps, defers := [] } A)
    (hOk : ∀ D K D' K' k x A, Ok D K k x A → (∃ o, A.heap[w.heap.size]? = some (.deferred o)) → (∃ o, A.heap[w.heap.size + 1]? = some (.loop o)) → (∀ i, D' i → D i ∨ i = w.heap.size ∨ i = w.heap.size + 1) → (∀ i, K' i → K i ∨ i = w.heap.size ∨ i = w.heap.size + 1) → (∀ i, D i → D' i) → (∀ i, K i → K' i) → Ok D' K' k x A)
    (hdone : ∀ D k W D0 K0, w.heap.size ≤ D → I D0 K0 k W → Done k → W.heap[D]? = some (.deferred (some [])) → Q .normal { a with defers := { target := .collected D, args := #[] } :: a.defers } W)
    (hpan : ∀ D k W D0 K0 ch, w.heap.size ≤ D → I D0 K0 k W → Pan k ch → W.heap[D]? = some (.deferred (some [])) → Q (.panic ch) { a with defers := { target := .collected D, args := #[] } :: a.defers } W)
    (hstop : ∀ D c W, w.heap.size ≤ D → Ix c W → W.heap[D]? = some (.deferred (some [])) → c.wpIn Fence.wide n P Q { a with defers := { target := .collected D, args := #[] } :: a.defers } W) :
    (Code.rangeFunc g ps assign body).wpIn Fence.wide n P Q a w := by
 refine wpIn_rangeFunc ?_
 intro fn hfn
 obtain ⟨rec, hrec⟩ : ∃ rec : LoopState → Option Code → Loop, rec = fun st pe => { state := st, pending := pe, fn, tmps := a.tmps, params := ps, assign, body, defers := w.heap.size } := ⟨_, rfl⟩
 obtain ⟨W1, hW1⟩ : ∃ W1, W1 = (w.alloc (.deferred (some []))).alloc (.loop (rec .ready none)) := ⟨_, rfl⟩
 have hx1 : Ext w W1 := by rw [hW1]; exact ((Below.refl _ w).alloc (zNr _) _).alloc (by simp) _
 have hz1 : W1.heap.size = w.heap.size + 2 := by rw [hW1]; simp
 have hL1 : W1.heap[w.heap.size + 1]? = some (.loop (rec .ready none)) := by
  rw [hW1]; have := World.alloc_heap_new (w.alloc (.deferred (some []))) (.loop (rec .ready none)); rwa [World.size_alloc] at this
 have hD1 : W1.heap[w.heap.size]? = some (.deferred (some [])) := by
  rw [hW1]; exact (Below.heap_alloc _ _ _ (by simp)).trans (World.alloc_heap_new w _)
 let up : (Nat → Prop) → Nat → Prop := fun D i => D i ∨ i = w.heap.size ∨ i = w.heap.size + 1
 refine ⟨w.heap.size + 1, [{ target := .collected w.heap.size, args := #[] }], W1, { target := .fn (.func gf) lb, args := #[.func (.yield (w.heap.size + 1)) #[] #[]] }, W1, gf,
  #[.func (.yield (w.heap.size + 1)) #[] #[]] ++ lb, W1, ?_, ?_, (fun _ _ => trivial), ?_, (fun h => (by cases h)), ?_⟩
 · rw [hW1, hrec]; exact run_enterLoop_outer _ _ _ _ _
 · simp only [resolve, hg]
   simp [go_sem]
 · simp [invoke, go_sem, eg]
 · refine callsIn_wide.2 ((hseq (n - 1 - 1) (w.heap.size + 1)
     (fun D K k A => I (up D) (up K) k A ∧ (∀ i, D i → w.heap.size + 2 ≤ i) ∧ A.heap[w.heap.size + 1]? = some (.loop (rec .ready none)) ∧ A.heap[w.heap.size]? = some (.deferred (some [])))
     (fun A => ∃ c, Ix c A ∧ A.heap[w.heap.size + 1]? = some (.loop (rec .done (some c))) ∧ A.heap[w.heap.size]? = some (.deferred (some [])))
     W1 hx1 (fun D K k A h => hC _ _ k A h.1) ?_ ?_ ?_).mono ?_)
   · rintro D K k A D' K' A' ⟨hi, hd0, hl, hd⟩ hc hD' hK'
     have lt1 := (zAg.1 hl).1
     have lt2 := (zAg.1 hd).1
     refine ⟨hI _ _ k A _ _ A' hi (hc.mono fun i _ hb => .inl hb) (fun i h => ?_) (fun i h => ?_), fun i h => ?_, (hc.block _ lt1 (fun hb => by have := hd0 _ hb; omega)).trans hl, (hc.block _ lt2 (fun hb => by have := hd0 _ hb; omega)).trans hd⟩
     · rcases h with h | h
       · rcases hD' i h with h | h
         · exact .inl (.inl h)
         · exact .inr h
       · exact .inl (.inr h)
     · rcases h with h | h
       · rcases hK' i h with h | h
         · exact .inl (.inl h)
         · exact .inr h
       · exact .inl (.inr h)
     · rcases hD' i h with h | h
       · exact hd0 i h
       · omega
   · intro A D K hx hD hK
     refine ⟨h0 A _ _ (hx1.trans hx) (fun i h => ?_) (fun i h => ?_), fun i h => by have := hD i h; omega, (hx.block _ (by omega)).trans hL1, (hx.block _ (by omega)).trans hD1⟩
     · rcases h with h | h | h
       · have := hD i h; omega
       · omega
       · omega
     · rcases h with h | h | h
       · have := hK i h; omega
       · omega
       · omega
   · rintro D K k x A hD hK ⟨hi, hd0, hl, hd⟩ hok
     have hy := run_yield (P := P) (args := encs x) hl (by rw [hrec]; exact hps x)
     rw [hrec] at hy
     refine ⟨fn, _, assign, body, hy, roundIn_of_wpIn hfn ?_⟩
     have hok' : Ok (up D) (up K) k x A := hOk _ _ _ _ k x A hok ⟨_, hd⟩ ⟨_, hl⟩ (fun i h => h) (fun i h => h) (fun i h => .inl h) (fun i h => .inl h)
     have hDu : ∀ i, up D i → w.heap.size ≤ i ∧ i < A.heap.size := fun i h => by
      rcases h with h | h | h
      · have := hD i h; omega
      · have := (zAg.1 hd).1; omega
      · have := (zAg.1 hl).1; omega
     have hKu : ∀ i, up K i → w.heap.size ≤ i ∧ i < A.heap.size := fun i h => by
      rcases h with h | h | h
      · have := hK i h; omega
      · have := (zAg.1 hd).1; omega
      · have := (zAg.1 hl).1; omega
     refine wpIn_mono (hround (w.heap.size + 1) (up D) (up K) k x A rfl (.inr (.inr rfl)) (.inr (.inr rfl)) hDu hKu hi hok') ?_
     intro e a₁ A1 hp
     cases e with
     | normal =>
      obtain ⟨hst, hb⟩ := hp
      have lt0 := (zAg.1 hl).1
      have lt00 := (zAg.1 hd).1
      have hl1 := (hst.stay (w.heap.size + 1) (.inr (.inr rfl)) lt0).trans hl
      have hd1 := (hst.stay w.heap.size (.inr (.inl rfl)) lt00).trans hd
      have lt1 := (zAg.1 hl1).1
      refine ⟨_, run_beginRound hl1 (by rw [hrec]), ?_⟩
      have hc2 := putObj_chg A1 (w.heap.size + 1) (.loop { rec .ready none with state := .busy })
      have hl2 : (A1.putObj (w.heap.size + 1) (.loop { rec .ready none with state := .busy })).heap[w.heap.size + 1]? = some (.loop { rec .ready none with state := .busy }) := World.putObj_heap_same lt1
      have hd2 := (hc2.block w.heap.size (by omega) (by omega)).trans hd1
      have fin : ∀ (jump : Option Code) (W3 : World), StepK (up K) (A1.putObj (w.heap.size + 1) (.loop { rec .ready none with state := .busy })) W3 →
          (Instr.endRound (w.heap.size + 1) jump).run P W3 = .ok (.bool jump.isNone) (W3.putObj (w.heap.size + 1) (.loop (rec (if jump.isNone then .ready else .done) jump))) ∧
          (W3.putObj (w.heap.size + 1) (.loop (rec (if jump.isNone then .ready else .done) jump))).heap[w.heap.size + 1]? = some (.loop (rec (if jump.isNone then .ready else .done) jump)) ∧
          (W3.putObj (w.heap.size + 1) (.loop (rec (if jump.isNone then .ready else .done) jump))).heap[w.heap.size]? = some (.deferred (some [])) ∧
          StepK K A (W3.putObj (w.heap.size + 1) (.loop (rec (if jump.isNone then .ready else .done) jump))) := fun jump W3 hs3 => by
       have hl3 := (hs3.stay _ (.inr (.inr rfl)) (zAg.1 hl2).1).trans hl2
       have hd3 := (hs3.stay _ (.inr (.inl rfl)) (zAg.1 hd2).1).trans hd2
       have lt3 := (zAg.1 hl3).1
       have hr := run_endRound (P := P) jump hl3
       rw [hrec] at hr ⊢
       refine ⟨hr, World.putObj_heap_same lt3, (World.putObj_heap_other (by omega)).trans hd3, ?_⟩
       have s1 : StepK K A A1 := hst.mono fun i h => .inl h
       have s2 : StepK K A1 (A1.putObj (w.heap.size + 1) (.loop { rec .ready none with state := .busy })) := ⟨fun i h1 h2 => World.putObj_heap_other (by have := hK i h1; omega), rfl, rfl, rfl, by simp⟩
       have s3 : StepK K (A1.putObj (w.heap.size + 1) (.loop { rec .ready none with state := .busy })) W3 := hs3.mono fun i h => .inl h
       rw [hrec] at s2 s3
       exact ((s1.trans s2).trans s3).trans ⟨fun i h1 h2 => World.putObj_heap_other (by have := hK i h1; omega), rfl, rfl, rfl, by simp⟩
      have hchg : ∀ (W3 : World) (o : Obj), Chg (up D) W3 (W3.putObj (w.heap.size + 1) o) := fun W3 o => (putObj_chg W3 _ o).mono fun i _ e => .inr (.inr e)
      refine wpIn_mono (hb _ hc2) ?_
      intro e a3 W3 hp
      cases e with
      | normal =>
       obtain ⟨hs3, hi3⟩ := hp
       obtain ⟨hr, hl4, hd4, hst4⟩ := fin none W3 hs3
       exact ⟨_, _, hr, hst4, .inl ⟨rfl, hI _ _ (k + 1) _ _ _ _ hi3 (hchg _ _) (fun i h => .inl h) (fun i h => .inl h), hd0, hl4, hd4⟩⟩
      | ret =>
       obtain ⟨hs3, hi3⟩ := hp
       obtain ⟨hr, hl4, hd4, hst4⟩ := fin (some .ret) W3 hs3
       exact ⟨_, _, hr, hst4, .inr ⟨rfl, .ret, hIx _ _ _ hi3 (putObj_chg _ _ _), hl4, hd4⟩⟩
      | exit id =>
       obtain ⟨hs3, hi3⟩ := hp
       obtain ⟨hr, hl4, hd4, hst4⟩ := fin (some (.exit id)) W3 hs3
       exact ⟨_, _, hr, hst4, .inr ⟨rfl, .exit id, hIx _ _ _ hi3 (putObj_chg _ _ _), hl4, hd4⟩⟩
      | goto t =>
       obtain ⟨hs3, hi3⟩ := hp
       obtain ⟨hr, hl4, hd4, hst4⟩ := fin (some (.goto t)) W3 hs3
       exact ⟨_, _, hr, hst4, .inr ⟨rfl, .goto t, hIx _ _ _ hi3 (putObj_chg _ _ _), hl4, hd4⟩⟩
      | panic ch => exact hp.elim
      | outgrown => exact hp.elim
     | ret => exact hp.elim
     | exit id => exact hp.elim
     | goto t => exact hp.elim
     | panic ch => exact hp.elim
     | outgrown => exact hp.elim
   · rintro e W2 (⟨⟨v, rfl⟩, (⟨D, K, k, ⟨hi, hd0, hl, hd⟩, hdn⟩ | ⟨c, hi, hl, hd⟩)⟩ | ⟨ch, rfl, D, K, k, ⟨hi, hd0, hl, hd⟩, hpn⟩)
     · have hr := run_endLoop (P := P) hl (by rw [hrec]; simp)
       rw [hrec] at hr
       exact ⟨none, _, hr, hdone _ k _ _ _ (zNr _) (hI _ _ k _ _ _ _ hi ((putObj_chg _ _ _).mono fun i _ e => .inr (.inr e)) (fun i h => .inl h) (fun i h => .inl h)) hdn ((World.putObj_heap_other (by omega)).trans hd)⟩
     · have hr := run_endLoop (P := P) hl (by rw [hrec]; simp)
       rw [hrec] at hr
       exact ⟨some c, _, hr, hstop _ c _ (zNr _) (hIx c _ _ hi (putObj_chg _ _ _)) ((World.putObj_heap_other (by omega)).trans hd)⟩
     · exact hpan _ k _ _ _ ch (zNr _) hi hpn hd
end Go.Proofs.YtkdidghfcfcpfaaGreat
namespace Go.Proofs.YtkdidghfcfcpfaaGreat
open Go.ChangeShapes Go.WideShapes Go.ChangeAt Go.RowKit
def gaveUp : List PanicEntry := [{ v := .iface 25 (.int .i64 4), recovered := false }]
theorem giveUp_any (w : World) : Calls Tryz.prog 136 #[] w fun e w' => e = .panicked gaveUp ∧ w' = w := by
 go_enter Tryz.func136, Tryz.ntmps136
 go_wp2
 exact ⟨rfl, rfl, rfl⟩
def GaveOr (v : Value) (n : Int) (w : World) (e : Ending) (w' : World) : Prop := (n = 0 ∧ e = .returned v ∨ n ≠ 0 ∧ e = .panicked gaveUp) ∧ w' = w
theorem readNum_any (v : Int) (n : Int) (w : World) : Calls Tryz.prog 169 #[.int .u64 v, .int .i64 n] w (GaveOr (.int .u64 v) n w) := by
 by_cases h : n = 0
 · subst h
   go_enter Tryz.func169, Tryz.ntmps169
   go_wp2_with fail
   go_ret
   exact ⟨.inl ⟨rfl, rfl⟩, rfl⟩
 · have d : (n != 0) = true := by simpa using h
   have H := zHd h
   clear h
   go_enter Tryz.func169, Tryz.ntmps169
   go_wp2_with fail
   refine (giveUp_any _).mono ?_
   rintro e w' ⟨rfl, rfl⟩
   exact ⟨rfl, .inr ⟨H.out, rfl⟩, rfl⟩
theorem readBytes_any (A : Option Addr) (k c : Nat) (n : Int) (w : World) : Calls Tryz.prog 170 #[.slice A k c, .int .i64 n] w (GaveOr (.slice A k c) n w) := by
 by_cases h : n = 0
 · subst h
   go_enter Tryz.func170, Tryz.ntmps170
   go_wp2_with fail
   go_ret
   exact ⟨.inl ⟨rfl, rfl⟩, rfl⟩
 · have d : (n != 0) = true := by simpa using h
   have H := zHd h
   clear h
   go_enter Tryz.func170, Tryz.ntmps170
   go_wp2_with fail
   refine (giveUp_any _).mono ?_
   rintro e w' ⟨rfl, rfl⟩
   exact ⟨rfl, .inr ⟨H.out, rfl⟩, rfl⟩
structure Got (B : Nat) (v : Value) (R : List (Ent × Hd)) (w : World) : Prop where
 row : w.ownsRow B 50 4 v R.length (erow R)
 each : ∀ p ∈ R, Mine B p w
theorem Got.nil (B : Nat) (w : World) : Got B (.slice none 0 0) [] w := ⟨World.ownsRow_nil _ _ _ _, fun p hp => by cases hp⟩
theorem Got.base {B B' : Nat} {v : Value} {R : List (Ent × Hd)} {w : World} (h : Got B v R w) (hB : B' ≤ B) : Got B' v R w := ⟨rowN_base h.row hB, fun p hp => (h.each p hp).base hB⟩
theorem Got.kept {B : Nat} {v : Value} {R : List (Ent × Hd)} {w w' : World} (h : Got B v R w) (hk : ∀ g, B ≤ g → g < w.heap.size → w'.heap[g]? = w.heap[g]?) : Got B v R w' := by
 refine ⟨rowN_kept h.row fun g hg => hk g (rowN_lt h.row g hg).1 (rowN_lt h.row g hg).2.1, fun p hp => ?_⟩
 have hm := h.each p hp
 exact ⟨row_kept hm.k fun g hg => hk g (row_lt hm.k g hg).1 (row_lt hm.k g hg).2, row_kept hm.v fun g hg => hk g (row_lt hm.v g hg).1 (row_lt hm.v g hg).2, hm.good⟩
theorem Got.below {B : Nat} {v : Value} {R : List (Ent × Hd)} {w w' : World} (h : Got B v R w) (hx : Ext w w') : Got B v R w' := h.kept fun g _ hg => hx.block g hg
def NextAns (ah l : List Nat) (w : World) (r lo hi : Nat) (x : Ending) (w' : World) : Prop :=
 w.grownBy w' (some r) ∧ ((∃ (e : Ent) (g : Hd) (rest : List Nat), x = .returned (e.at_ g) ∧ Rd w' r lo hi rest ∧ rest.length < l.length ∧ e.key.length ≤ ah.length + 32 ∧ Mine w.heap.size (e, g) w' ∧ (∀ e' rest', Stands ah l e' rest' → e' = e ∧ rest' = rest)) ∨
 (x = .panicked gaveUp ∧ ∀ e' rest', ¬ Stands ah l e' rest'))
theorem Stands.num {ah l rest : List Nat} {e : Ent} (h : Stands ah l e rest) : ∃ n r, Begins l n r ∧ n ≤ ah.length := by
 obtain ⟨hm, n, a1, a2, a3, a4⟩ := h
 exact ⟨n, _, ⟨⟨by have := (Ent.may_u64 hm).1.lt; omega⟩, a4⟩, a1⟩
def Stands1 (n : Nat) (ah l : List Nat) (e : Ent) (rest : List Nat) : Prop :=
 e.may = true ∧ n ≤ e.key.length ∧ ah.take n = e.key.take n ∧ l = bytesForm (e.key.drop n) ++ (form e.seq.toNat ++ (form e.kind.toNat ++ ((if e.kind = 1 then bytesForm e.val else []) ++ rest)))
theorem Stands.one {ah l rest l1 : List Nat} {e : Ent} {n : Nat} (h : Stands ah l e rest) (hb : Begins l n l1) : n ≤ ah.length ∧ Stands1 n ah l1 e rest := by
 obtain ⟨hm, m, a1, a2, a3, a4⟩ := h
 obtain ⟨rfl, rfl⟩ := Begins.unique hb ⟨⟨by have := (Ent.may_u64 hm).1.lt; omega⟩, a4⟩
 exact ⟨a1, hm, a2, a3, rfl⟩
def Stands2 (l : List Nat) (e : Ent) (rest : List Nat) : Prop := e.may = true ∧ l = form e.seq.toNat ++ (form e.kind.toNat ++ ((if e.kind = 1 then bytesForm e.val else []) ++ rest))
theorem Stands1.two {n : Nat} {ah l rest bs l2 : List Nat} {e : Ent} {k : Int} (h : Stands1 n ah l e rest) (ho : OutText 32 l bs k l2) : k = 0 ∧ e.key = ah.take n ++ bs ∧ Stands2 l2 e rest := by
 obtain ⟨hm, a1, a2, a3⟩ := h
 obtain ⟨u1, u2, u3, u4⟩ := Ent.may_u64 hm
 obtain ⟨b1, b2, b3, b4, b5⟩ := mayN_iff.1 hm
 obtain ⟨rfl, rfl, rfl⟩ := ho.same (.inl ⟨rfl, by rw [List.length_drop]; omega, ⟨by rw [List.length_drop]; have := u1.lt; omega⟩, a3⟩)
 exact ⟨rfl, by rw [a2, List.take_append_drop], hm, rfl⟩
def Stands3 (l : List Nat) (e : Ent) (rest : List Nat) : Prop := e.may = true ∧ l = form e.kind.toNat ++ ((if e.kind = 1 then bytesForm e.val else []) ++ rest)
theorem Stands2.three {l rest l2 : List Nat} {e : Ent} {n : Nat} {k : Int} (h : Stands2 l e rest) (ho : OutNum l n k l2) : k = 0 ∧ e.seq = (n : Int) ∧ Stands3 l2 e rest := by
 obtain ⟨hm, rfl⟩ := h
 obtain ⟨u1, u2, u3, u4⟩ := Ent.may_u64 hm
 obtain ⟨b1, b2, b3, b4, b5⟩ := mayN_iff.1 hm
 obtain ⟨rfl, rfl, rfl⟩ := ho.same (.inl ⟨rfl, u2, rfl⟩)
 exact ⟨rfl, by omega, hm, rfl⟩
def Stands4 (l : List Nat) (e : Ent) (rest : List Nat) : Prop := e.may = true ∧ l = (if e.kind = 1 then bytesForm e.val else []) ++ rest
theorem Stands3.four {l rest l2 : List Nat} {e : Ent} {n : Nat} {k : Int} (h : Stands3 l e rest) (ho : OutNum l n k l2) : k = 0 ∧ e.kind = (n : Int) ∧ Stands4 l2 e rest := by
 obtain ⟨hm, rfl⟩ := h
 obtain ⟨u1, u2, u3, u4⟩ := Ent.may_u64 hm
 obtain ⟨b1, b2, b3, b4, b5⟩ := mayN_iff.1 hm
 obtain ⟨rfl, rfl, rfl⟩ := ho.same (.inl ⟨rfl, u3, rfl⟩)
 exact ⟨rfl, by rcases b5 with ⟨b, _⟩ | ⟨b, _⟩ <;> omega, hm, rfl⟩
theorem Stands4.put {l rest l2 bs : List Nat} {e : Ent} {k : Int} (h : Stands4 l e rest) (hk : e.kind = 1) (ho : OutText 65536 l bs k l2) : k = 0 ∧ e.val = bs ∧ rest = l2 := by
 obtain ⟨hm, rfl⟩ := h
 obtain ⟨u1, u2, u3, u4⟩ := Ent.may_u64 hm
 obtain ⟨b1, b2, b3, b4, b5⟩ := mayN_iff.1 hm
 rw [if_pos hk] at ho
 obtain ⟨rfl, rfl, rfl⟩ := ho.same (.inl ⟨rfl, by rcases b5 with ⟨b, _⟩ | ⟨b, _⟩ <;> omega, u4, rfl⟩)
 exact ⟨rfl, rfl, rfl⟩
theorem Stands4.del {l rest : List Nat} {e : Ent} (h : Stands4 l e rest) (hk : e.kind ≠ 1) : e.val = [] ∧ rest = l := by
 obtain ⟨hm, rfl⟩ := h
 obtain ⟨b1, b2, b3, b4, b5⟩ := mayN_iff.1 hm
 rw [if_neg hk]
 refine ⟨?_, rfl⟩
 rcases b5 with ⟨b, _⟩ | ⟨b, bn⟩
 · exact absurd b hk
 · exact List.eq_nil_of_length_eq_zero bn
theorem grown_ext {w w1 w2 : World} {r : Nat} (h : w.grownBy w1 (some r)) (k : Ext w1 w2) : w.grownBy w2 (some r) :=
 h.trans ⟨k.os, k.tape, k.output, k.size, fun i hi _ => k.block i hi⟩
theorem grown_new {w w1 : World} {r g j : Nat} {u : Value} (h : w.grownBy w1 (some r)) (hg : w.heap.size ≤ g) : w.grownBy (w1.setCell ⟨g, j, none⟩ u) (some r) :=
 ⟨h.os, h.tape, h.output, by simpa [World.setCell] using h.size, fun i hi hne => (Below.heap_setCell w1 _ u i (by show i ≠ g; omega)).trans (h.block i hi hne)⟩
theorem Own.wall {B : Nat} {l : List Nat} {v : Value} {w w' : World} (h : Own B l v w) (hk : ∀ b, v.ownBlock = some b → w'.heap[b]? = w.heap[b]?) : Own B l v w' := row_kept h hk
theorem Rd.set {w : World} {r lo hi g j : Nat} {l : List Nat} (h : Rd w r lo hi l) (hg : hi ≤ g) (hr : r ≠ g) (u : Value) : Rd (w.setCell ⟨g, j, none⟩ u) r lo hi l := by
 obtain ⟨v, h1, h2⟩ := h.ex
 exact ⟨⟨v, h1.far hr u, h2.setCell (.inr hg) u⟩, h.apart, by have := h.top; simpa [World.setCell] using this, h.byt⟩
theorem Own.four {B g : Nat} {l : List Nat} {v a b c d : Value} {w : World} (h : Own B l v w) (hg : ∀ k, v.ownBlock = some k → g < k) : Own B l v ((((w.setCell ⟨g, 0, none⟩ a).setCell ⟨g, 1, none⟩ b).setCell ⟨g, 2, none⟩ c).setCell ⟨g, 3, none⟩ d) :=
 h.wall fun k hk => by
  have hne : k ≠ g := by have := hg k hk; omega
  rw [Below.heap_setCell _ _ _ _ (by exact hne), Below.heap_setCell _ _ _ _ (by exact hne), Below.heap_setCell _ _ _ _ (by exact hne), Below.heap_setCell _ _ _ _ (by exact hne)]
theorem wrap_i (n : Nat) : -9223372036854775808 ≤ wrap64 (n : Int) ∧ wrap64 (n : Int) ≤ 9223372036854775807 := by unfold wrap64; omega
theorem wrap_small {n : Nat} (h : n ≤ 9223372036854775807) : wrap64 (n : Int) = n := by unfold wrap64; omega
set_option maxRecDepth 100000 in
set_option maxHeartbeats 4000000 in
theorem next_any {w : World} {r lo hi lo2 hi2 : Nat} {l ah : List Nat} {v : Value} (h : Rd w r lo hi l) (hv : Bs w lo2 hi2 v ah) (hhi2 : hi2 ≤ w.heap.size) (hr2 : r < lo2 ∨ hi2 ≤ r) (hah : ∀ x ∈ ah, x < 256) (hal : ah.length ≤ 1000000000000) (hl : l.length ≤ 1000000000000) :
    Calls Tryz.prog 157 #[.pointer (some ⟨r, 0, none⟩), v] w (NextAns ah l w r lo hi) := by
 obtain ⟨w0, hw0⟩ : ∃ w0, w0 = w.alloc (.cells #[.slice none 0 0, .int .i64 0, .int .i64 0, .slice none 0 0] 50) := ⟨_, rfl⟩
 have HX0 : Hid (Ext w w0) := by rw [hw0]; exact ext_alloc _ _
 have HZ0 : Hid (w0.heap.size = w.heap.size + 1) := by rw [hw0]; simp [Hid]
 have HR4 : Hid (w0.heap[w.heap.size]? = some (.cells #[.slice none 0 0, .int .i64 0, .int .i64 0, .slice none 0 0] 50 (0, 0))) := by rw [hw0]; exact heap_at _ _ rfl
 have HV := zHd (hv.below HX0.out hhi2)
 have HRD := zHd (h.below HX0.out h.top h.lt)
 have HTOP := zHd h.top
 have HRW := zHd h.lt
 have HH := zHd (And.intro hhi2 hr2)
 have HAH := zHd hah
 have HL := zHd (And.intro hal hl)
 have HBYT := zHd h.byt
 obtain ⟨A, c, rfl, hc1, hc2, _, _⟩ := hv
 have hu : IntKind.u64.wrap (ah.length : Int) = (ah.length : Int) := by rw [IntKind.wrap_u64]; omega
 have HC := zHd (And.intro hc1 hc2)
 clear h hhi2 hr2 hah hal hl hc1 hc2
 go_enter Tryz.func157, Tryz.ntmps157
 go_wp2_with fail
 rw [← hw0]
 clear hw0
 refine (Number_out HRD.out).mono ?_
 rintro x w1 ⟨n, k1, l1, ho, rfl, hrd, hg⟩
 have HO1 := zHd ho
 have HRD1 := zHd hrd
 have HG1 : Hid (w.grownBy w1 (some r)) := ⟨hg.os.trans HX0.out.os, hg.tape.trans HX0.out.tape, hg.output.trans HX0.out.output, zNt HX0.out.size hg.size, fun i hi hne => (hg.block i (Nat.lt_of_lt_of_le hi HX0.out.size) hne).trans (HX0.out.block i hi)⟩
 have HG01 := zHd hg
 clear ho hrd hg
 go_wp2_with fail
 refine (readNum_any _ _ _).mono ?_
 rintro x w1' ⟨⟨hk, rfl⟩ | ⟨hk, rfl⟩, hw1⟩
 rotate_left
 · subst hw1
   refine ⟨rfl, HG1.out, .inr ⟨rfl, fun e rest hs => ?_⟩⟩
   obtain ⟨m, r9, hb, _⟩ := hs.num
   exact hk (HO1.out.same (.inl ⟨rfl, hb.n64, hb.eq⟩)).2.1
 subst hw1 hk
 have HB : Hid (Begins l n l1) := by
  rcases HO1.out with ⟨_, hb⟩ | ⟨h0, _⟩
  · exact hb
  · exact absurd h0 (by decide)
 by_cases hn : ah.length < n
 · have d : decide (ah.length < n) = true := by simpa using hn
   have dI : decide ((ah.length : Int) < (n : Int)) = true := by simp; omega
   have HN := zHd hn
   clear hn
   go_wp2_with fail
   refine (giveUp_any _).mono ?_
   rintro x w1' ⟨rfl, rfl⟩
   refine ⟨rfl, HG1.out, .inr ⟨rfl, fun e rest hs => ?_⟩⟩
   have h1 := (hs.one HB.out).1
   have h2 := HN.out
   omega
 have d : decide (ah.length < n) = false := by simpa using hn
 have dI : decide ((ah.length : Int) < (n : Int)) = false := by simp; omega
 have HN : Hid (n ≤ ah.length) := by unfold Hid; omega
 clear hn
 have HL1 : Hid (l1.length < l.length) := by
  have h1 := HB.out.eq
  have h2 := congrArg List.length h1
  rw [List.length_append] at h2
  have := form_pos n
  unfold Hid; omega
 go_wp2_with fail
 refine (Bytes_own HRD1.out (zNt (Nat.le_of_lt HL1.out) HL.out.2) (by decide) (by decide)).mono ?_
 rintro x w2 ⟨sA, sc, sb, k2, l2, ho, hown, rfl, hrd, hg⟩
 have HO2 := zHd ho
 have HS2 := zHd hown
 have HRD2 := zHd hrd
 have HG2 : Hid (w.grownBy w2 (some r)) := HG1.out.trans hg
 have HG02 : Hid (w0.grownBy w2 (some r)) := HG01.out.trans hg
 clear ho hown hrd hg HRD1
 go_wp2_with fail
 refine (readBytes_any _ _ _ _ _).mono ?_
 rintro x w1' ⟨⟨hk, rfl⟩ | ⟨hk, rfl⟩, hw1⟩
 rotate_left
 · subst hw1
   refine ⟨rfl, HG2.out, .inr ⟨rfl, fun e rest hs => hk ((hs.one HB.out).2.two HO2.out).1⟩⟩
 subst hw1 hk
 obtain ⟨A2, hA2, hA2n, hrun⟩ := head_run .u64 A ah.length c n HN.out HC.out.1
 have hrun' : ∀ w, (Instr.slice 22 (.slice A ah.length c) none (some (.int .u64 (n : Int))) none).run Tryz.prog w = .ok (.slice A2 n c) w := hrun
 have HAB : Hid (Bs w1' 0 w1'.heap.size (.slice A2 n c) (ah.take n)) := by
  have hv := HV.out
  obtain ⟨A', c', e1, h1, h2, h3, h4⟩ := hv
  injection e1 with e1 e2 e3
  subst e1 e3
  have hl : (ah.take n).length = n := by rw [List.length_take]; have := HN.out; omega
  have h5 : By w1' lo2 hi2 A ah := Sl.grown h4 HG02.out (by have := HH.out.1; have := HZ0.out; omega) (fun k hk => by injection hk with hk; have := HH.out.2; omega)
  have h6 := hA2 ah rfl _ _ _ h5
  exact ⟨A2, c, by rw [hl], by rw [hl]; have := HN.out; have := HC.out.1; omega, h2, fun e => h3 (hA2n e), Sl.wide h6 (Nat.zero_le _) (zNt HH.out.1 HG2.out.size)⟩
 have HS32 : Hid (sb.length ≤ 32) := by
  rcases HO2.out with ⟨_, h1, _⟩ | ⟨h0, _⟩
  · unfold Hid; omega
  · exact absurd rfl h0
 have HSB := zHd HS2.out.bs
 have HRW2 := zHd ((rows2_two (T := 22) HAB.out HSB.out (zNr _)).resolve_right (by omega))
 clear hA2 hA2n hrun
 go_wp2_with fail
 refine (concat_any _ 2 0 (w1'.heap.size + 1) _ _ _ HRW2.out (by simp) (by simp [maxLen]) (by simp) ?c1).mono ?_
 case c1 => have := HL.out; have := HS32.out; simp; omega
 rintro x w3 ⟨v3, rfl, hown, hb3⟩
 obtain ⟨key, hkey⟩ : ∃ key, key = ah.take n ++ sb := ⟨_, rfl⟩
 have HKEY := zHd hkey
 have hfl : [ah.take n, sb].flatten = key := by rw [hkey]; simp
 rw [hfl] at hown
 have hown2 : Own (w1'.heap.size + 1) key v3 w3 := by rw [World.size_alloc] at hown; exact hown
 obtain ⟨kA, kc, rfl⟩ := hown2.slice
 have HK3 := zHd hown2
 have HX3 : Hid (Ext w1' w3) := (ext_alloc _ _).trans (hb3.mono (by simp))
 have HKL : Hid (key.length ≤ 2000000000000) := by have := HL.out; have := HO2.out.len.1; have := HL1.out; rw [hkey]; unfold Hid; rw [List.length_append, List.length_take]; omega
 have HK32 : Hid (key.length ≤ ah.length + 32) := by have := HS32.out; rw [hkey]; unfold Hid; rw [List.length_append, List.length_take]; omega
 have HKB : Hid (∀ x ∈ key, x < 256) := by
  intro q hq
  rw [hkey] at hq
  rcases List.mem_append.1 hq with hq | hq
  · exact HAH.out q (List.mem_of_mem_take hq)
  · refine HBYT.out q ?_
    rw [HB.out.eq]
    exact List.mem_append.2 (.inr (HO2.out.len.2.2 q hq))
 clear hkey hfl hown hown2 hb3 hrun' hu d dI
 obtain ⟨w4, hw4⟩ : ∃ w4, w4 = w3.alloc (.cells #[.slice kA key.length kc, .int .i64 0, .int .i64 0, .slice none 0 0] 50) := ⟨_, rfl⟩
 have HX4 : Hid (Ext w3 w4) := by rw [hw4]; exact ext_alloc _ _
 have HE4 : Hid (w4.heap[w3.heap.size]? = some (.cells #[.slice kA key.length kc, .int .i64 0, .int .i64 0, .slice none 0 0] 50 (0, 0))) := by rw [hw4]; exact heap_at _ _ rfl
 have HXX : Hid (Ext w1' w4) := zEt HX3.out HX4.out
 have HG4 : Hid (w.grownBy w4 (some r)) := grown_ext HG2.out HXX.out
 have HRD4 : Hid (Rd w4 r lo hi l2) := HRD2.out.below HXX.out HRD2.out.top HRD2.out.lt
 have HK4 : Hid (Own w.heap.size key (.slice kA key.length kc) w4) := (HK3.out.below HX4.out).base (by have := HG2.out.size; omega)
 have HKG : Hid (∀ b, (Value.slice kA key.length kc).ownBlock = some b → b < w3.heap.size) := fun b hb => (row_lt HK3.out b hb).2
 have HGE : Hid (w.heap.size < w3.heap.size) := by have := HG02.out.size; have := HX3.out.size; have := HZ0.out; unfold Hid; omega
 obtain ⟨g, hg⟩ : ∃ g, g = w3.heap.size := ⟨_, rfl⟩
 have HL2 : Hid (l2.length ≤ 1000000000000) := by have := HL.out; have := HO2.out.len.2.1; have := HL1.out; unfold Hid; omega
 go_wp2_with fail
 rw [← hw4]
 rw [← hg] at HE4 HKG HGE ⊢
 clear hw4 hg
 refine (Number_out HRD4.out).mono ?_
 rintro x w5 ⟨sq, k3, l3, ho, rfl, hrd, hg⟩
 have HO3 := zHd ho
 have HRD5 := zHd hrd
 have HG5 : Hid (w.grownBy w5 (some r)) := HG4.out.trans hg
 have hgr : g ≠ r := by have := HGE.out; have := HRW.out; omega
 have HGR := zHd hgr
 have hgl4 := (zAg.1 HE4.out).1
 have HE5 : Hid (w5.heap[g]? = some (.cells #[.slice kA key.length kc, .int .i64 0, .int .i64 0, .slice none 0 0] 50 (0, 0))) := (hg.block g hgl4 (fun e => by injection e with e; exact hgr e)).trans HE4.out
 have HK5 : Hid (Own w.heap.size key (.slice kA key.length kc) w5) := HK4.out.grown hg HRW.out
 have hr4w : w.heap.size < w4.heap.size := Nat.lt_trans HGE.out hgl4
 have HR5 : Hid (w5.heap[w.heap.size]? = some (.cells #[.slice none 0 0, .int .i64 0, .int .i64 0, .slice none 0 0] 50 (0, 0))) := by
  have h1 : w1'.heap[w.heap.size]? = w0.heap[w.heap.size]? := HG02.out.block _ (by have := HZ0.out; omega) (fun e => by injection e with e; have := HRW.out; omega)
  have h2 : w4.heap[w.heap.size]? = w1'.heap[w.heap.size]? := HXX.out.block _ (by have := HG02.out.size; have := HZ0.out; omega)
  have h3 : w5.heap[w.heap.size]? = w4.heap[w.heap.size]? := hg.block _ hr4w (fun e => by injection e with e; have := HRW.out; omega)
  exact h3.trans (h2.trans (h1.trans HR4.out))
 clear ho hrd hg hgr hgl4 hr4w HRD4 HE4 HK4
 go_wp2_with fail
 refine (readNum_any _ _ _).mono ?_
 rintro x w1'' ⟨⟨hk, rfl⟩ | ⟨hk, rfl⟩, hw1⟩
 rotate_left
 · subst hw1
   refine ⟨rfl, HG5.out, .inr ⟨rfl, fun e rest hs => hk (((hs.one HB.out).2.two HO2.out).2.2.three HO3.out).1⟩⟩
 subst hw1 hk
 have e0 := cell_of HE5.out (k := 0) rfl
 have e1 := cell_of HE5.out (k := 1) rfl
 have f1 := frozen_four (j := 1) HE5.out
 go_wp2_with fail
 obtain ⟨w6, hw6⟩ : ∃ w6, w6 = w1''.setCell ⟨g, 1, none⟩ (.int .i64 (wrap64 (sq : Int))) := ⟨_, rfl⟩
 rw [← hw6]
 have HE6 : Hid (w6.heap[g]? = some (.cells #[.slice kA key.length kc, .int .i64 (wrap64 (sq : Int)), .int .i64 0, .slice none 0 0] 50 (0, 0))) := by rw [hw6]; exact heap_setCell_same w1'' g 1 _ _ _ HE5.out
 have HG6 : Hid (w.grownBy w6 (some r)) := by rw [hw6]; exact grown_new HG5.out (Nat.le_of_lt HGE.out)
 have hhig : hi ≤ g := zNt HTOP.out (Nat.le_of_lt HGE.out)
 have HRD6 : Hid (Rd w6 r lo hi l3) := by rw [hw6]; exact HRD5.out.set hhig (fun e => HGR.out e.symm) _
 have HK6 : Hid (Own w.heap.size key (.slice kA key.length kc) w6) := by
  rw [hw6]; exact HK5.out.wall fun b hb => Below.heap_setCell _ _ _ _ (by have := HKG.out b hb; show b ≠ g; omega)
 have HR6 : Hid (w6.heap[w.heap.size]? = some (.cells #[.slice none 0 0, .int .i64 0, .int .i64 0, .slice none 0 0] 50 (0, 0))) := by
  rw [hw6]; exact (Below.heap_setCell _ _ _ _ (by have := HGE.out; show w.heap.size ≠ g; omega)).trans HR5.out
 have HIG := zHd hhig
 clear hw6 e0 e1 f1 HE5 HK5 HR5 HRD5 hhig
 refine (Number_out HRD6.out).mono ?_
 rintro x w7 ⟨kd, k4, l4, ho, rfl, hrd, hg⟩
 have HO4 := zHd ho
 have HRD7 := zHd hrd
 have HG7 : Hid (w.grownBy w7 (some r)) := HG6.out.trans hg
 have HE7 : Hid (w7.heap[g]? = some (.cells #[.slice kA key.length kc, .int .i64 (wrap64 (sq : Int)), .int .i64 0, .slice none 0 0] 50 (0, 0))) := (hg.block g (zAg.1 HE6.out).1 (fun e => by injection e with e; exact HGR.out e)).trans HE6.out
 have HK7 : Hid (Own w.heap.size key (.slice kA key.length kc) w7) := HK6.out.grown hg HRW.out
 have HR7 : Hid (w7.heap[w.heap.size]? = some (.cells #[.slice none 0 0, .int .i64 0, .int .i64 0, .slice none 0 0] 50 (0, 0))) := (hg.block _ (zAg.1 HR6.out).1 (fun e => by injection e with e; have := HRW.out; omega)).trans HR6.out
 clear ho hrd hg
 go_wp2_with fail
 refine (readNum_any _ _ _).mono ?_
 rintro x w7' ⟨⟨hk, rfl⟩ | ⟨hk, rfl⟩, hw1⟩
 rotate_left
 · subst hw1
   refine ⟨rfl, HG7.out, .inr ⟨rfl, fun e rest hs => hk ((((hs.one HB.out).2.two HO2.out).2.2.three HO3.out).2.2.four HO4.out).1⟩⟩
 subst hw1 hk
 obtain ⟨w8, hw8⟩ : ∃ w8, w8 = w7'.setCell ⟨g, 2, none⟩ (.int .i64 (wrap64 (kd : Int))) := ⟨_, rfl⟩
 have HE8 : Hid (w8.heap[g]? = some (.cells #[.slice kA key.length kc, .int .i64 (wrap64 (sq : Int)), .int .i64 (wrap64 (kd : Int)), .slice none 0 0] 50 (0, 0))) := by rw [hw8]; exact heap_setCell_same w7' g 2 _ _ _ HE7.out
 have HG8 : Hid (w.grownBy w8 (some r)) := by rw [hw8]; exact grown_new HG7.out (Nat.le_of_lt HGE.out)
 have HRD8 : Hid (Rd w8 r lo hi l4) := by rw [hw8]; exact HRD7.out.set HIG.out (fun e => HGR.out e.symm) _
 have HK8 : Hid (Own w.heap.size key (.slice kA key.length kc) w8) := by
  rw [hw8]; exact HK7.out.wall fun b hb => Below.heap_setCell _ _ _ _ (by have := HKG.out b hb; show b ≠ g; omega)
 have HR8 : Hid (w8.heap[w.heap.size]? = some (.cells #[.slice none 0 0, .int .i64 0, .int .i64 0, .slice none 0 0] 50 (0, 0))) := by
  rw [hw8]; exact (Below.heap_setCell _ _ _ _ (by have := HGE.out; show w.heap.size ≠ g; omega)).trans HR7.out
 have f2 := frozen_four (j := 2) HE7.out
 have e2 := cell_of HE7.out (k := 2) rfl
 have HW8 := zHd hw8
 clear hw8 HE7 HK7 HR7 HRD7
 have hlast : ∀ (x : Ent) (rest : List Nat), Stands ah l x rest → x.key = key ∧ x.seq = wrap64 (sq : Int) ∧ x.kind = wrap64 (kd : Int) ∧ Stands4 l4 x rest := fun x rest hs => by
  obtain ⟨_, h1⟩ := hs.one HB.out
  obtain ⟨_, h2, h3⟩ := h1.two HO2.out
  obtain ⟨_, h4, h5⟩ := h3.three HO3.out
  obtain ⟨_, h6, h7⟩ := h5.four HO4.out
  obtain ⟨b1, b2, b3, b4, b5⟩ := mayN_iff.1 hs.1
  refine ⟨by rw [HKEY.out]; exact h2, ?_, ?_, h7⟩
  · rw [wrap_small (by omega)]; exact h4
  · rw [wrap_small (by rcases b5 with ⟨b, _⟩ | ⟨b, _⟩ <;> omega)]; exact h6
 have HLAST := zHd hlast
 have HL4 : Hid (l4.length < l.length ∧ l4.length ≤ 1000000000000) := by have := HL.out; have := HO2.out.len.2.1; have := HO3.out.len.1; have := HO4.out.len.1; have := HL1.out; unfold Hid; omega
 obtain ⟨sv, hsv⟩ : ∃ sv, sv = wrap64 (sq : Int) := ⟨_, rfl⟩
 obtain ⟨kv, hkv⟩ : ∃ kv, kv = wrap64 (kd : Int) := ⟨_, rfl⟩
 have HSV : Hid (-9223372036854775808 ≤ sv ∧ sv ≤ 9223372036854775807) := by rw [hsv]; exact wrap_i sq
 have HKV : Hid (-9223372036854775808 ≤ kv ∧ kv ≤ 9223372036854775807) := by rw [hkv]; exact wrap_i kd
 rw [← hsv, ← hkv] at HE8 HLAST
 have HKVE := zHd hkv
 clear hlast hsv hkv
 have HSUB : Hid ((∀ y ∈ l1, y ∈ l) ∧ (∀ y ∈ l2, y ∈ l1) ∧ (∀ y ∈ l3, y ∈ l2) ∧ (∀ y ∈ l4, y ∈ l3)) := by
  refine ⟨fun y hy => ?_, fun y hy => ?_, fun y hy => ?_, fun y hy => ?_⟩
  · rw [HB.out.eq]; simp [hy]
  · rcases HO2.out with ⟨_, _, _, h⟩ | ⟨_, _, h, _⟩
    · rw [h]; simp [hy]
    · rw [h] at hy; exact hy
  · rcases HO3.out with ⟨_, h⟩ | ⟨_, _, h, _⟩
    · rw [h.eq]; simp [hy]
    · rw [h] at hy; exact hy
  · rcases HO4.out with ⟨_, h⟩ | ⟨_, _, h, _⟩
    · rw [h.eq]; simp [hy]
    · rw [h] at hy; exact hy
 go_upto_region 8 with (fail)
 rw [← HW8.out, ← HKVE.out]
 clear f2 e2
 by_cases hk1 : kv = 1
 · have dk : (kv == 1) = true := by rw [hk1]; rfl
   have e2 := cell_of HE8.out (k := 2) rfl
   have HK1 := zHd hk1
   clear hk1
   go_wp2_with fail
   refine (Bytes_own HRD8.out HL4.out.2 (by decide) (by decide)).mono ?_
   rintro x w9 ⟨vA, vc, vb, k5, l5, ho, hown, rfl, hrd, hg⟩
   have HO5 := zHd ho
   have HV9 := zHd hown
   have HRD9 := zHd hrd
   have HG9 : Hid (w.grownBy w9 (some r)) := HG8.out.trans hg
   have HE9 : Hid (w9.heap[g]? = some (.cells #[.slice kA key.length kc, .int .i64 sv, .int .i64 kv, .slice none 0 0] 50 (0, 0))) := (hg.block g (zAg.1 HE8.out).1 (fun e => by injection e with e; exact HGR.out e)).trans HE8.out
   have HK9 : Hid (Own w.heap.size key (.slice kA key.length kc) w9) := HK8.out.grown hg HRW.out
   have HR9 : Hid (w9.heap[w.heap.size]? = some (.cells #[.slice none 0 0, .int .i64 0, .int .i64 0, .slice none 0 0] 50 (0, 0))) := (hg.block _ (zAg.1 HR8.out).1 (fun e => by injection e with e; have := HRW.out; omega)).trans HR8.out
   have HVL : Hid (w8.heap.size ≤ w9.heap.size ∧ g < w8.heap.size) := ⟨hg.size, (zAg.1 HE8.out).1⟩
   clear ho hown hrd hg e2
   go_wp2_with fail
   refine (readBytes_any _ _ _ _ _).mono ?_
   rintro x w9' ⟨⟨hk, rfl⟩ | ⟨hk, rfl⟩, hw1⟩
   rotate_left
   · subst hw1
     refine ⟨rfl, HG9.out, .inr ⟨rfl, fun e rest hs => ?_⟩⟩
     obtain ⟨_, _, h3, h4⟩ := HLAST.out e rest hs
     exact hk (h4.put (h3.trans HK1.out) HO5.out).1
   subst hw1 hk
   obtain ⟨wa, hwa⟩ : ∃ wa, wa = w9'.setCell ⟨g, 3, none⟩ (.slice vA vb.length vc) := ⟨_, rfl⟩
   have HEa : Hid (wa.heap[g]? = some (.cells #[.slice kA key.length kc, .int .i64 sv, .int .i64 kv, .slice vA vb.length vc] 50 (0, 0))) := by rw [hwa]; exact heap_setCell_same w9' g 3 _ _ _ HE9.out
   have HGa : Hid (w.grownBy wa (some r)) := by rw [hwa]; exact grown_new HG9.out (Nat.le_of_lt HGE.out)
   have HRDa : Hid (Rd wa r lo hi l5) := by rw [hwa]; exact HRD9.out.set HIG.out (fun e => HGR.out e.symm) _
   have HKa : Hid (Own w.heap.size key (.slice kA key.length kc) wa) := by
    rw [hwa]; exact HK9.out.wall fun b hb => Below.heap_setCell _ _ _ _ (by have := HKG.out b hb; show b ≠ g; omega)
   have HVa : Hid (Own w8.heap.size vb (.slice vA vb.length vc) wa) := by
    rw [hwa]; exact HV9.out.wall fun b hb => Below.heap_setCell _ _ _ _ (by have := (row_lt HV9.out b hb).1; have := HVL.out.2; show b ≠ g; omega)
   have HRa : Hid (wa.heap[w.heap.size]? = some (.cells #[.slice none 0 0, .int .i64 0, .int .i64 0, .slice none 0 0] 50 (0, 0))) := by
    rw [hwa]; exact (Below.heap_setCell _ _ _ _ (by have := HGE.out; show w.heap.size ≠ g; omega)).trans HR9.out
   have c3 := cell_of HE9.out (k := 3) rfl
   have z3 := frozen_four (j := 3) HE9.out
   go_upto_region 10 with (fail)
   rw [← hwa]
   clear c3 z3 hwa HE9 HK9 HR9 HRD9 HE8 HK8 HR8 HRD8
   have e0 := cell_of HEa.out (k := 0) rfl
   have e1 := cell_of HEa.out (k := 1) rfl
   have e2 := cell_of HEa.out (k := 2) rfl
   have e3 := cell_of HEa.out (k := 3) rfl
   have c0 := cell_of HRa.out (k := 0) rfl
   have c1 := cell_of HRa.out (k := 1) rfl
   have c2 := cell_of HRa.out (k := 2) rfl
   have c3 := cell_of HRa.out (k := 3) rfl
   have z0 := frozen_four (j := 0) HRa.out
   have z1 := frozen_four (j := 1) HRa.out
   have z2 := frozen_four (j := 2) HRa.out
   have z3 := frozen_four (j := 3) HRa.out
   go_wp2_with fail
   refine entry_ret1 rfl rfl rfl (set_four HRa.out) ?_
   refine ⟨grown_new (grown_new (grown_new (grown_new HGa.out (zNr _)) (zNr _)) (zNr _)) (zNr _), .inl ⟨⟨key, sv, kv, vb⟩, ⟨kA, kc, vA, vc⟩, l5, rfl, ?_, ?_, HK32.out, ⟨?_, ?_, ⟨HKB.out, ?_, HSV.out.1, HSV.out.2, HKV.out.1, HKV.out.2⟩⟩, fun x rest hs => ?_⟩⟩
   · have hh := HTOP.out
     have hr : r ≠ w.heap.size := by have := HRW.out; omega
     exact (((HRDa.out.set hh hr _).set hh hr _).set hh hr _).set hh hr _
   · have := HO5.out.len.2.1; have := HL4.out.1; omega
   · exact HKa.out.four (by have := row_lt HK3.out; intro b hb; have := (this b hb).1; have := HG2.out.size; omega)
   · refine Own.four (HVa.out.base ?_) (fun b hb => ?_)
     · have := HVL.out.2; have := HGE.out; omega
     · have := (row_lt HVa.out b hb).1; have := HVL.out.2; have := HGE.out; omega
   · intro y hy
     have hs := HSUB.out
     exact HBYT.out y (hs.1 y (hs.2.1 y (hs.2.2.1 y (hs.2.2.2 y (HO5.out.len.2.2 y hy)))))
   · obtain ⟨h1, h2, h3, h4⟩ := HLAST.out x rest hs
     obtain ⟨_, h5, h6⟩ := h4.put (h3.trans HK1.out) HO5.out
     exact ⟨Ent.ext h1 h2 h3 h5, h6⟩
 · have dk : (kv == 1) = false := by simpa using hk1
   have HK1 := zHd hk1
   clear hk1
   have e0 := cell_of HE8.out (k := 0) rfl
   have e1 := cell_of HE8.out (k := 1) rfl
   have e2 := cell_of HE8.out (k := 2) rfl
   have e3 := cell_of HE8.out (k := 3) rfl
   have c0 := cell_of HR8.out (k := 0) rfl
   have c1 := cell_of HR8.out (k := 1) rfl
   have c2 := cell_of HR8.out (k := 2) rfl
   have c3 := cell_of HR8.out (k := 3) rfl
   have z0 := frozen_four (j := 0) HR8.out
   have z1 := frozen_four (j := 1) HR8.out
   have z2 := frozen_four (j := 2) HR8.out
   have z3 := frozen_four (j := 3) HR8.out
   go_wp2_with fail
   refine entry_ret1 rfl rfl rfl (set_four HR8.out) ?_
   refine ⟨grown_new (grown_new (grown_new (grown_new HG8.out (zNr _)) (zNr _)) (zNr _)) (zNr _), .inl ⟨⟨key, sv, kv, []⟩, ⟨kA, kc, none, 0⟩, l4, rfl, ?_, HL4.out.1, HK32.out, ⟨?_, Own.nil _ _, ⟨HKB.out, by simp, HSV.out.1, HSV.out.2, HKV.out.1, HKV.out.2⟩⟩, fun x rest hs => ?_⟩⟩
   · have hh := HTOP.out
     have hr : r ≠ w.heap.size := by have := HRW.out; omega
     exact (((HRD8.out.set hh hr _).set hh hr _).set hh hr _).set hh hr _
   · exact HK8.out.four (by have := row_lt HK3.out; intro b hb; have := (this b hb).1; have := HG2.out.size; omega)
   · obtain ⟨h1, h2, h3, h4⟩ := HLAST.out x rest hs
     obtain ⟨h5, h6⟩ := h4.del (by rw [h3]; exact HK1.out)
     exact ⟨Ent.ext h1 h2 h3 h5, h6⟩
def CloAns (w : World) (bx : Nat) (ah : List Nat) (e : Ent) (g : Hd) (x : Ending) (w' : World) : Prop :=
 w.grownBy w' (some bx) ∧ Boxed w' bx 22 (.slice g.kA e.key.length g.kc) ∧ ∃ A c, x = .returned (.slice A (kform ah e).length c) ∧ Own w.heap.size (kform ah e) (.slice A (kform ah e).length c) w'
theorem grown_of_set {w w1 w2 : World} {b : Nat} {v : Value} (h : Ext w w1) (k : Ext (w1.setCell ⟨b, 0, none⟩ v) w2) : w.grownBy w2 (some b) := by
 have h1 : w.grownBy w1 (some b) := ⟨h.os, h.tape, h.output, h.size, fun i hi _ => h.block i hi⟩
 exact grown_ext (h1.trans (grownBy_setCell' w1 b v)) k
theorem grown_below {w w1 w2 : World} {b : Nat} (h : w.grownBy w1 (some b)) (k : Below w.heap.size w1 w2) : w.grownBy w2 (some b) :=
 ⟨k.os.trans h.os, k.tape.trans h.tape, k.output.trans h.output, zNt h.size k.size, fun i hi hne => (k.block i hi).trans (h.block i hi hne)⟩
theorem behind_any (w : World) : Calls Tryz.prog 144 #[] w fun e w' => e = .returned (.func (.func 159) #[] #[.pointer (some ⟨w.heap.size, 0, none⟩)]) ∧ w' = w.alloc (.cells #[.slice none 0 0] 22) := by
 have hmf := mkf
 go_enter Tryz.func144, Tryz.ntmps144
 go_wp2_with fail
 go_ret
 exact ⟨rfl, rfl⟩
theorem enters_clo : ∀ args w, (callFunc 159 args).run Tryz.prog w = .ok (.enter 159 args) w := enters_of Tryz.func159 (by kernel_rfl) rfl
set_option maxRecDepth 100000 in
set_option maxHeartbeats 8000000 in
theorem clo_any {w : World} {lo hi lo2 hi2 bx : Nat} {e : Ent} {g : Hd} {ah : List Nat} {hv : Value} (hm : Em w lo hi e g) (hhi : hi ≤ w.heap.size) (hmay : e.may = true) (hbx : Boxed w bx 22 hv) (hah : Bs w lo2 hi2 hv ah) (hhi2 : hi2 ≤ w.heap.size) (hahl : ah.length ≤ 1000000000000) (hap : bx < lo ∨ hi ≤ bx) :
    Calls Tryz.prog 159 #[e.at_ g, .pointer (some ⟨bx, 0, none⟩)] w (CloAns w bx ah e g) := by
 obtain ⟨w1, hw1⟩ : ∃ w1, w1 = w.alloc (.cells #[.slice g.kA e.key.length g.kc, .int .i64 e.seq, .int .i64 e.kind, .slice g.vA e.val.length g.vc] 50) := ⟨_, rfl⟩
 have HX : Hid (Ext w w1) := by rw [hw1]; exact ext_alloc _ _
 have HE1 := zHd (hm.below HX.out hhi)
 have HB1 : Hid (w1.heap[w.heap.size]? = some (.cells #[.slice g.kA e.key.length g.kc, .int .i64 e.seq, .int .i64 e.kind, .slice g.vA e.val.length g.vc] 50 (0, 0))) := by rw [hw1]; exact heap_at _ _ rfl
 have HBX1 : Hid (Boxed w1 bx 22 hv) := (HX.out.block bx hbx.lt).trans hbx
 have HBL := zHd hbx.lt
 have HHI : Hid (hi ≤ w1.heap.size) := zNt hhi HX.out.size
 have HHI0 := zHd hhi
 have HAP := zHd hap
 have HSZ : Hid (w.heap.size ≤ w1.heap.size) := HX.out.size
 have HU := zHd (Ent.may_u64 hmay)
 obtain ⟨_, hkn, hs1, hs2, hd⟩ := mayN_iff.1 hmay
 have HSH := zHd (shared_any (hah.below HX.out hhi2) HE1.out.k (zNt hhi2 HX.out.size) HHI.out hahl (by omega))
 have HMAY := zHd hmay
 clear hah hhi2 hahl hap hm hhi hbx hmay
 obtain ⟨n, hn⟩ : ∃ n : Nat, e.seq = (n : Int) := ⟨e.seq.toNat, by omega⟩
 obtain ⟨d, hdn⟩ : ∃ d : Nat, e.kind = (d : Int) := ⟨e.kind.toNat, by omega⟩
 obtain ⟨s, hs⟩ : ∃ s, s = shr ah e.key := ⟨_, rfl⟩
 have HSL : Hid (s ≤ e.key.length ∧ e.key.length ≤ 32) := ⟨by rw [hs]; exact shr_le_r _ _, by omega⟩
 have hn64 : U64 n := ⟨by omega⟩
 have hd64 : U64 d := ⟨by omega⟩
 have hs64 : U64 s := ⟨by have := HSL.out; omega⟩
 have q1 : IntKind.u64.wrap (n : Int) = (n : Int) := by rw [IntKind.wrap_u64]; omega
 have q2 : IntKind.u64.wrap (d : Int) = (d : Int) := by rw [IntKind.wrap_u64]; omega
 have q3 : IntKind.u64.wrap (s : Int) = (s : Int) := by rw [IntKind.wrap_u64]; have := HSL.out; omega
 obtain ⟨tl, htl⟩ : ∃ tl, tl = e.key.drop s := ⟨_, rfl⟩
 have HTL : Hid (tl.length = e.key.length - s ∧ tl.length ≤ 32) := by rw [htl]; unfold Hid; rw [List.length_drop]; have := HSL.out; omega
 have hform : kform ah e = [form s, bytesForm tl, form n, form d].flatten ++ (if d = 1 then bytesForm e.val else []) := by
  unfold kform
  rw [← hs, ← htl, hn, hdn]
  have : ((d : Int) = 1) ↔ d = 1 := by omega
  by_cases h : d = 1 <;> simp [this, h]
 have hvl : e.val.length ≤ 65536 := by omega
 have hd12 : d = 1 ∨ d = 2 := by omega
 have hfl : [form s, bytesForm tl, form n, form d].flatten.length ≤ 80 := by
  have a0 := form_len64 hs64
  have a1 := (bytesForm_len (l := tl) ⟨by have := HTL.out.2; omega⟩).1
  have a2 := form_len64 hn64
  have a3 := form_len64 hd64
  have a4 := HTL.out.2
  simp only [List.flatten_cons, List.flatten_nil, List.append_nil, List.length_append]
  omega
 obtain ⟨F3, hF3⟩ : ∃ F, F = [form s, bytesForm tl, form n, form d].flatten := ⟨_, rfl⟩
 rw [← hF3] at hform hfl
 obtain ⟨KF, hKF⟩ : ∃ KF, KF = kform ah e := ⟨_, rfl⟩
 unfold CloAns
 rw [← hKF] at hform ⊢
 rw [← hs] at HSH
 have HF3 := zHd hF3
 have HVL := zHd hvl
 have HN := zHd hn64
 have HD := zHd hd64
 have HS := zHd hs64
 have HF := zHd hform
 have HFL := zHd hfl
 obtain ⟨A2, hA2, hA2n, hrun⟩ := tail_run g.kA e.key.length g.kc s HSL.out.1 (by obtain ⟨_, _, e1, h1, _⟩ := HE1.out.k; injection e1 with _ _ e3; rw [e3]; exact h1)
 have hrun' : ∀ w, (Instr.slice 22 (.slice g.kA e.key.length g.kc) (some (.int .i64 (s : Int))) none none).run Tryz.prog w = .ok (.slice A2 (e.key.length - s) (g.kc - s)) w := hrun
 have HTLB : Hid (∀ u, Em u lo hi e g → Bs u lo hi (.slice A2 tl.length (g.kc - s)) tl) := fun u hu => by
  obtain ⟨A', c', e1, h1, h2, h3, h4⟩ := hu.k
  injection e1 with e1 e2 e3
  subst e1 e3
  rw [htl]
  exact ⟨A2, _, rfl, by rw [List.length_drop]; omega, by omega, fun h => by have := h3 (hA2n h); omega, hA2 e.key rfl _ _ _ h4⟩
 have htn : e.key.length - s = tl.length := HTL.out.1.symm
 rw [htn] at hrun hrun'
 have HRUN := zHd hrun'
 clear hrun hrun' htn
 clear hF3 hn64 hd64 hs64 hform hvl hfl hkn hs1 hs2 hd hs htl hKF hA2 hA2n
 unfold Ent.at_
 have c1 : w1.cell? ⟨w.heap.size, 0, none⟩ = some (.slice g.kA e.key.length g.kc) := cell_of HB1.out rfl
 rw [hn, hdn] at HB1 hw1 ⊢
 clear hn hdn
 have cb := HBX1.out.cell
 have fb := HBX1.out.frozen
 go_enter Tryz.func159, Tryz.ntmps159
 go_upto_region 1 with (fail)
 rw [← hw1]
 clear hw1
 go_wp2_with fail
 refine HSH.out.mono ?_
 rintro x w2 ⟨rfl, hx2⟩
 have HX2 := zHd hx2
 have c2 := ext_cell hx2 c1
 have HB2 : Hid (w2.heap[w.heap.size]? = some (.cells #[.slice g.kA e.key.length g.kc, .int .i64 (n : Int), .int .i64 (d : Int), .slice g.vA e.val.length g.vc] 50 (0, 0))) := ext_heap hx2 HB1.out
 have HBX2 : Hid (Boxed w2 bx 22 hv) := (hx2.block bx HBX1.out.lt).trans HBX1.out
 have cb2 := HBX2.out.cell
 have fb2 := HBX2.out.frozen
 clear hx2 c1 cb fb
 obtain ⟨w3, hw3⟩ : ∃ w3, w3 = w2.setCell ⟨bx, 0, none⟩ (.slice g.kA e.key.length g.kc) := ⟨_, rfl⟩
 have hne : w.heap.size ≠ bx := by have := HBL.out; omega
 have HB3 : Hid (w3.heap[w.heap.size]? = some (.cells #[.slice g.kA e.key.length g.kc, .int .i64 (n : Int), .int .i64 (d : Int), .slice g.vA e.val.length g.vc] 50 (0, 0))) := by rw [hw3]; exact (Below.heap_setCell _ _ _ _ hne).trans HB2.out
 have HBX3 : Hid (Boxed w3 bx 22 (.slice g.kA e.key.length g.kc)) := by rw [hw3]; exact HBX2.out.set _
 have HE3 : Hid (Em w3 lo hi e g) := by
  rw [hw3]
  have h2 := HE1.out.below HX2.out HHI.out
  exact ⟨h2.k.setCell HAP.out _, h2.v.setCell HAP.out _, h2.bk, h2.bv, h2.s1, h2.s2, h2.d1, h2.d2⟩
 have HGR : Hid (∀ u, Ext w3 u → w.grownBy u (some bx)) := fun u hu => by rw [hw3] at hu; exact grown_of_set (zEt HX.out HX2.out) hu
 have HZ3 : Hid (w.heap.size ≤ w3.heap.size ∧ hi ≤ w3.heap.size) := by have h1 := HX.out.size; have h2 := HX2.out.size; have h3 := HHI.out; rw [hw3]; unfold Hid; simp only [World.setCell, Array.size_modify]; omega
 have b0 := cell_of HB3.out (k := 0) rfl
 have b1 := cell_of HB3.out (k := 1) rfl
 have b2 := cell_of HB3.out (k := 2) rfl
 have b3 := cell_of HB3.out (k := 3) rfl
 have hrun := HRUN.out
 go_upto_region 3 with (fail)
 rw [← hw3]
 clear hw3 hne c2 cb2 fb2
 refine flow (by kernel_rfl) [Is (.int .i64 (s : Int)), Is (.int .u64 (s : Int)), Own w.heap.size (form s), Is (.pointer (some ⟨w.heap.size, 0, none⟩)), Is (.slice g.kA e.key.length g.kc), Is (.int .i64 (s : Int)), Is (.slice A2 tl.length (g.kc - s)), Own w.heap.size (bytesForm tl), Is (.pointer (some ⟨w.heap.size, 1, none⟩)), Is (.int .i64 (n : Int)), Is (.int .u64 (n : Int)), Own w.heap.size (form n), Is (.pointer (some ⟨w.heap.size, 2, none⟩)), Is (.int .i64 (d : Int)), Is (.int .u64 (d : Int)), Own w.heap.size (form d), Rws 4 [form s, bytesForm tl, form n, form d], Own w.heap.size F3, Own w.heap.size F3] (by kernel_rfl) (by kernel_rfl) ?mono (fun f => ?obl) ?fin
 case mono =>
  simp only [List.forall_mem_cons, List.not_mem_nil, false_imp_iff, implies_true, and_true]
  exact ⟨.is _, .is _, .own _ _, .is _, .is _, .is _, .is _, .own _ _, .is _, .is _, .is _, .own _ _, .is _, .is _, .is _, .own _ _, .rws _ _, .own _ _, .own _ _⟩
 case fin =>
  intro g1 u hu hg
  simp only [puts, Act.put, zq]
  have h18 : Own w.heap.size F3 (g1 18) u := hg 18 (by decide)
  have hu2 := zEt (Ext.drew w3) hu
  have b2 := ext_cell hu2 b2
  have b3 := ext_cell hu2 b3
  obtain ⟨v, hv⟩ : ∃ v, v = g1 18 := ⟨_, rfl⟩
  rw [← hv] at h18 ⊢
  have HO := zHd h18
  obtain ⟨A, c, rfl⟩ := h18.slice
  have HXU := zHd hu2
  have HEU := zHd (HE3.out.below hu2 HZ3.out.2)
  have HHU : Hid (hi ≤ u.heap.size) := zNt HZ3.out.2 hu2.size
  clear h18 hv b0 b1 hg hu hu2 hrun
  rcases hd12 with rfl | rfl
  · rw [if_pos rfl] at HF
    have b2 : u.cell? ⟨w.heap.size, 2, none⟩ = some (.int .i64 1) := b2
    go_wp2_with fail
    refine (bytes_any _ lo hi e.val _ HEU.out.v HHU.out (zNt HVL.out (by decide))).mono ?_
    rintro x w4 ⟨v3, rfl, hown, hb3⟩
    have HX3 : Hid (Ext u w4) := hb3
    have HO3 : Hid (Own u.heap.size (bytesForm e.val) v3 w4) := hown
    have HO4 := zHd (HO.out.below hb3)
    have HL4 : Hid ((bytesForm e.val).length ≤ 65546) := by have := (bytesForm_len HU.out.2.2.2).1; have := HVL.out; unfold Hid; omega
    obtain ⟨A3, c3, rfl⟩ := HO3.out.slice
    clear hown hb3
    go_wp2_with (at_builtin; refine wpList_addbytes rfl (.tmp 33) (.tmp 36) rfl w.heap.size _ _ rfl HO4.out _ _ _ _ rfl HO3.out.bs (by have := HFL.out; have := HL4.out; omega) (zNt HZ3.out.1 (zNt HXU.out.size HX3.out.size)) ?_)
    intro A5 c5 w5 ho5 hb5
    rw [← HF.out] at ho5
    have HO5 := zHd ho5
    have HX5 : Hid (Below w.heap.size w4 w5) := hb5 w4 (Below.refl _ _)
    have hfl : F3.length + (bytesForm e.val).length = KF.length := by rw [HF.out, List.length_append]
    rw [hfl] at HO5 ⊢
    clear ho5 hb5 hfl
    go_wp2_with fail
    go_ret
    exact ⟨grown_below (HGR.out _ (zEt HXU.out HX3.out)) HX5.out, (HX5.out.block _ HBL.out).trans (((zEt HXU.out HX3.out).block _ HBX3.out.lt).trans HBX3.out), _, _, rfl, HO5.out⟩
  · rw [if_neg (by decide), List.append_nil] at HF
    have b2 : u.cell? ⟨w.heap.size, 2, none⟩ = some (.int .i64 2) := b2
    rw [← HF.out] at HO ⊢
    go_wp2_with fail
    go_ret
    exact ⟨HGR.out _ HXU.out, (HXU.out.block _ HBX3.out.lt).trans HBX3.out, _, _, rfl, HO.out⟩
 case obl =>
  refine ⟨fun u hu hd => ?_, fun u hu hd => ?_, fun u hu hd => ?_, fun u hu hd => ?_, fun u hu hd => ?_, fun u hu hd => ?_, fun u hu hd => ?_, fun u hu hd => ?_, fun u hu hd => ?_, fun u hu hd => ?_, fun u hu hd => ?_, fun u hu hd => ?_, fun u hu hd => ?_, fun u hu hd => ?_, fun u hu hd => ?_, fun u hu hd => ?_, fun u hu hd => ?_, fun u hu hd => ?_, fun u hu hd => ?_, trivial⟩
  all_goals try simp only [Act.put, zq]
  · go_simp
    exact zEr
  · have e0 : f 0 = _ := hd 0 (by kernel_rfl)
    go_simp
    exact zEr
  · have e1 : f 1 = _ := hd 1 (by kernel_rfl)
    go_simp
    refine (number_any s HS.out u).mono ?_
    rintro x w9 ⟨v, rfl, hown, hb9⟩
    exact ⟨v, rfl, hb9, ownsRow_base hown (zNt HZ3.out.1 (zEt (Ext.drew w3) hu).size)⟩
  · go_simp
    exact zEr
  · have e3 : f 3 = _ := hd 3 (by kernel_rfl)
    have q := ext_cell (zEt (Ext.drew w3) hu) b0
    go_simp
    exact zEr
  · go_simp
    exact zEr
  · have e4 : f 4 = _ := hd 4 (by kernel_rfl)
    have e5 : f 5 = _ := hd 5 (by kernel_rfl)
    go_simp
    exact zEr
  · have e6 : f 6 = _ := hd 6 (by kernel_rfl)
    go_simp
    refine (bytes_any _ lo hi tl u (HTLB.out u (HE3.out.below (zEt (Ext.drew w3) hu) HZ3.out.2)) (zNt HZ3.out.2 (zEt (Ext.drew w3) hu).size) (zNt HTL.out.2 (by decide))).mono ?_
    rintro x w9 ⟨v, rfl, hown, hb9⟩
    exact ⟨v, rfl, hb9, ownsRow_base hown (zNt HZ3.out.1 (zEt (Ext.drew w3) hu).size)⟩
  · go_simp
    exact zEr
  · have e8 : f 8 = _ := hd 8 (by kernel_rfl)
    have q := ext_cell (zEt (Ext.drew w3) hu) b1
    go_simp
    exact zEr
  · have e9 : f 9 = _ := hd 9 (by kernel_rfl)
    go_simp
    exact zEr
  · have e10 : f 10 = _ := hd 10 (by kernel_rfl)
    go_simp
    refine (number_any n HN.out u).mono ?_
    rintro x w9 ⟨v, rfl, hown, hb9⟩
    exact ⟨v, rfl, hb9, ownsRow_base hown (zNt HZ3.out.1 (zEt (Ext.drew w3) hu).size)⟩
  · go_simp
    exact zEr
  · have e12 : f 12 = _ := hd 12 (by kernel_rfl)
    have q := ext_cell (zEt (Ext.drew w3) hu) b2
    go_simp
    exact zEr
  · have e13 : f 13 = _ := hd 13 (by kernel_rfl)
    go_simp
    exact zEr
  · have e14 : f 14 = _ := hd 14 (by kernel_rfl)
    go_simp
    refine (number_any d HD.out u).mono ?_
    rintro x w9 ⟨v, rfl, hown, hb9⟩
    exact ⟨v, rfl, hb9, ownsRow_base hown (zNt HZ3.out.1 (zEt (Ext.drew w3) hu).size)⟩
  · have h2 : Own w.heap.size (form s) (f 2) u := hd 2 (by kernel_rfl)
    have h7 : Own w.heap.size (bytesForm tl) (f 7) u := hd 7 (by kernel_rfl)
    have h11 : Own w.heap.size (form n) (f 11) u := hd 11 (by kernel_rfl)
    have h15 : Own w.heap.size (form d) (f 15) u := hd 15 (by kernel_rfl)
    have hx0 := zHd h2.bs
    have hx1 := zHd h7.bs
    have hx2 := zHd h11.bs
    have hx3 := zHd h15.bs
    obtain ⟨v2, e2⟩ : ∃ v, v = f 2 := ⟨_, rfl⟩
    obtain ⟨v7, e7⟩ : ∃ v, v = f 7 := ⟨_, rfl⟩
    obtain ⟨v11, e11⟩ : ∃ v, v = f 11 := ⟨_, rfl⟩
    obtain ⟨v15, e15⟩ : ∃ v, v = f 15 := ⟨_, rfl⟩
    rw [← e2] at hx0 h2 ⊢
    rw [← e7] at hx1 h7 ⊢
    rw [← e11] at hx2 h11 ⊢
    rw [← e15] at hx3 h15 ⊢
    obtain ⟨A2', c2', rfl⟩ := h2.slice
    obtain ⟨A7', c7', rfl⟩ := h7.slice
    obtain ⟨A11', c11', rfl⟩ := h11.slice
    obtain ⟨A15', c15', rfl⟩ := h15.slice
    have hr := zHd (rws_lit u [.slice A2' (form s).length c2', .slice A7' (bytesForm tl).length c7', .slice A11' (form n).length c11', .slice A15' (form d).length c15'] [form s, bytesForm tl, form n, form d] 4 rfl rfl (fun i v l hv hl => by
     match i with
     | 0 => simp at hv hl; subst hv hl; exact ⟨_, _, hx0.out, zNr _⟩
     | 1 => simp at hv hl; subst hv hl; exact ⟨_, _, hx1.out, zNr _⟩
     | 2 => simp at hv hl; subst hv hl; exact ⟨_, _, hx2.out, zNr _⟩
     | 3 => simp at hv hl; subst hv hl; exact ⟨_, _, hx3.out, zNr _⟩
     | i + 4 => simp at hv))
    clear h2 e2 h7 e7 h11 e11 h15 e15
    go_simp
    exact ⟨below_new _ _, hr.out⟩
  · obtain ⟨hn, g1, h, e16, hh, x, hr⟩ := (show Rws 4 [form s, bytesForm tl, form n, form d] (f 16) u from hd 16 (by kernel_rfl))
    have HR := zHd hr
    clear hr hn
    go_simp
    refine (join_any (some ⟨g1, 0, none⟩) 4 0 h x _ u HR.out hh (by simp [maxLen]) (by simp) (by rw [← HF3.out]; have := HFL.out; omega) 4 rfl).mono ?_
    rintro x w9 ⟨v, rfl, hown, hb9⟩
    rw [← HF3.out] at hown
    exact ⟨v, rfl, hb9, ownsRow_base hown (zNt HZ3.out.1 (zEt (Ext.drew w3) hu).size)⟩
  · have H17 := zHd (show Own w.heap.size F3 (f 17) u from hd 17 (by kernel_rfl))
    go_simp
    exact ⟨Ext.refl _, H17.out⟩
theorem enters_chunk1 : ∀ args w, (callFunc 158 args).run Tryz.prog w = .ok (.enter 158 args) w := enters_of Tryz.func158 (by kernel_rfl) rfl
theorem chunk_any (A : Option Addr) (n c : Nat) (w : World) : Calls Tryz.prog 143 #[.slice A n c, .int .i64 4] w fun x w' => x = .returned (.func (.func 158) #[] #[.pointer (some ⟨w.heap.size, 0, none⟩), .pointer (some ⟨w.heap.size + 1, 0, none⟩)]) ∧ w' = (w.alloc (.cells #[.slice A n c] 28)).alloc (.cells #[.int .i64 4] 3) := by
 have hmf := mkf
 go_enter Tryz.func143, Tryz.ntmps143
 go_wp2_with fail
 go_ret
 simp
def ChunkOk (n : Nat) (A : Option Addr) (_n₁ k : Nat) (x : Option Addr × Nat) (_w : World) : Prop := 4 * k < n ∧ x = (A.map (·.add (4 * k * 4)), min 4 (n - 4 * k))
def chunkV (x : Option Addr × Nat) : Array Value := #[.slice x.1 x.2 x.2]
def ChunkC (bd be : Nat) (A : Option Addr) (n c : Nat) (w : World) : Prop := w.cell? ⟨bd, 0, none⟩ = some (.slice A n c) ∧ w.cell? ⟨be, 0, none⟩ = some (.int .i64 4)
theorem chunk_run (b o n c i m : Nat) (hm : 1 ≤ m) (h : i + m ≤ n) (_hc : n ≤ c) (w : World) :
    (Instr.slice 28 (.slice (some ⟨b, o, none⟩) n c) (some (.int .i64 (i : Int))) (some (.int .i64 ((i + m : Nat) : Int))) (some (.int .i64 ((i + m : Nat) : Int)))).run Tryz.prog w = .ok (.slice ((some (⟨b, o, none⟩ : Addr)).map (·.add (i * 4))) m m) w := by
 have he : Tryz.prog.underlying 28 = some (.slice (Tryz.prog.elem 28)) := by kernel_rfl
 rw [run_slice_lhm w 28 (some ⟨b, o, none⟩) n c he .i64 .i64 .i64 (i : Int) ((i + m : Nat) : Int) ((i + m : Nat) : Int) (by omega) (by omega) (by omega) (by omega), esize w]
 have h1 : ((i + m : Nat) : Int).toNat = i + m := by omega
 have h2 : (i : Int).toNat = i := by omega
 have h3 : ¬ i + m = i := by omega
 have h4 : i + m - i = m := by omega
 simp only [Result.andThen, sliced, h1, h2, h3, h4, if_false]
theorem chunk_tail (A : Option Addr) (n c i : Nat) (h : i ≤ n) (_hc : n ≤ c) : ∃ A2, ∀ w, (Instr.slice 28 (.slice A n c) (some (.int .i64 (i : Int))) none none).run Tryz.prog w = .ok (.slice A2 (n - i) (c - i)) w := by
 refine ⟨if c = i then A else A.map (·.add (i * 4)), fun w => ?_⟩
 have he : Tryz.prog.underlying 28 = some (.slice (Tryz.prog.elem 28)) := by kernel_rfl
 rw [run_slice_l w 28 A n c he .i64 (i : Int) (by omega) (by omega), esize w]
 simp [Result.andThen, sliced]
theorem wrap_in {n : Nat} (h : n ≤ 9223372036854775807) : wrap64 (n : Int) = (n : Int) := by unfold wrap64; omega
set_option maxRecDepth 100000 in
set_option maxHeartbeats 8000000 in
theorem chunk_iter {w : World} {bd be c n b o : Nat} (hc : n ≤ c) (hl : n ≤ 1000000000000) :
    Iter Tryz.prog 158 #[.pointer (some ⟨bd, 0, none⟩), .pointer (some ⟨be, 0, none⟩)] ((n + 3) / 4) chunkV (ChunkOk n (some ⟨b, o, none⟩)) (ChunkC bd be (some ⟨b, o, none⟩) n c) w := by
 intro mm lab J Jx W hx hC hJ hJx h0 hY
 have HCC := zHd hc
 have HL := zHd hl
 have HC := zHd hC
 have HJ := zHd hJ
 have HJ0 := zHd (h0 W (Ext.refl _))
 have HY := zHd hY
 clear hc hl hC hJ hJx h0 hY hx
 refine (callsIn_wide (n := 6)).1 ?_
 refine callsIn_of_wp Tryz.func158 rfl trivial ?_ rfl
 simp only [Tryz.ntmps158, List.size_toArray, List.length_cons, List.length_nil, Nat.reduceAdd, Nat.reduceSub, Array.replicate_succ, Array.replicate_zero, List.push_toArray, List.append_toArray, List.nil_append, List.cons_append]
 gi_wp2
 gi_loopw [4, 5] (fun x _ wr => ∃ k i : Nat, i = 4 * k ∧ k ≤ (n + 3) / 4 ∧ x = .int .i64 (i : Int) ∧ Hid (J W.heap.size k wr) ∧ Hid (Step W.heap.size W.heap.size W wr))
  (fun x _ _ => n - (intOf x).toNat)
 case atStart => exact ⟨0, 0, rfl, Nat.zero_le _, rfl, HJ0, Step.refl _ _ _⟩
 case round =>
  obtain ⟨k, i, hi, hk, rfl, HJK, HST⟩ := hrel
  obtain ⟨c1, c2⟩ := HC.out _ _ _ HJK.out
  have HI := zHd (And.intro hi hk)
  clear hi hk
  by_cases hlt : i < n
  · have d : decide ((i : Int) < (n : Int)) = true := by rw [decide_eq_true_eq]; exact Int.ofNat_lt.2 hlt
    have dn : decide (i < n) = true := by rw [decide_eq_true_eq]; exact hlt
    obtain ⟨m, hm⟩ : ∃ m, m = min 4 (n - i) := ⟨_, rfl⟩
    have HM : Hid (1 ≤ m ∧ m ≤ 4 ∧ i + m ≤ n) := by rw [hm]; unfold Hid; omega
    have HMI : Hid ((min (4 : Int) ((n - i : Nat) : Int)) = (m : Int)) := by rw [hm]; unfold Hid; omega
    have HME := zHd hm
    have HLT := zHd hlt
    obtain ⟨A2, hA2⟩ := chunk_tail (some ⟨b, o, none⟩) n c i (Nat.le_of_lt hlt) HCC.out
    obtain ⟨r, hr⟩ : ∃ r, r = n - i := ⟨_, rfl⟩
    rw [← hr] at hA2 HMI
    clear hm hlt hr
    refine wpIn_wide.2 ?_
    go_upto_region 3 with (fail)
    refine flow (by kernel_rfl) [Is (.int .i64 4), Is (.slice (some ⟨b, o, none⟩) n c), Is (.int .i64 (i : Int)), Is (.slice A2 r (c - i)), Is (.int .i64 (r : Int)), Is (.int .i64 (m : Int)), Is (.int .i64 (m : Int))] (by kernel_rfl) (by kernel_rfl) ?mono (fun f1 => ?obl) ?fin
    case mono =>
     simp only [List.forall_mem_cons, List.not_mem_nil, false_imp_iff, implies_true, and_true]
     and_intros <;> exact .is _
    case fin =>
     intro g1 u hu hg
     simp only [puts, Act.put, zq]
     have e6 : g1 6 = _ := hg 6 (by decide)
     rw [e6]
     have HXU : Hid (Ext wr u) := zEt (Ext.drew wr) hu
     have q1 := ext_cell HXU.out c1
     have q2 := ext_cell HXU.out c2
     clear hg hu c1 c2 e6 hA2
     have hj1 := HJ.out _ _ _ _ (zNr _) HJK.out (Chg.of_ext HXU.out)
     have hS : ∀ W, (Instr.slice 28 (.slice (some ⟨b, o, none⟩) n c) (some (.int .i64 (i : Int))) (some (.int .i64 ((i + m : Nat) : Int))) (some (.int .i64 ((i + m : Nat) : Int)))).run Tryz.prog W = .ok (.slice ((some (⟨b, o, none⟩ : Addr)).map (·.add (i * 4))) m m) W := fun W => chunk_run b o n c i m HM.out.1 HM.out.2.2 HCC.out W
     obtain ⟨fn, tmps, assign, body, hy, hR⟩ := HY.out W.heap.size k ((some (⟨b, o, none⟩ : Addr)).map (·.add (i * 4)), m) u (zNr _) (zNt HST.out.size HXU.out.size) hj1 (by have := HI.out; have := HLT.out; omega) ⟨by have := HI.out; have := HLT.out; omega, by rw [← HI.out.1, ← HME.out]⟩
     dsimp only [chunkV] at hy
     obtain ⟨X, hX⟩ : ∃ X, X = (some (⟨b, o, none⟩ : Addr)).map (·.add (i * 4)) := ⟨_, rfl⟩
     rw [← hX] at hy hS
     obtain ⟨j, hj⟩ : ∃ j, j = i + m := ⟨_, rfl⟩
     rw [← hj] at hS
     have hw : wrap64 ((i : Int) + (m : Int)) = (j : Int) := by rw [hj, ← Int.natCast_add]; exact wrap_in (by have := HM.out; have := HL.out; omega)
     have hw4 : wrap64 ((i : Int) + 4) = ((i + 4 : Nat) : Int) := wrap_in (n := i + 4) (by have := HM.out; have := HL.out; omega)
     have HR := zHd (roundIn_any (m' := 5) hR)
     clear hR hj1 hX hj
     go_upto_region 4 with (fail)
     refine (wpIn_wide (n := 6)).1 ?_
     gi_wp2
     refine RoundIn.mono HR.out ?_
     rintro e W3 ⟨hst, (⟨rfl, hj⟩ | ⟨rfl, hjx⟩)⟩
     · have HST3 := zHd ((HST.out.trans (Step.of_chg (S := fun _ => False) (Chg.of_ext HXU.out) HST.out.size (fun _ _ _ h => h))).trans hst)
       have HJ3 := zHd hj
       obtain ⟨c1, c2⟩ := HC.out _ _ _ hj
       clear hst hj hy hS hw q1 q2
       gi_wp2
       go_wp2_with fail
       refine ⟨⟨k + 1, i + 4, by have := HI.out.1; clear hw4; omega, by have := HI.out; have := HLT.out; clear hw4; omega, by rw [hw4], HJ3, HST3⟩, ?_⟩
       rw [hw4]
       have := HLT.out
       clear hw4
       simp [intOf]; omega
     · have HX3 := zHd hjx
       clear hst hjx hy hS hw hw4 q1 q2
       gi_wp2
       go_wp2_with fail
       refine bodyPost_ret (results_none rfl _ _ _) rfl ?_
       exact ⟨⟨_, rfl⟩, .inr HX3.out⟩
    case obl =>
     refine ⟨fun u hu hd => ?_, fun u hu hd => ?_, fun u hu hd => ?_, fun u hu hd => ?_, fun u hu hd => ?_, fun u hu hd => ?_, fun u hu hd => ?_, trivial⟩
     all_goals try simp only [Act.put, zq]
     · have hu2 := zEt (Ext.drew wr) hu
       have q0 := ext_cell hu2 c2
       go_simp
       exact zEr
     · have hu2 := zEt (Ext.drew wr) hu
       have q0 := ext_cell hu2 c1
       go_simp
       exact zEr
     · go_simp
       exact zEr
     · have e1 : f1 1 = _ := hd 1 (by kernel_rfl)
       have e2 : f1 2 = _ := hd 2 (by kernel_rfl)
       go_simp
       exact zEr
     · have e3 : f1 3 = _ := hd 3 (by kernel_rfl)
       go_simp
       exact zEr
     · have e0 : f1 0 = _ := hd 0 (by kernel_rfl)
       have e4 : f1 4 = _ := hd 4 (by kernel_rfl)
       rw [← HMI.out]
       go_simp
       exact zEr
     · have e5 : f1 5 = _ := hd 5 (by kernel_rfl)
       go_simp
       exact zEr
  · have d : decide ((i : Int) < (n : Int)) = false := by rw [decide_eq_false_iff_not]; exact fun h => hlt (Int.ofNat_lt.1 h)
    have dn : decide (i < n) = false := by rw [decide_eq_false_iff_not]; exact hlt
    have HLT := zHd hlt
    clear hlt
    gi_wp2
    refine ⟨rfl, _, results_none rfl _ _ _, ⟨_, rfl⟩, .inl ⟨W.heap.size, zNr _, ?_⟩⟩
    have h1 : k = (n + 3) / 4 := by have := HI.out; have := HLT.out; omega
    rw [← h1]
    exact HJK.out
end Go.Proofs.YtkdidghfcfcpfaaGreat
