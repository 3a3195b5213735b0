/- Gonly Glist Irefb Iput Itake, joined. -/
import Derived.Test.YtlnihaeeoolkhaaMa4
import Derived.Maps.AppendAt
import Derived.OwnWalkIn
import Derived.Test.YtlnihaeeoolkhaaMa3

/- merge's only: a function that goes over those of another one's entries that are wanted, copies of them. -/
namespace Go.Proofs.Ytlnihaeeoolkhaa
open Go.ChangeShapes Go.WideShapes Go.ChangeAt Go.RowKit Go.Shelf
attribute [local go_sem] Oper.semAt_some

section
variable {S : Type} (fw : S → Ent → Bool) (nx : S → Ent → S)
/-- What is wanted of a list, told one after the other. -/
def wantL : S → List Ent → List Ent
  | _, [] => []
  | s, e :: l => if fw s e then e :: wantL (nx s e) l else wantL (nx s e) l
/-- What is known behind a list. -/
def stL (s : S) (l : List Ent) : S := l.foldl nx s
variable {fw nx}
theorem wantL_append (s : S) (a b : List Ent) : wantL fw nx s (a ++ b) = wantL fw nx s a ++ wantL fw nx (stL nx s a) b := by
  induction a generalizing s with
  | nil => rfl
  | cons e a ih =>
    simp only [List.cons_append, wantL]
    split
    · rw [ih, List.cons_append]; rfl
    · rw [ih]; rfl
theorem stL_next {s : S} {l : List Ent} {k : Nat} {e : Ent} (he : l[k]? = some e) : stL nx s (l.take (k + 1)) = nx (stL nx s (l.take k)) e := by
  rw [List.take_add_one, he]
  simp [stL, List.foldl_append]
theorem wantL_no {s : S} {l : List Ent} {k : Nat} {e : Ent} (he : l[k]? = some e) (h : fw (stL nx s (l.take k)) e = false) : (wantL fw nx s (l.take (k + 1))).length = (wantL fw nx s (l.take k)).length := by
  rw [List.take_add_one, he, wantL_append]
  simp [wantL, h]
theorem wantL_yes {s : S} {l : List Ent} {k : Nat} {e : Ent} (he : l[k]? = some e) (h : fw (stL nx s (l.take k)) e = true) :
    (wantL fw nx s (l.take (k + 1))).length = (wantL fw nx s (l.take k)).length + 1 ∧ (wantL fw nx s l)[(wantL fw nx s (l.take k)).length]? = some e := by
  constructor
  · rw [List.take_add_one, he, wantL_append]
    simp [wantL, h]
  · obtain ⟨hk, rfl⟩ := List.getElem?_eq_some_iff.1 he
    have hl : l = l.take k ++ (l[k] :: l.drop (k + 1)) := by rw [← List.drop_eq_getElem_cons hk, List.take_append_drop]
    have h2 : wantL fw nx s l = wantL fw nx s (l.take k) ++ (l[k] :: wantL fw nx (nx (stL nx s (l.take k)) l[k]) (l.drop (k + 1))) := by
      conv => lhs; rw [hl]
      rw [wantL_append]
      simp [wantL, h]
    rw [h2, List.getElem?_append_right (Nat.le_refl _)]
    simp
end

/-- A closure that says which entries are wanted: of state σ, which lies in the blocks F, of which it changes those of X; C1 holds of all that was there before. -/
structure Wants {S : Type} (B0 : Nat) (hf : Nat) (lb2 : Array Value) (fw : S → Ent → Bool) (nx : S → Ent → S) (L : List Ent) (X : Nat → Prop) (Wt : S → (Nat → Prop) → World → Prop) (C1 : World → Prop) : Prop where
  keep : ∀ σ F u u' T, Wt σ F u → Chg T u u' → (∀ b, F b → ¬ T b) → Wt σ F u'
  lt : ∀ σ F u, Wt σ F u → ∀ b, F b → b < u.heap.size
  more : ∀ u u', C1 u → Ext u u' → C1 u'
  box : ∀ σ F u, Wt σ F u → ∀ b, X b → B0 ≤ b ∧ NotU8 u b
  call : ∀ σ F u e g, Wt σ F u → C1 u → Em u 0 u.heap.size e g → e ∈ L → Calls Try.prog hf (#[e.at_ g] ++ lb2) u fun x u' => x = .returned (.bool (fw σ e)) ∧ (∃ F', Wt (nx σ e) F' u' ∧ ∀ b, F' b → F b ∨ u.heap.size ≤ b) ∧ Chg X u u'

/-- An entry in memory of its own, apart from D. -/
theorem live_own {B0 B : Nat} {D : Nat → Prop} {x : Ent × Hd} {A : World} (hk : Own B x.1.key (.slice x.2.kA x.1.key.length x.2.kc) A) (hv : Own B x.1.val (.slice x.2.vA x.1.val.length x.2.vc) A) (hD : ∀ b, D b → b < B)
    (hb : (∀ y ∈ x.1.key, y < 256) ∧ (∀ y ∈ x.1.val, y < 256) ∧ -9223372036854775808 ≤ x.1.seq ∧ x.1.seq ≤ 9223372036854775807 ∧ -9223372036854775808 ≤ x.1.kind ∧ x.1.kind ≤ 9223372036854775807) : Live B0 D x A := by
  have em : ∀ {A' : World}, Own B x.1.key (.slice x.2.kA x.1.key.length x.2.kc) A' → Own B x.1.val (.slice x.2.vA x.1.val.length x.2.vc) A' → Em A' 0 A'.heap.size x.1 x.2 := fun h1 h2 => ⟨h1.bs, h2.bs, hb.1, hb.2.1, hb.2.2.1, hb.2.2.2.1, hb.2.2.2.2.1, hb.2.2.2.2.2⟩
  refine ⟨em hk hv, fun A' T hc hT => ?_⟩
  have kp : ∀ {l : List Nat} {v : Value}, Own B l v A → Own B l v A' := fun h => row_kept h fun g hg => hc.block g (row_lt h g hg).2 fun ht => by
    have h1 := row_lt h g hg
    rcases hT g ht with h2 | h2 | h2
    · have := hD g h2; omega
    · omega
    · rcases h.2 with ⟨e1, _⟩ | ⟨g', cap, cur, hv', _, hh, _⟩
      · rw [e1] at hg; cases hg
      · rw [hv'] at hg
        injection hg with hg
        have e2 : g' = g := hg
        rw [e2] at hh
        exact h2.2 _ _ hh
  exact em (kp hk) (kp hv)
theorem seq_some (gf : Nat) (lb : Array Value) (w : World) : (binOp .eql 27 (.func (.func gf) #[] lb) .nilFunc).run Try.prog w = .ok (.bool false) w := by kernel_rfl
theorem enters_only1 : ∀ args w, (callFunc 46 args).run Try.prog w = .ok (.enter 46 args) w := enters_of Try.func46 (by kernel_rfl) rfl

/-- Values of operations that are done. -/
def VI (vals : Nat → Option Value) (seen : Nat → Bool) (f : Nat → Value) : Prop := ∀ j v, vals j = some v → seen j = true → f j = v
theorem VI.put {vals : Nat → Option Value} {seen : Nat → Bool} {f : Nat → Value} {k : Nat} {v : Value} (h : VI vals seen f) (hk : ∀ v', vals k = some v' → v = v') : VI vals (Fi.upd seen k true) (Fi.upd f k v) := fun j v' hv hs => by
  by_cases e : j = k
  · subst e; rw [Fi.upd_at]; exact hk v' hv
  · rw [Fi.upd_ne _ _ e] at hs ⊢; exact h j v' hv hs
/-- The world by what is done: nothing; wanted; the copy; yield. -/
def PW (A4 : World) (P2 : World → Prop) (P6 P7 : Value → World → Prop) : Bool → Bool → Bool → Value → Value → World → Prop
  | _, _, true, _, v7, u => P7 v7 u
  | _, true, false, v6, _, u => P6 v6 u
  | true, false, false, _, _, u => P2 u
  | false, false, false, _, _, u => u = A4

/-- What is known of the turned answer. -/
def V8 (s8 s7 : Bool) (f7 f8 : Value) : Prop := s8 = true → s7 = true ∧ ∃ y, f7 = .bool y ∧ f8 = .bool (!y)

/-- What holds ahead of the k-th entry. -/
structure OnI {S : Type} (fw : S → Ent → Bool) (nx : S → Ent → S) (s0 : S) (L : List Ent) (X : Nat → Prop) (Wt : S → (Nat → Prop) → World → Prop) (J : (Nat → Prop) → (Nat → Prop) → Nat → World → Prop) (W wl : World) (lab : Nat) (D K : Nat → Prop) (k : Nat) (A : World) : Prop where
  dz : ∀ i, D i → wl.heap.size ≤ i
  kz : ∀ i, K i → wl.heap.size ≤ i
  z : wl.heap.size ≤ A.heap.size
  box : Boxed A W.heap.size 55 (.func (.yield lab) #[] #[])
  st : ∃ F, J (fun i => D i ∨ X i) (fun i => K i ∨ F i ∨ i = W.heap.size) (wantL fw nx s0 (L.take k)).length A ∧ Wt (stL nx s0 (L.take k)) F A ∧ (∀ b, F b → X b ∨ W.heap.size ≤ b) ∧ ∀ b, F b → ¬ D b

theorem OnI.next {S : Type} {fw : S → Ent → Bool} {nx : S → Ent → S} {s0 : S} {L : List Ent} {X : Nat → Prop} {Wt : S → (Nat → Prop) → World → Prop} {J : (Nat → Prop) → (Nat → Prop) → Nat → World → Prop} {W wl : World} {lab k : Nat} {D K D' K' : Nat → Prop} {A A' : World} {B0 hf : Nat} {lb2 : Array Value} {C1 : World → Prop}
    (h : OnI fw nx s0 L X Wt J W wl lab D K k A) (hw : Wants B0 hf lb2 fw nx L X Wt C1) (hW : W.heap.size < wl.heap.size)
    (hJ : ∀ D K k A D' K' A', J D K k A → Chg D A A' → (∀ i, D' i → D i ∨ A.heap.size ≤ i) → (∀ i, K' i → K i ∨ A.heap.size ≤ i) → J D' K' k A')
    (hc : Chg D A A') (hD : ∀ i, D' i → D i ∨ A.heap.size ≤ i) (hK : ∀ i, K' i → K i ∨ A.heap.size ≤ i) : OnI fw nx s0 L X Wt J W wl lab D' K' k A' := by
  obtain ⟨F, h1, h2, h3, h4⟩ := h.st
  refine ⟨fun i hi => ?_, fun i hi => ?_, Nat.le_trans h.z hc.size, boxed_chg h.box hc (fun hd => by have := h.dz _ hd; omega), F, ?_, hw.keep _ _ _ _ _ h2 hc h4, h3, fun b hb hd => ?_⟩
  · rcases hD i hi with h9 | h9
    · exact h.dz i h9
    · exact Nat.le_trans h.z h9
  · rcases hK i hi with h9 | h9
    · exact h.kz i h9
    · exact Nat.le_trans h.z h9
  · refine hJ _ _ _ _ _ _ _ h1 (hc.mono fun _ _ hi => .inl hi) (fun i hi => ?_) (fun i hi => ?_)
    · rcases hi with hi | hi
      · exact (hD i hi).imp .inl id
      · exact .inl (.inr hi)
    · rcases hi with hi | hi
      · exact (hK i hi).imp .inl id
      · exact .inl (.inr hi)
  · rcases hD b hd with h9 | h9
    · exact h4 b hb h9
    · have := hw.lt _ _ _ h2 b hb; omega

/-- A value's block is none of these. -/
def FreeB (D : Nat → Prop) (v : Value) : Prop := ∀ b, v.ownBlock = some b → ¬ D b
/-- The k-th that is handed over, in memory of its own. -/
def NOk (B0 N : Nat) (L : List Ent) (D K : Nat → Prop) (k : Nat) (x : Ent × Hd) (A : World) : Prop := MOk B0 L D K k x A ∧ Mine N x A ∧ FreeB D (.slice x.2.kA x.1.key.length x.2.kc) ∧ FreeB D (.slice x.2.vA x.1.val.length x.2.vc)
/-- A function that goes over these, copies of them. -/
def NIter (gf : Nat) (lb : Array Value) (B0 N : Nat) (L : List Ent) (C : World → Prop) (X : Nat → Prop) (w : World) : Prop := IterX Try.prog gf lb entV (NOk B0 N L) (MEnd L) C X w
theorem NIter.weak {gf : Nat} {lb : Array Value} {B0 N : Nat} {L : List Ent} {C : World → Prop} {X : Nat → Prop} {w : World} (h : NIter gf lb B0 N L C X w) : MIter gf lb B0 L C X w :=
  fun m l J Jx W h1 h2 h3 h4 h5 hY => h m l J Jx W h1 h2 h3 h4 h5 fun D K k x A hd hk hj hok => hY D K k x A hd hk hj hok.1

set_option maxRecDepth 100000 in
set_option maxHeartbeats 16000000 in
theorem only_iterN {S : Type} {fw : S → Ent → Bool} {nx : S → Ent → S} {s0 : S} {L : List Ent} {X F0 : Nat → Prop} {Wt : S → (Nat → Prop) → World → Prop} {gf hf B0 b1 b2 : Nat} {lb lb2 : Array Value} {C0 C1 : World → Prop} {w : World}
    (hall : ∀ u, Ext w u → MIter gf lb B0 L C0 (fun _ => False) u) (eg : ∀ args w, (callFunc gf args).run Try.prog w = .ok (.enter gf args) w) (eh : ∀ args w, (callFunc hf args).run Try.prog w = .ok (.enter hf args) w) (hw : Wants B0 hf lb2 fw nx L X Wt C1)
    (hst : Wt s0 F0 w) (hF0 : ∀ b, F0 b → X b) (hX : ∀ b, X b → b < w.heap.size) (hB0 : B0 ≤ w.heap.size) (hkl : ∀ e ∈ L, e.key.length ≤ 140737488351232 ∧ e.val.length ≤ 140737488351232) :
    NIter 46 #[.pointer (some ⟨b1, 0, none⟩), .pointer (some ⟨b2, 0, none⟩)] B0 w.heap.size (wantL fw nx s0 L) (fun A => C0 A ∧ Boxed A b1 27 (.func (.func gf) #[] lb) ∧ Boxed A b2 55 (.func (.func hf) #[] lb2) ∧ C1 A) X w := by
  intro mm lab J Jx W hx hC hJ hJx h0 hY
  have HC := Lib.hid hC
  have HJ := Lib.hid hJ
  have HJX := Lib.hid hJx
  have HY := Lib.hid hY
  have HW := Lib.hid hw
  have HKL := Lib.hid hkl
  obtain ⟨W1, hW1⟩ : ∃ W1, W1 = W.alloc (.cells #[.func (.yield lab) #[] #[]] 55) := ⟨_, rfl⟩
  have HX1 : Hid (Ext W W1) := by rw [hW1]; exact ext_alloc _ _
  have HXw : Hid (Ext w W1) := Ext.trans hx HX1.out
  have HZ1 : Hid (W1.heap.size = W.heap.size + 1) := by rw [hW1]; simp [Hid]
  have HB1 : Hid (Boxed W1 W.heap.size 55 (.func (.yield lab) #[] #[])) := by rw [hW1]; exact heap_at _ _ rfl
  have HALL := Lib.hid (hall W1 HXw.out)
  have HST : Hid (∀ u, Ext W1 u → Wt s0 F0 u) := fun u hu => hw.keep _ _ _ _ (fun _ => False) hst (Chg.of_ext (Ext.trans HXw.out hu)) (fun _ _ h => h)
  have HXX : Hid ((∀ b, F0 b → X b) ∧ (∀ b, X b → b < w.heap.size) ∧ B0 ≤ w.heap.size ∧ w.heap.size ≤ W.heap.size) := ⟨hF0, hX, hB0, hx.size⟩
  have HJ0 : Hid (∀ A D K, Ext W1 A → (∀ i, D i → X i ∨ W.heap.size ≤ i) → (∀ i, K i → X i ∨ W.heap.size ≤ i) → J D K 0 A) := fun A D K hA hD hK => h0 A D K (Ext.trans HX1.out hA) hD hK
  obtain ⟨h00, hb1, hb2, -⟩ := HC.out _ _ _ _ (HJ0.out W1 (fun _ => False) (fun _ => False) (Ext.refl _) (fun _ h => h.elim) (fun _ h => h.elim))
  have c1 := Boxed.cell hb1
  clear hall hw hst hF0 hX hB0 hkl hC hJ hJx h0 hY hx h00 hb1 hb2
  have HMIX : Try.prog.follows .mixedOrders = true := by kernel_rfl
  refine (callsIn_wide (n := 6)).1 ?_
  refine callsIn_of_wp_marks Try.func46 rfl trivial ?_
  simp only [Try.ntmps46, List.size_toArray, List.length_cons, List.length_nil, Nat.reduceAdd, Nat.reduceSub, Array.replicate_succ, Array.replicate_zero, List.push_toArray, List.append_toArray, List.nil_append, List.cons_append]
  have hnil := seq_some gf lb
  rw [hW1] at c1
  gi_wp2_with fail
  rw [← hW1]
  clear hnil c1 hW1
  refine wpIn_overX rfl eg (fun _ h => h.elim) HALL.out (fun _ => rfl) (OnI fw nx s0 L X Wt J W W1 lab) (fun D c A => c = .ret ∧ Jx (fun i => D i ∨ X i) A ∧ ∀ i, D i → W1.heap.size ≤ i) (fun D K k A h => by obtain ⟨F, hj, _⟩ := h.st; exact (HC.out _ _ _ _ hj).1) ?hI ?hIx ?h0 ?rnd ?hok ?done ?stop
  case hI => exact fun D K k A D' K' A' h hc hD hK => h.next HW.out (by have := HZ1.out; omega) HJ.out hc hD hK
  case hIx => exact fun D c A A' ⟨h1, h2, h3⟩ hc => ⟨h1, HJX.out _ _ _ h2 (hc.mono fun _ _ h => .inl h), h3⟩
  case h0 =>
    intro A D K hA hD hK
    have hD' : ∀ i, D i → W1.heap.size ≤ i := fun i h => (hD i h).elim (fun h => h.elim) id
    have hK' : ∀ i, K i → W1.heap.size ≤ i := fun i h => (hK i h).elim (fun h => h.elim) id
    refine ⟨hD', hK', hA.size, boxed_ext HB1.out hA, F0, HJ0.out A _ _ hA (fun i h => ?_) (fun i h => ?_), HST.out A hA, fun b hb => .inl (HXX.out.1 b hb), fun b hb hd => ?_⟩
    · rcases h with h | h
      · exact .inr (by have := hD' i h; have := HZ1.out; omega)
      · exact .inl h
    · rcases h with h | h | h
      · exact .inr (by have := hK' i h; have := HZ1.out; omega)
      · exact .inl (HXX.out.1 i h)
      · exact .inr (by omega)
    · have h1 := HXX.out.2.1 b (HXX.out.1 b hb)
      have h2 := hD' b hd
      have h3 := HXX.out.2.2.2
      have h4 := HZ1.out
      omega
  case hok =>
    rintro D K D' K' k x A ⟨h1, h2, h3⟩ ⟨od, hd⟩ ⟨ol, hl⟩ hD' _ _ _
    refine ⟨h1, h2, fun A' T hc hT => h3 A' T hc fun b hb => ?_⟩
    have hBW : B0 ≤ W1.heap.size := by have := HXX.out; have := HZ1.out; omega
    rcases hT b hb with h | h
    · rcases hD' b h with h | h | h
      · exact .inl h
      · exact .inr (.inr ⟨by omega, fun c fz e => by rw [h, hd] at e; cases e⟩)
      · exact .inr (.inr ⟨by omega, fun c fz e => by rw [h, hl] at e; cases e⟩)
    · exact .inr h
  case done =>
    intro M k W2 D K hM hDm hKm hi hk hd
    obtain ⟨F, hj, _⟩ := hi.st
    rw [show k = L.length from hk, List.take_of_length_le (Nat.le_refl _)] at hj
    have HJE := Lib.hid hj
    have HDM := Lib.hid (And.intro hDm hd)
    clear hi hk hj hDm hKm hd
    gi_wp2_with fail
    refine leaves_marks (u := .returning) (by simp) [M] W2 (by simp) (fun i hi => ?_) (fun W3 hc => ?_)
    · rw [List.mem_singleton] at hi; rw [hi]; exact HDM.out.2
    · refine ⟨_, results_none rfl _ _ _, ⟨⟨_, rfl⟩, .inl ⟨_, _, _, HJ.out _ _ _ _ _ _ _ HJE.out (hc.mono fun i _ hi => ?_) (fun i h => .inl h) (fun i h => .inl h), rfl⟩⟩⟩
      rw [List.mem_singleton] at hi; rw [hi]; exact .inl HDM.out.1
  case stop =>
    rintro D M c W2 hM hDm ⟨rfl, hjx, _⟩ hd
    have HJE := Lib.hid hjx
    have HDM := Lib.hid (And.intro hDm hd)
    clear hjx hDm hd
    gi_wp2_with fail
    refine leaves_marks (u := .returning) (by simp) [M] W2 (by simp) (fun i hi => ?_) (fun W3 hc => ?_)
    · rw [List.mem_singleton] at hi; rw [hi]; exact HDM.out.2
    · refine ⟨_, results_none rfl _ _ _, ⟨⟨_, rfl⟩, .inr ⟨_, HJX.out _ _ _ HJE.out (hc.mono fun i _ hi => ?_)⟩⟩⟩
      rw [List.mem_singleton] at hi; rw [hi]; exact .inl HDM.out.1
  case rnd =>
    rintro l2 D K k ⟨e, ge⟩ A rfl hDl hKl hDm hKm hDb hKb hi ⟨hek, hlv⟩
    have hek' : L[k]? = some e := hek
    have HI1 := Lib.hid hi
    have HLV := Lib.hid hlv
    have HEK := Lib.hid hek'
    have HDK := Lib.hid (And.intro hDl (And.intro hKl (And.intro hDb hKb)))
    have HEL := Lib.hid (HKL.out e (List.mem_of_getElem? hek'))
    clear hDl hKl hDm hKm hDb hKb hi hek hek' hlv
    dsimp only [entV, Ent.at_]
    gi_wp2
    obtain ⟨A2, hA2⟩ : ∃ A2, A2 = A.alloc (.cells #[.slice ge.kA e.key.length ge.kc, .int .i64 e.seq, .int .i64 e.kind, .slice ge.vA e.val.length ge.vc] 46) := ⟨_, rfl⟩
    rw [← hA2]
    have HX2 : Hid (Ext A A2) := by rw [hA2]; exact ext_alloc _ _
    have HBE2 : Hid (A2.heap[A.heap.size]? = some (.cells #[.slice ge.kA e.key.length ge.kc, .int .i64 e.seq, .int .i64 e.kind, .slice ge.vA e.val.length ge.vc] 46 (0, 0))) := by rw [hA2]; exact heap_at _ _ rfl
    clear hA2
    refine ⟨StepK.of_chg (S := fun _ => False) (Chg.of_ext HX2.out) (fun _ _ _ h => h), fun A3 hc => ?_⟩
    have HCH : Hid (Chg D A A3) := ((Chg.of_ext (S := D) HX2.out).trans (hc.mono fun i _ e => by rw [e]; exact HDK.out.1))
    have HI3 := Lib.hid (HI1.out.next HW.out (by have := HZ1.out; omega) HJ.out HCH.out (fun i h => .inl h) (fun i h => .inl h))
    have HEM3 : Hid (Em A3 0 A3.heap.size e ge) := HLV.out.2 A3 D HCH.out (fun b hb => .inl hb)
    have HB3 : Hid (A3.heap[A.heap.size]? = some (.cells #[.slice ge.kA e.key.length ge.kc, .int .i64 e.seq, .int .i64 e.kind, .slice ge.vA e.val.length ge.vc] 46 (0, 0))) := (hc.block _ (Array.getElem?_eq_some_iff.1 HBE2.out).1 (fun e => by have := HDK.out.2.2.1 _ HDK.out.1; omega)).trans HBE2.out
    obtain ⟨F, hj3, hwt3, hfx, hfd⟩ := HI3.out.st
    obtain ⟨zf, hzf⟩ : ∃ z, z = fw (stL nx s0 (L.take k)) e := ⟨_, rfl⟩
    obtain ⟨A4, hA4⟩ : ∃ A4, A4 = A3.drew := ⟨_, rfl⟩
    have HX34 : Hid (Ext A3 A4) := by rw [hA4]; exact Ext.drew A3
    have HXLT : Hid (∀ b, X b → b < W.heap.size) := fun b hb => Nat.lt_of_lt_of_le (HXX.out.2.1 b hb) HXX.out.2.2.2
    have HCALL : Hid (Calls Try.prog hf (#[.agg #[.slice ge.kA e.key.length ge.kc, .int .i64 e.seq, .int .i64 e.kind, .slice ge.vA e.val.length ge.vc]] ++ lb2) A4 fun x u' => x = .returned (.bool zf) ∧ (∃ F', Wt (nx (stL nx s0 (L.take k)) e) F' u' ∧ ∀ b, F' b → F b ∨ A4.heap.size ≤ b) ∧ Chg X A4 u') := by
      rw [hzf]
      exact HW.out.call _ _ _ e ge (HW.out.keep _ _ _ _ (fun _ => False) hwt3 (Chg.of_ext HX34.out) (fun _ _ h => h)) (HW.out.more _ _ (HC.out _ _ _ _ hj3).2.2.2 HX34.out) ((HEM3.out.below HX34.out (Nat.le_refl _)).wide (Nat.le_refl _) HX34.out.size) (List.mem_of_getElem? HEK.out)
    obtain ⟨_, _, hb2, -⟩ := HC.out _ _ _ _ hj3
    have HB2 : Hid (Boxed A4 b2 55 (.func (.func hf) #[] lb2)) := boxed_ext hb2 HX34.out
    have HBOX : Hid (∀ u, Chg X A4 u → Boxed u W.heap.size 55 (.func (.yield lab) #[] #[]) ∧ u.heap[A.heap.size]? = some (.cells #[.slice ge.kA e.key.length ge.kc, .int .i64 e.seq, .int .i64 e.kind, .slice ge.vA e.val.length ge.vc] 46 (0, 0))) := fun u hu =>
      ⟨boxed_chg (boxed_ext HI3.out.box HX34.out) hu (fun h => by have := HXLT.out _ h; omega), (hu.block _ (Array.getElem?_eq_some_iff.1 (ext_heap HX34.out HB3.out)).1 (fun h => by have := HXLT.out _ h; have := HI1.out.z; have := HZ1.out; omega)).trans (ext_heap HX34.out HB3.out)⟩
    have HZF := Lib.hid hzf
    have HFF := Lib.hid (And.intro hfx hfd)
    have HJ3 := Lib.hid hj3
    have HLT3 := Lib.hid (HW.out.lt _ _ _ hwt3)
    have HDLT : Hid (∀ b, D b ∨ X b → b < A4.heap.size) := fun b hb => by
      have h1 := HX34.out.size
      have h2 := HCH.out.size
      rcases hb with h | h
      · have := (HDK.out.2.2.1 b h).2; omega
      · have := HXLT.out b h; have := HI3.out.z; have := HZ1.out; omega
    have HJU : Hid (∀ (u : World) (F' : Nat → Prop), Chg X A4 u → (∀ b, F' b → F b ∨ A4.heap.size ≤ b) → J (fun i => D i ∨ X i) (fun i => K i ∨ F' i ∨ i = W.heap.size) (wantL fw nx s0 (L.take k)).length u) := fun u F' hu hF =>
      HJ.out _ _ _ _ _ _ _ HJ3.out ((Chg.of_ext HX34.out).trans (hu.mono fun _ _ h => .inr h)) (fun i h => .inl h) (fun i h => by
        rcases h with h | h | h
        · exact .inl (.inl h)
        · rcases hF i h with h | h
          · exact .inl (.inr (.inl h))
          · exact .inr (Nat.le_trans HX34.out.size h)
        · exact .inl (.inr (.inr h)))
    have HFN : Hid (∀ (F' : Nat → Prop), (∀ b, F' b → F b ∨ A4.heap.size ≤ b) → (∀ b, F' b → X b ∨ W.heap.size ≤ b) ∧ ∀ b, F' b → ¬ D b) := fun F' hF => ⟨fun b hb => by
        rcases hF b hb with h | h
        · exact HFF.out.1 b h
        · exact .inr (by have h1 := HX34.out.size; have h2 := HI3.out.z; have h3 := HZ1.out; omega), fun b hb hd => by
        rcases hF b hb with h | h
        · exact HFF.out.2 b h hd
        · have := HDLT.out b (.inl hd); omega⟩
    have HKX : Hid (∀ u, Chg X A4 u → StepK K A3 u) := fun u hu => (StepK.of_chg (S := fun _ => False) (Chg.of_ext HX34.out) (fun _ _ _ h => h)).trans (StepK.of_chg hu fun i _ hk hx => by have h1 := (HDK.out.2.2.2 i hk).1; have h2 := HXLT.out i hx; have h3 := HI3.out.kz i hk; have h4 := HZ1.out; omega)
    have y0 := cell_of (ext_heap HX34.out HB3.out) (k := 0) rfl
    have y1 := cell_of (ext_heap HX34.out HB3.out) (k := 1) rfl
    have y2 := cell_of (ext_heap HX34.out HB3.out) (k := 2) rfl
    have y3 := cell_of (ext_heap HX34.out HB3.out) (k := 3) rfl
    have HY4 := Lib.hid (And.intro y0 (And.intro y1 (And.intro y2 y3)))
    have HA4 := Lib.hid hA4
    clear hc hj3 hwt3 hfx hfd hzf hb2 y0 y1 y2 y3 hA4
    cases zf with
    | false =>
      gi_wp2_with fail
      refine Fi.flowY HMIX (fun sn f u => VI (fun j => ([some (.func (.func hf) #[] lb2), some (.agg #[.slice ge.kA e.key.length ge.kc, .int .i64 e.seq, .int .i64 e.kind, .slice ge.vA e.val.length ge.vc]), some (.bool false), some (.bool false), none, none, none, none, none, some (.bool false)] : List (Option Value)).getD j none) sn f ∧ (match sn 2 with | true => (∃ F', Wt (nx (stL nx s0 (L.take k)) e) F' u ∧ ∀ b, F' b → F b ∨ A4.heap.size ≤ b) ∧ Chg X A4 u | false => u = A4)) (by kernel_rfl) (by kernel_rfl) (by kernel_rfl) (fun f => ⟨fun j v _ h => (by cases h), HA4.out.symm⟩) (fun f1 => ?obl) ?fin
      case fin =>
        intro g1 sn u hall hI
        simp only [puts, Act.put, List.setIfInBounds_toArray, List.set_cons_zero, List.set_cons_succ]
        have h9 : g1 9 = .bool false := hI.1 9 _ rfl (hall 9 (by show 9 < 10; decide))
        have h2 := hI.2
        rw [hall 2 (by show 2 < 10; decide)] at h2
        obtain ⟨⟨F', hw', hF'⟩, hX'⟩ := h2
        rw [h9]
        have HFIN := Lib.hid (And.intro hw' (And.intro hF' hX'))
        clear h9 hI hall hw' hF' hX'
        gi_wp2_with fail
        have hno := wantL_no (nx := nx) (s := s0) HEK.out HZF.out.symm
        refine ⟨HKX.out u HFIN.out.2.2, HI3.out.dz, HI3.out.kz, Nat.le_trans HI3.out.z (HKX.out u HFIN.out.2.2).size, (HBOX.out u HFIN.out.2.2).1, F', ?_, ?_, (HFN.out F' HFIN.out.2.1).1, (HFN.out F' HFIN.out.2.1).2⟩
        · rw [hno]; exact HJU.out u F' HFIN.out.2.2 HFIN.out.2.1
        · rw [stL_next HEK.out]; exact HFIN.out.1
      case obl =>
        refine ⟨fun sn u hI hn hd hcl => ?_, ?_⟩
        · have h2 : sn 2 = false := by
            cases h : sn 2 with
            | false => rfl
            | true => have := hcl 2 _ rfl h 0 (by kernel_rfl); rw [hn] at this; cases this
          have hu0 := hI.2
          rw [h2] at hu0
          have HU0 : Hid (u = A4) := hu0
          clear hu0
          have q0 : u.cell? ⟨b2, 0, none⟩ = some (.func (.func hf) #[] lb2) := by rw [HU0.out]; exact Boxed.cell HB2.out
          have HI := Lib.hid hI
          clear hI hn hd hcl
          clear h2
          go_simp
          exact ⟨HI.out.1.put (fun v h => by injection h), HI.out.2⟩
        refine ⟨fun sn u hI hn hd hcl => ?_, ?_⟩
        · simp only [Act.put, List.setIfInBounds_toArray, List.set_cons_zero, List.set_cons_succ]
          have h2 : sn 2 = false := by
            cases h : sn 2 with
            | false => rfl
            | true => have := hcl 2 _ rfl h 1 (by kernel_rfl); rw [hn] at this; cases this
          have hu0 := hI.2
          rw [h2] at hu0
          have HU0 : Hid (u = A4) := hu0
          clear hu0
          have q0 : u.cell? ⟨A.heap.size, 0, none⟩ = some (.slice ge.kA e.key.length ge.kc) := by rw [HU0.out]; exact HY4.out.1
          have q1 : u.cell? ⟨A.heap.size, 1, none⟩ = some (.int .i64 e.seq) := by rw [HU0.out]; exact HY4.out.2.1
          have q2 : u.cell? ⟨A.heap.size, 2, none⟩ = some (.int .i64 e.kind) := by rw [HU0.out]; exact HY4.out.2.2.1
          have q3 : u.cell? ⟨A.heap.size, 3, none⟩ = some (.slice ge.vA e.val.length ge.vc) := by rw [HU0.out]; exact HY4.out.2.2.2
          have HI := Lib.hid hI
          clear hI hn hd hcl
          clear h2
          go_simp
          exact ⟨HI.out.1.put (fun v h => by injection h), HI.out.2⟩
        refine ⟨fun sn u hI hn hd hcl => ?_, ?_⟩
        · simp only [Act.put, List.setIfInBounds_toArray, List.set_cons_zero, List.set_cons_succ]
          have hu0 := hI.2
          rw [hn] at hu0
          have HU0 : Hid (u = A4) := hu0
          clear hu0
          have HCU := HCALL
          rw [← HU0.out] at HCU
          have e0 : f1 0 = .func (.func hf) #[] lb2 := hI.1 0 _ rfl (hd 0 (by kernel_rfl))
          have e1 : f1 1 = .agg #[.slice ge.kA e.key.length ge.kc, .int .i64 e.seq, .int .i64 e.kind, .slice ge.vA e.val.length ge.vc] := hI.1 1 _ rfl (hd 1 (by kernel_rfl))
          have HI := Lib.hid hI
          clear hI hn hd hcl
          go_simp
          dsimp only [Fi.GivesY]
          refine HCU.out.mono ?_
          rintro x w9 ⟨rfl, hF, hX⟩
          exact ⟨_, rfl, HI.out.1.put (fun v h => by injection h), by rw [← HU0.out]; exact hF, by rw [← HU0.out]; exact hX⟩
        refine ⟨fun sn u hI hn hd hcl => ?_, ?_⟩
        · simp only [Act.put, List.setIfInBounds_toArray, List.set_cons_zero, List.set_cons_succ]
          have e2 : f1 2 = .bool false := hI.1 2 _ rfl (hd 2 (by kernel_rfl))
          have HI := Lib.hid hI
          clear hI hn hd hcl
          go_simp
          exact ⟨HI.out.1.put (fun v h => by injection h), HI.out.2⟩
        refine ⟨fun sn u hI hn hd hcl => ?_, ?_⟩
        · simp only [Act.put, List.setIfInBounds_toArray, List.set_cons_zero, List.set_cons_succ]
          have e3 : f1 3 = .bool false := hI.1 3 _ rfl (hd 3 (by kernel_rfl))
          have HI := Lib.hid hI
          clear hI hn hd hcl
          go_simp
          exact ⟨HI.out.1.put (fun v h => (by cases h)), HI.out.2⟩
        refine ⟨fun sn u hI hn hd hcl => ?_, ?_⟩
        · simp only [Act.put, List.setIfInBounds_toArray, List.set_cons_zero, List.set_cons_succ]
          have e3 : f1 3 = .bool false := hI.1 3 _ rfl (hd 3 (by kernel_rfl))
          have HI := Lib.hid hI
          clear hI hn hd hcl
          go_simp
          exact ⟨HI.out.1.put (fun v h => (by cases h)), HI.out.2⟩
        refine ⟨fun sn u hI hn hd hcl => ?_, ?_⟩
        · simp only [Act.put, List.setIfInBounds_toArray, List.set_cons_zero, List.set_cons_succ]
          have e3 : f1 3 = .bool false := hI.1 3 _ rfl (hd 3 (by kernel_rfl))
          have HI := Lib.hid hI
          clear hI hn hd hcl
          go_simp
          exact ⟨HI.out.1.put (fun v h => (by cases h)), HI.out.2⟩
        refine ⟨fun sn u hI hn hd hcl => ?_, ?_⟩
        · simp only [Act.put, List.setIfInBounds_toArray, List.set_cons_zero, List.set_cons_succ]
          have e3 : f1 3 = .bool false := hI.1 3 _ rfl (hd 3 (by kernel_rfl))
          have HI := Lib.hid hI
          clear hI hn hd hcl
          go_simp
          exact ⟨HI.out.1.put (fun v h => (by cases h)), HI.out.2⟩
        refine ⟨fun sn u hI hn hd hcl => ?_, ?_⟩
        · simp only [Act.put, List.setIfInBounds_toArray, List.set_cons_zero, List.set_cons_succ]
          have e3 : f1 3 = .bool false := hI.1 3 _ rfl (hd 3 (by kernel_rfl))
          have HI := Lib.hid hI
          clear hI hn hd hcl
          go_simp
          exact ⟨HI.out.1.put (fun v h => (by cases h)), HI.out.2⟩
        refine ⟨fun sn u hI hn hd hcl => ?_, ?_⟩
        · simp only [Act.put, List.setIfInBounds_toArray, List.set_cons_zero, List.set_cons_succ]
          have e3 : f1 3 = .bool false := hI.1 3 _ rfl (hd 3 (by kernel_rfl))
          have HI := Lib.hid hI
          clear hI hn hd hcl
          go_simp
          exact ⟨HI.out.1.put (fun v h => by injection h), HI.out.2⟩
        trivial
    | true =>
      obtain ⟨hcnt, hat⟩ := wantL_yes (nx := nx) (s := s0) HEK.out HZF.out.symm
      have HCNT := Lib.hid hcnt
      have HAT := Lib.hid hat
      have HEMU : Hid (∀ u, Chg X A4 u → Em u 0 u.heap.size e ge) := fun u hu => by
        obtain ⟨F1, _, hw1, _⟩ := HI1.out.st
        refine HLV.out.2 u (fun i => D i ∨ X i) ((HCH.out.mono fun _ _ h => .inl h).trans ((Chg.of_ext HX34.out).trans (hu.mono fun _ _ h => .inr h))) fun b hb => ?_
        rcases hb with hb | hb
        · exact .inl hb
        · exact .inr (.inr (HW.out.box _ _ _ hw1 b hb))
      have HWA : Hid (w.heap.size ≤ A4.heap.size) := by have h1 := HXX.out.2.2.2; have h2 := HZ1.out; have h3 := HI3.out.z; have h4 := HX34.out.size; unfold Hid; omega
      have HBB : Hid ((∀ y ∈ e.key, y < 256) ∧ (∀ y ∈ e.val, y < 256) ∧ -9223372036854775808 ≤ e.seq ∧ e.seq ≤ 9223372036854775807 ∧ -9223372036854775808 ≤ e.kind ∧ e.kind ≤ 9223372036854775807) := ⟨HEM3.out.bk, HEM3.out.bv, HEM3.out.s1, HEM3.out.s2, HEM3.out.d1, HEM3.out.d2⟩
      obtain ⟨Pa, hpa⟩ : ∃ P : World → Prop, ∀ u, P u ↔ ((∃ F', Wt (nx (stL nx s0 (L.take k)) e) F' u ∧ ∀ b, F' b → F b ∨ A4.heap.size ≤ b) ∧ Chg X A4 u) := ⟨fun u => (∃ F', Wt (nx (stL nx s0 (L.take k)) e) F' u ∧ ∀ b, F' b → F b ∨ A4.heap.size ≤ b) ∧ Chg X A4 u, fun u => Iff.rfl⟩
      obtain ⟨Pb, hpb⟩ : ∃ P : Value → World → Prop, ∀ v u, P v u ↔ (∃ (g3 : Hd) (F' : Nat → Prop), v = .agg #[.slice g3.kA e.key.length g3.kc, .int .i64 e.seq, .int .i64 e.kind, .slice g3.vA e.val.length g3.vc] ∧ Own A4.heap.size e.key (.slice g3.kA e.key.length g3.kc) u ∧ Own A4.heap.size e.val (.slice g3.vA e.val.length g3.vc) u ∧ Wt (nx (stL nx s0 (L.take k)) e) F' u ∧ (∀ b, F' b → F b ∨ A4.heap.size ≤ b) ∧ Chg X A4 u) := ⟨fun v u => ∃ (g3 : Hd) (F' : Nat → Prop), v = .agg #[.slice g3.kA e.key.length g3.kc, .int .i64 e.seq, .int .i64 e.kind, .slice g3.vA e.val.length g3.vc] ∧ Own A4.heap.size e.key (.slice g3.kA e.key.length g3.kc) u ∧ Own A4.heap.size e.val (.slice g3.vA e.val.length g3.vc) u ∧ Wt (nx (stL nx s0 (L.take k)) e) F' u ∧ (∀ b, F' b → F b ∨ A4.heap.size ≤ b) ∧ Chg X A4 u, fun v u => Iff.rfl⟩
      obtain ⟨Pc, hpc⟩ : ∃ P : Value → World → Prop, ∀ v u, P v u ↔ (∃ y : Bool, v = .bool y ∧ StepK K A3 u ∧ (match y with | true => OnI fw nx s0 L X Wt J W W1 lab D K (k + 1) u | false => Jx (fun i => D i ∨ X i) u)) := ⟨fun v u => ∃ y : Bool, v = .bool y ∧ StepK K A3 u ∧ (match y with | true => OnI fw nx s0 L X Wt J W W1 lab D K (k + 1) u | false => Jx (fun i => D i ∨ X i) u), fun v u => Iff.rfl⟩
      have HPA := Lib.hid hpa
      have HPB := Lib.hid hpb
      have HPC := Lib.hid hpc
      clear hcnt hat hpa hpb hpc
      gi_wp2_with fail
      refine Fi.flowY HMIX (fun sn f u => VI (fun j => ([some (.func (.func hf) #[] lb2), some (.agg #[.slice ge.kA e.key.length ge.kc, .int .i64 e.seq, .int .i64 e.kind, .slice ge.vA e.val.length ge.vc]), some (.bool true), some (.bool true), some (.func (.yield lab) #[] #[]), some (.agg #[.slice ge.kA e.key.length ge.kc, .int .i64 e.seq, .int .i64 e.kind, .slice ge.vA e.val.length ge.vc]), none, none, none, none] : List (Option Value)).getD j none) sn f ∧ PW A4 Pa Pb Pc (sn 2) (sn 6) (sn 7) (f 6) (f 7) u ∧ V8 (sn 8) (sn 7) (f 7) (f 8) ∧ V8 (sn 9) (sn 7) (f 7) (f 9)) (by kernel_rfl) (by kernel_rfl) (by kernel_rfl) (fun f => ⟨fun j v _ h => (by cases h), HA4.out.symm, fun h => (by cases h), fun h => (by cases h)⟩) (fun f1 => ?oblt) ?fint
      case fint =>
        intro g1 sn u hall hI
        simp only [puts, Act.put, List.setIfInBounds_toArray, List.set_cons_zero, List.set_cons_succ]
        have hpw := hI.2.1
        rw [hall 7 (by show 7 < 10; decide)] at hpw
        obtain ⟨y, e7, hst, hm⟩ := (HPC.out _ _).1 hpw
        obtain ⟨_, y2, e72, h9⟩ := hI.2.2.2 (hall 9 (by show 9 < 10; decide))
        have hyy : y2 = y := by rw [e7] at e72; injection e72 with e72; exact e72.symm
        rw [h9, hyy]
        have HST := Lib.hid hst
        have HM := Lib.hid hm
        clear hI hall hst hm e7 e72 h9 hyy
        cases y with
        | true =>
          gi_wp2_with fail
          exact ⟨HST.out, HM.out⟩
        | false =>
          gi_wp2_with fail
          exact ⟨HST.out, rfl, HM.out, HI3.out.dz⟩
      case oblt =>
        refine ⟨fun sn u hI hn hd hcl => ?_, ?_⟩
        · have h2 : sn 2 = false := by
            cases h : sn 2 with
            | false => rfl
            | true => have := hcl 2 _ rfl h 0 (by kernel_rfl); rw [hn] at this; cases this
          have h3 : sn 3 = false := by
            cases h : sn 3 with
            | false => rfl
            | true => have := hcl 3 _ rfl h 2 (by kernel_rfl); rw [h2] at this; cases this
          have h6 : sn 6 = false := by
            cases h : sn 6 with
            | false => rfl
            | true => have := hcl 6 _ rfl h 3 (by kernel_rfl); rw [h3] at this; cases this
          have h7 : sn 7 = false := by
            cases h : sn 7 with
            | false => rfl
            | true => have := hcl 7 _ rfl h 6 (by kernel_rfl); rw [h6] at this; cases this
          have hpw := hI.2.1
          rw [h2, h6, h7] at hpw
          have HU0 : Hid (u = A4) := hpw
          clear hpw
          have q0 : u.cell? ⟨b2, 0, none⟩ = some (.func (.func hf) #[] lb2) := by rw [HU0.out]; exact Boxed.cell HB2.out
          have HI := Lib.hid hI
          clear hI hn hd hcl
          clear h2 h3 h6 h7
          go_simp
          exact ⟨HI.out.1.put (fun v h => by injection h), HI.out.2.1, HI.out.2.2.1, HI.out.2.2.2⟩
        refine ⟨fun sn u hI hn hd hcl => ?_, ?_⟩
        · simp only [Act.put, List.setIfInBounds_toArray, List.set_cons_zero, List.set_cons_succ]
          have h2 : sn 2 = false := by
            cases h : sn 2 with
            | false => rfl
            | true => have := hcl 2 _ rfl h 1 (by kernel_rfl); rw [hn] at this; cases this
          have h3 : sn 3 = false := by
            cases h : sn 3 with
            | false => rfl
            | true => have := hcl 3 _ rfl h 2 (by kernel_rfl); rw [h2] at this; cases this
          have h6 : sn 6 = false := by
            cases h : sn 6 with
            | false => rfl
            | true => have := hcl 6 _ rfl h 3 (by kernel_rfl); rw [h3] at this; cases this
          have h7 : sn 7 = false := by
            cases h : sn 7 with
            | false => rfl
            | true => have := hcl 7 _ rfl h 6 (by kernel_rfl); rw [h6] at this; cases this
          have hpw := hI.2.1
          rw [h2, h6, h7] at hpw
          have HU0 : Hid (u = A4) := hpw
          clear hpw
          have q0 : u.cell? ⟨A.heap.size, 0, none⟩ = some (.slice ge.kA e.key.length ge.kc) := by rw [HU0.out]; exact HY4.out.1
          have q1 : u.cell? ⟨A.heap.size, 1, none⟩ = some (.int .i64 e.seq) := by rw [HU0.out]; exact HY4.out.2.1
          have q2 : u.cell? ⟨A.heap.size, 2, none⟩ = some (.int .i64 e.kind) := by rw [HU0.out]; exact HY4.out.2.2.1
          have q3 : u.cell? ⟨A.heap.size, 3, none⟩ = some (.slice ge.vA e.val.length ge.vc) := by rw [HU0.out]; exact HY4.out.2.2.2
          have HI := Lib.hid hI
          clear hI hn hd hcl
          clear h2 h3 h6 h7
          go_simp
          exact ⟨HI.out.1.put (fun v h => by injection h), HI.out.2.1, HI.out.2.2.1, HI.out.2.2.2⟩
        refine ⟨fun sn u hI hn hd hcl => ?_, ?_⟩
        · simp only [Act.put, List.setIfInBounds_toArray, List.set_cons_zero, List.set_cons_succ]
          have h3 : sn 3 = false := by
            cases h : sn 3 with
            | false => rfl
            | true => have := hcl 3 _ rfl h 2 (by kernel_rfl); rw [hn] at this; cases this
          have h6 : sn 6 = false := by
            cases h : sn 6 with
            | false => rfl
            | true => have := hcl 6 _ rfl h 3 (by kernel_rfl); rw [h3] at this; cases this
          have h7 : sn 7 = false := by
            cases h : sn 7 with
            | false => rfl
            | true => have := hcl 7 _ rfl h 6 (by kernel_rfl); rw [h6] at this; cases this
          have h2 := hn
          have hpw := hI.2.1
          rw [h2, h6, h7] at hpw
          have HU0 : Hid (u = A4) := hpw
          clear hpw
          have HCU := HCALL
          rw [← HU0.out] at HCU
          have e0 : f1 0 = .func (.func hf) #[] lb2 := hI.1 0 _ rfl (hd 0 (by kernel_rfl))
          have e1 : f1 1 = .agg #[.slice ge.kA e.key.length ge.kc, .int .i64 e.seq, .int .i64 e.kind, .slice ge.vA e.val.length ge.vc] := hI.1 1 _ rfl (hd 1 (by kernel_rfl))
          have H67 := Lib.hid (And.intro h6 h7)
          have HI := Lib.hid hI
          clear hI hn hd hcl
          clear h2 h3 h6 h7
          go_simp
          dsimp only [Fi.GivesY]
          refine HCU.out.mono ?_
          rintro x w9 ⟨rfl, hF, hX⟩
          refine ⟨_, rfl, HI.out.1.put (fun v h => by injection h), ?_, HI.out.2.2.1, HI.out.2.2.2⟩
          show PW A4 _ _ _ true (sn 6) (sn 7) _ _ _
          rw [H67.out.1, H67.out.2]
          exact (HPA.out _).2 ⟨by rw [← HU0.out]; exact hF, by rw [← HU0.out]; exact hX⟩
        refine ⟨fun sn u hI hn hd hcl => ?_, ?_⟩
        · simp only [Act.put, List.setIfInBounds_toArray, List.set_cons_zero, List.set_cons_succ]
          have e2 : f1 2 = .bool true := hI.1 2 _ rfl (hd 2 (by kernel_rfl))
          have HI := Lib.hid hI
          clear hI hn hd hcl
          go_simp
          exact ⟨HI.out.1.put (fun v h => by injection h), HI.out.2.1, HI.out.2.2.1, HI.out.2.2.2⟩
        refine ⟨fun sn u hI hn hd hcl => ?_, ?_⟩
        · simp only [Act.put, List.setIfInBounds_toArray, List.set_cons_zero, List.set_cons_succ]
          have h7 : sn 7 = false := by
            cases h : sn 7 with
            | false => rfl
            | true => have := hcl 7 _ rfl h 4 (by kernel_rfl); rw [hn] at this; cases this
          have h2 : sn 2 = true := hcl 3 _ rfl (hd 3 (by kernel_rfl)) 2 (by kernel_rfl)
          have HCX : Hid (Chg X A4 u) := by
            have hpw := hI.2.1
            rw [h7, h2] at hpw
            cases h6 : sn 6 with
            | true => rw [h6] at hpw; obtain ⟨_, _, _, _, _, _, _, hX⟩ := (HPB.out _ _).1 hpw; exact hX
            | false => rw [h6] at hpw; exact ((HPA.out _).1 hpw).2
          have e3 : f1 3 = .bool true := hI.1 3 _ rfl (hd 3 (by kernel_rfl))
          have q0 := Boxed.cell (HBOX.out u HCX.out).1
          have HI := Lib.hid hI
          clear hI hn hd hcl
          clear h2 h7
          go_simp
          exact ⟨HI.out.1.put (fun v h => by injection h), HI.out.2.1, HI.out.2.2.1, HI.out.2.2.2⟩
        refine ⟨fun sn u hI hn hd hcl => ?_, ?_⟩
        · simp only [Act.put, List.setIfInBounds_toArray, List.set_cons_zero, List.set_cons_succ]
          have h6 : sn 6 = false := by
            cases h : sn 6 with
            | false => rfl
            | true => have := hcl 6 _ rfl h 5 (by kernel_rfl); rw [hn] at this; cases this
          have h7 : sn 7 = false := by
            cases h : sn 7 with
            | false => rfl
            | true => have := hcl 7 _ rfl h 6 (by kernel_rfl); rw [h6] at this; cases this
          have h2 : sn 2 = true := hcl 3 _ rfl (hd 3 (by kernel_rfl)) 2 (by kernel_rfl)
          have HCX : Hid (Chg X A4 u) := by
            have hpw := hI.2.1
            rw [h7, h2] at hpw
            cases h6 : sn 6 with
            | true => rw [h6] at hpw; obtain ⟨_, _, _, _, _, _, _, hX⟩ := (HPB.out _ _).1 hpw; exact hX
            | false => rw [h6] at hpw; exact ((HPA.out _).1 hpw).2
          have e3 : f1 3 = .bool true := hI.1 3 _ rfl (hd 3 (by kernel_rfl))
          have q0 := cell_of (HBOX.out u HCX.out).2 (k := 0) rfl
          have q1 := cell_of (HBOX.out u HCX.out).2 (k := 1) rfl
          have q2 := cell_of (HBOX.out u HCX.out).2 (k := 2) rfl
          have q3 := cell_of (HBOX.out u HCX.out).2 (k := 3) rfl
          have HI := Lib.hid hI
          clear hI hn hd hcl
          clear h2 h6 h7
          go_simp
          exact ⟨HI.out.1.put (fun v h => by injection h), HI.out.2.1, HI.out.2.2.1, HI.out.2.2.2⟩
        refine ⟨fun sn u hI hn hd hcl => ?_, ?_⟩
        · simp only [Act.put, List.setIfInBounds_toArray, List.set_cons_zero, List.set_cons_succ]
          have h7 : sn 7 = false := by
            cases h : sn 7 with
            | false => rfl
            | true => have := hcl 7 _ rfl h 6 (by kernel_rfl); rw [hn] at this; cases this
          have h2 : sn 2 = true := hcl 3 _ rfl (hd 3 (by kernel_rfl)) 2 (by kernel_rfl)
          have hpw := hI.2.1
          rw [h7, h2, hn] at hpw
          obtain ⟨⟨F', hw', hF'⟩, hX'⟩ := (HPA.out _).1 hpw
          have HP := Lib.hid (And.intro hw' (And.intro hF' hX'))
          have e3 : f1 3 = .bool true := hI.1 3 _ rfl (hd 3 (by kernel_rfl))
          have e5 : f1 5 = .agg #[.slice ge.kA e.key.length ge.kc, .int .i64 e.seq, .int .i64 e.kind, .slice ge.vA e.val.length ge.vc] := hI.1 5 _ rfl (hd 5 (by kernel_rfl))
          have HCP := Lib.hid (copy_wide (w := u) (lo := 0) (hi := u.heap.size) (e := e) (g := ge) (HEMU.out u hX') (Nat.le_refl _) HEL.out.1 HEL.out.2)
          unfold Ent.at_ at HCP
          have H7 := Lib.hid h7
          have HI := Lib.hid hI
          clear hI hn hd hcl
          clear h2 h7 hw' hF' hX'
          go_simp
          dsimp only [Fi.GivesY]
          refine HCP.out.mono ?_
          rintro x w9 ⟨hx, g3, rfl, ho1, ho2⟩
          refine ⟨_, rfl, HI.out.1.put (fun v h => (by cases h)), ?_, HI.out.2.2.1, HI.out.2.2.2⟩
          show PW A4 _ _ _ (sn 2) true (sn 7) _ _ _
          rw [H7.out]
          cases sn 2 <;> exact (HPB.out _ _).2 ⟨g3, F', rfl, ho1.base HP.out.2.2.size, ho2.base HP.out.2.2.size, HW.out.keep _ _ _ _ (fun _ => False) HP.out.1 (Chg.of_ext hx) (fun _ _ h => h), HP.out.2.1, HP.out.2.2.trans (Chg.of_ext hx)⟩
        refine ⟨fun sn u hI hn hd hcl => ?_, ?_⟩
        · simp only [Act.put, List.setIfInBounds_toArray, List.set_cons_zero, List.set_cons_succ]
          have h8 : sn 8 = false := by
            cases h : sn 8 with
            | false => rfl
            | true => have := hcl 8 _ rfl h 7 (by kernel_rfl); rw [hn] at this; cases this
          have h9 : sn 9 = false := by
            cases h : sn 9 with
            | false => rfl
            | true => have := hcl 9 _ rfl h 8 (by kernel_rfl); rw [h8] at this; cases this
          have h6 : sn 6 = true := hd 6 (by kernel_rfl)
          have hpw := hI.2.1
          rw [hn, h6] at hpw
          have hpw : Pb (f1 6) u := by cases sn 2 <;> exact hpw
          have hpw := (HPB.out _ _).1 hpw
          obtain ⟨g3, F', e6, ho1, ho2, hw', hF', hX'⟩ := hpw
          have e3 : f1 3 = .bool true := hI.1 3 _ rfl (hd 3 (by kernel_rfl))
          have e4 : f1 4 = .func (.yield lab) #[] #[] := hI.1 4 _ rfl (hd 4 (by kernel_rfl))
          have hul : A4.heap.size ≤ u.heap.size := hX'.size
          have hF2 := HFN.out F' hF'
          obtain ⟨fn, tmps, assign, body, hy, hR⟩ := HY.out (fun i => D i ∨ X i) (fun i => K i ∨ F' i ∨ i = W.heap.size) (wantL fw nx s0 (L.take k)).length (e, g3) u (fun i h => ⟨by
            rcases h with h | h
            · exact .inr (by have := HI3.out.dz i h; have := HZ1.out; omega)
            · exact .inl h, Nat.lt_of_lt_of_le (HDLT.out i h) hul⟩) (fun i h => ⟨by
            rcases h with h | h | h
            · exact .inr (by have := HI3.out.kz i h; have := HZ1.out; omega)
            · exact hF2.1 i h
            · exact .inr (by omega), by
            rcases h with h | h | h
            · have h1 := (HDK.out.2.2.2 i h).2; have h2 := HCH.out.size; have h3 := HX34.out.size; omega
            · exact HW.out.lt _ _ _ hw' i h
            · have h1 := HI3.out.z; have h2 := HX34.out.size; have h3 := HZ1.out; omega⟩) (HJU.out u F' hX' hF') ⟨⟨HAT.out, live_own (B := A4.heap.size) ho1 ho2 HDLT.out HBB.out⟩, ⟨ho1.base HWA.out, ho2.base HWA.out, ⟨HBB.out.1, HBB.out.2.1, HBB.out.2.2.1, HBB.out.2.2.2.1, HBB.out.2.2.2.2.1, HBB.out.2.2.2.2.2⟩⟩, fun g hg hd => by have h1 := (row_lt ho1 g hg).1; have h2 := HDLT.out g hd; omega, fun g hg hd => by have h1 := (row_lt ho2 g hg).1; have h2 := HDLT.out g hd; omega⟩
          dsimp only [entV, Ent.at_] at hy
          have HR := Lib.hid (roundIn_any (m' := 3) hR)
          have HP := Lib.hid (And.intro hw' (And.intro hF' (And.intro hX' hF2)))
          have H89 := Lib.hid (And.intro h8 h9)
          have HI := Lib.hid hI
          clear hI hn hd hcl
          clear h6 h8 h9 hw' hF' hX' hR ho1 ho2 hul hF2
          go_simp
          dsimp only [Fi.GivesY]
          refine RoundIn.mono (F := Fence.wide.inRound (W1.heap.size + 1)) (n := 3) HR.out ?_
          rintro x W3 ⟨hst, hh⟩
          have hsk : StepK K A3 W3 := (HKX.out u HP.out.2.2.1).trans (hst.mono fun i h => .inl h)
          obtain ⟨y, rfl, hm⟩ : ∃ y : Bool, x = .returned (.bool y) ∧ (match y with | true => J (fun i => D i ∨ X i) (fun i => K i ∨ F' i ∨ i = W.heap.size) ((wantL fw nx s0 (L.take k)).length + 1) W3 | false => Jx (fun i => D i ∨ X i) W3) := by rcases hh with ⟨rfl, hj⟩ | ⟨rfl, hj⟩ <;> exact ⟨_, rfl, hj⟩
          refine ⟨_, rfl, HI.out.1.put (fun v h => (by cases h)), ?_, fun h => (by have h9 : sn 8 = true := h; rw [H89.out.1] at h9; cases h9), fun h => (by have h9 : sn 9 = true := h; rw [H89.out.2] at h9; cases h9)⟩
          show PW A4 _ _ _ (sn 2) (sn 6) true _ _ _
          have hgo : Pc (.bool y) W3 := by
            refine (HPC.out _ _).2 ⟨y, rfl, hsk, ?_⟩
            cases y with
            | false => exact hm
            | true =>
              have hkeep : Chg (fun i => ¬ (K i ∨ F' i ∨ i = W.heap.size)) u W3 := ⟨hst.os, hst.tape, hst.output, hst.size, fun i hi hk => hst.stay i (Classical.not_not.1 hk) hi⟩
              refine ⟨HI3.out.dz, HI3.out.kz, Nat.le_trans HI3.out.z hsk.size, boxed_chg (HBOX.out u HP.out.2.2.1).1 hkeep (fun h => h (.inr (.inr rfl))), F', ?_, ?_, HP.out.2.2.2.1, HP.out.2.2.2.2⟩
              · rw [HCNT.out]; exact hm
              · rw [stL_next HEK.out]; exact HW.out.keep _ _ _ _ _ HP.out.1 hkeep (fun b hb h => h (.inr (.inl hb)))
          cases sn 2 <;> cases sn 6 <;> exact hgo
        refine ⟨fun sn u hI hn hd hcl => ?_, ?_⟩
        · simp only [Act.put, List.setIfInBounds_toArray, List.set_cons_zero, List.set_cons_succ]
          have h7 : sn 7 = true := hd 7 (by kernel_rfl)
          have hpw := hI.2.1
          rw [h7] at hpw
          have hpw : Pc (f1 7) u := by cases sn 2 <;> cases sn 6 <;> exact hpw
          obtain ⟨y, e7, _, _⟩ := (HPC.out _ _).1 hpw
          have e3 : f1 3 = .bool true := hI.1 3 _ rfl (hd 3 (by kernel_rfl))
          have HE7 := Lib.hid (And.intro h7 e7)
          have HI := Lib.hid hI
          clear hI hn hd hcl
          clear h7
          go_simp
          exact ⟨HI.out.1.put (fun v h => (by cases h)), HI.out.2.1, fun _ => ⟨HE7.out.1, y, HE7.out.2, rfl⟩, HI.out.2.2.2⟩
        refine ⟨fun sn u hI hn hd hcl => ?_, ?_⟩
        · simp only [Act.put, List.setIfInBounds_toArray, List.set_cons_zero, List.set_cons_succ]
          obtain ⟨h7, y, e7, e8⟩ := hI.2.2.1 (hd 8 (by kernel_rfl))
          have e3 : f1 3 = .bool true := hI.1 3 _ rfl (hd 3 (by kernel_rfl))
          have HE7 := Lib.hid (And.intro h7 e7)
          have HI := Lib.hid hI
          clear hI hn hd hcl
          clear h7 e7
          go_simp
          exact ⟨HI.out.1.put (fun v h => (by cases h)), HI.out.2.1, HI.out.2.2.1, fun _ => ⟨HE7.out.1, y, HE7.out.2, rfl⟩⟩
        trivial
theorem only_iter {S : Type} {fw : S → Ent → Bool} {nx : S → Ent → S} {s0 : S} {L : List Ent} {X F0 : Nat → Prop} {Wt : S → (Nat → Prop) → World → Prop} {gf hf B0 b1 b2 : Nat} {lb lb2 : Array Value} {C0 C1 : World → Prop} {w : World}
    (hall : ∀ u, Ext w u → MIter gf lb B0 L C0 (fun _ => False) u) (eg : ∀ args w, (callFunc gf args).run Try.prog w = .ok (.enter gf args) w) (eh : ∀ args w, (callFunc hf args).run Try.prog w = .ok (.enter hf args) w) (hw : Wants B0 hf lb2 fw nx L X Wt C1)
    (hst : Wt s0 F0 w) (hF0 : ∀ b, F0 b → X b) (hX : ∀ b, X b → b < w.heap.size) (hB0 : B0 ≤ w.heap.size) (hkl : ∀ e ∈ L, e.key.length ≤ 140737488351232 ∧ e.val.length ≤ 140737488351232) :
    MIter 46 #[.pointer (some ⟨b1, 0, none⟩), .pointer (some ⟨b2, 0, none⟩)] B0 (wantL fw nx s0 L) (fun A => C0 A ∧ Boxed A b1 27 (.func (.func gf) #[] lb) ∧ Boxed A b2 55 (.func (.func hf) #[] lb2) ∧ C1 A) X w :=
  (only_iterN hall eg eh hw hst hF0 hX hB0 hkl).weak
end Go.Proofs.Ytlnihaeeoolkhaa

/- The law's List: the entries that a function goes over, in a row of one's own. -/
namespace Go.Proofs.Ytlnihaeeoolkhaa
open Go.ChangeShapes Go.WideShapes Go.ChangeAt Go.RowKit Go.Shelf
attribute [local go_sem] Oper.semAt_some

theorem FreeB.grow {D D' : Nat → Prop} {v : Value} {n : Nat} (h : FreeB D v) (hb : ∀ b, v.ownBlock = some b → b < n) (hD : ∀ i, D' i → D i ∨ n ≤ i) : FreeB D' v := fun b hv hd => by
  rcases hD b hd with h1 | h1
  · exact h b hv h1
  · have := hb b hv; omega
/-- What lives on does so behind a change of what may change. -/
theorem Live.go {B0 : Nat} {D D' S : Nat → Prop} {x : Ent × Hd} {A A' : World} (h : Live B0 D x A) (hc : Chg S A A') (hS : ∀ b, S b → D b ∨ A.heap.size ≤ b ∨ (B0 ≤ b ∧ NotU8 A b)) (hD : ∀ b, D' b → D b ∨ A.heap.size ≤ b) : Live B0 D' x A' := by
  refine ⟨h.2 A' S hc hS, fun A2 T hc2 hT => h.2 A2 (fun b => S b ∨ T b) ((hc.mono fun _ _ h => .inl h).trans (hc2.mono fun _ _ h => .inr h)) fun b hb => ?_⟩
  rcases hb with hb | hb
  · exact hS b hb
  · rcases hT b hb with h1 | h1 | h1
    · rcases hD b h1 with h2 | h2
      · exact .inl h2
      · exact .inr (.inl h2)
    · exact .inr (.inl (Nat.le_trans hc.size h1))
    · by_cases hb2 : S b
      · exact hS b hb2
      · by_cases hb3 : b < A.heap.size
        · exact .inr (.inr ⟨h1.1, fun c fz e => h1.2 c fz ((hc.block b hb3 hb2).trans e)⟩)
        · exact .inr (.inl (by omega))
theorem not_u8 {A : World} {b : Nat} {c : Array Value} {t : TypeId} {fz : Nat × Nat} (h : A.heap[b]? = some (.cells c t fz)) (ht : t ≠ 5) : NotU8 A b := fun c2 fz2 e => by
  rw [h] at e
  injection e with e
  injection e with _ e
  exact ht e

/-- What is collected between two rounds. -/
structure ColI (base lb s3 B0 : Nat) (w : World) (L : List Ent) (D K : Nat → Prop) (k : Nat) (A : World) (X : Option Addr) (c : Nat) (R : List (Ent × Hd)) : Prop where
  below : Below w.heap.size w A
  z : s3 ≤ A.heap.size
  dz : ∀ i, D i → s3 ≤ i
  kz : ∀ i, K i → s3 ≤ i
  box : Boxed A lb 22 (.slice X R.length c)
  row : OwnE base R (.slice X R.length c) A
  is : R.map Prod.fst = L.take k
  fd : FreeB D (.slice X R.length c)
  fk : FreeB K (.slice X R.length c)
  each : ∀ p ∈ R, Live B0 D p A
theorem ColI.chg {base lb s3 B0 : Nat} {w : World} {L : List Ent} {D K D' K' : Nat → Prop} {k c : Nat} {A A' : World} {X : Option Addr} {R : List (Ent × Hd)} (h : ColI base lb s3 B0 w L D K k A X c R) (hlb : lb < s3) (hs : w.heap.size ≤ s3) (hc : Chg D A A') (hD : ∀ i, D' i → D i ∨ A.heap.size ≤ i) (hK : ∀ i, K' i → K i ∨ A.heap.size ≤ i) : ColI base lb s3 B0 w L D' K' k A' X c R :=
  ⟨h.below.trans (hc.below (fun i hi => Nat.le_trans hs (h.dz i hi)) h.below.size), Nat.le_trans h.z hc.size,
    fun i hi => (hD i hi).elim (h.dz i) (fun h2 => Nat.le_trans h.z h2), fun i hi => (hK i hi).elim (h.kz i) (fun h2 => Nat.le_trans h.z h2),
    boxed_chg h.box hc (fun hd => by have := h.dz lb hd; omega), h.row.keep fun g hg => hc.block g (ownE_lt h.row g hg).2.1 (h.fd g hg), h.is,
    h.fd.grow (fun b hb => (ownE_lt h.row b hb).2.1) hD, h.fk.grow (fun b hb => (ownE_lt h.row b hb).2.1) hK, fun p hp => (h.each p hp).go hc (fun b hb => .inl hb) hD⟩

/-- 'append(l, e)', within a fence; where the row then lies. -/
theorem wpListIn_pushe {F : Fence} {nF : Nat} {ops : Array Oper} {rest : List Oper} {o : Oper} {a : Act} {Q : Exit → Act → World → Prop} {u : World} (hgd : o.guard = none) (s x : Operand)
    (ho : o.op = .call { callee := .builtin .append, args := #[s, x], argTypes := #[22, 22] }) (B : Nat) (v : Value) (R : List (Ent × Hd)) (hs : a.eval s = v) (hown : OwnE B R v u)
    (p : Ent × Hd) (gb : Nat) (hx : a.eval x = .slice (some ⟨gb, 0, none⟩) 1 1) (hblk : u.heap[gb]? = some (.cells (ecells p).toArray 46 (0, 0))) (hlen : R.length ≤ 1000000000000) (hB : B ≤ u.heap.size)
    (h : ∀ A' c' w', OwnE B (R ++ [p]) (.slice A' (R.length + 1) c') w' → u.grownBy w' v.ownBlock → (∀ g, (Value.slice A' (R.length + 1) c').ownBlock = some g → v.ownBlock = some g ∨ g = u.heap.size) → wpListIn F nF Try.prog ops Q rest (a.put o.dst (.slice A' (R.length + 1) c')) w') :
    wpListIn F nF Try.prog ops Q (o :: rest) a u := by
  obtain ⟨i0, hi0', ix0, ix1, ix2⟩ := info_parts einfo
  refine wpListIn_plain hgd fun K hK => ?_
  obtain ⟨v', w5, hr, ho2, hgr, _, hat⟩ := run_append_own_at (P := Try.prog) u B 22 o.type 46 i0 _ 4 64 Try.underlying22 hi0' ix0 ix1 ix2 rfl (by decide) v R.length (erow R) hown ⟨gb, 0, none⟩ 1 1 (ecells p) rfl
    (fun j q hj => by rw [addr_add, Nat.zero_add]; exact cell_of hblk (by simpa using hj)) (fun q hq => erow_one [p] q (by simpa [erow] using hq)) (by unfold maxLen; omega) (by omega) hB
  have ho' : OwnE B (R ++ [p]) v' w5 := by
    unfold OwnE
    rw [List.length_append, erow_append]
    simpa [erow] using ho2
  obtain ⟨A', c', rfl, _⟩ := ho'.sl
  have hl1 : (R ++ [p]).length = R.length + 1 := by simp
  rw [hl1] at ho' hat hr
  have hfin := h A' c' w5 ho' hgr (fun g hg => by
    rcases hat with e | e
    · exact .inl (e ▸ hg)
    · rw [e] at hg; injection hg with hg; exact .inr hg.symm)
  unfold Oper.wpIn
  refine ⟨?_, ?_⟩
  · simp [Oper.about, ho, resolve, Target.leads, Sem.run_pure]
  · rw [Oper.semAt_plain F _ _ (by rw [ho]; intro c hc'; cases hc')]
    simp [execOp, ho, resolve, invoke, builtin, hs, hx, hr, Result.andThen]
    exact hK _ _ hfin

theorem col_box {A3 w5 : World} {lb B : Nat} {o : Obj} {X : Option Addr} {c n : Nat} {R : List (Ent × Hd)} (hb : Boxed A3 lb 22 (.slice X n c)) (hg : OwnE B R (.slice X R.length c) A3) (hgr : (A3.alloc o).grownBy w5 (Value.slice X R.length c).ownBlock) : Boxed w5 lb 22 (.slice X n c) :=
  (hgr.block lb (by have := hb.lt; simp; omega) (fun e => by
    obtain ⟨_, _, cc, hcc⟩ := ownE_lt hg lb e.symm
    have h1 : A3.heap[lb]? = _ := hb
    rw [h1] at hcc
    injection hcc with hcc
    injection hcc with _ hcc
    exact absurd hcc (by decide))).trans (ext_heap (ext_alloc A3 o) hb)

/-- Behind a round. -/
theorem col_next {base lb s3 B0 : Nat} {w A3 w5 w6 : World} {L : List Ent} {D K : Nat → Prop} {k cR N c5 : Nat} {X X5 : Option Addr} {R : List (Ent × Hd)} {p : Ent × Hd} {o : Obj} (hT : ColI base lb s3 B0 w L D K k A3 X cR R) (hlb : lb < s3) (hbase : w.heap.size ≤ base) (hbl : w.heap.size ≤ lb) (hB0 : B0 ≤ w.heap.size)
    (hD : ∀ i, D i → i < A3.heap.size) (hK : ∀ i, K i → i < A3.heap.size)
    (hp : L[k]? = some p.1) (hlive : Live B0 D p A3)
    (hN : N = R.length + 1) (hg5 : OwnE base (R ++ [p]) (.slice X5 N c5) w5) (hgr : (A3.alloc o).grownBy w5 (Value.slice X R.length cR).ownBlock)
    (hat : ∀ g, (Value.slice X5 N c5).ownBlock = some g → (Value.slice X R.length cR).ownBlock = some g ∨ g = (A3.alloc o).heap.size) (hw6 : w6 = w5.setCell ⟨lb, 0, none⟩ (.slice X5 N c5)) :
    StepK K A3 w6 ∧ ColI base lb s3 B0 w L D K (k + 1) w6 X5 c5 (R ++ [p]) := by
  have hlen : N = (R ++ [p]).length := by rw [hN]; simp
  subst hlen
  have hb5 := col_box hT.box hT.row hgr
  have hb6 : Boxed w6 lb 22 (.slice X5 (R ++ [p]).length c5) := by rw [hw6]; exact hb5.set _
  have hc : Chg (fun i => (Value.slice X R.length cR).ownBlock = some i ∨ i = lb) A3 w6 := by
    rw [hw6]
    exact ((Chg.alloc (S := fun i => (Value.slice X R.length cR).ownBlock = some i ∨ i = lb) A3 o).trans (Chg.grown hgr fun g hg => .inl hg)).trans (Chg.setCell _ _ _ (.inr rfl))
  have hrow := fun g hg => ownE_lt hT.row g hg
  have hS : ∀ b, ((Value.slice X R.length cR).ownBlock = some b ∨ b = lb) → D b ∨ A3.heap.size ≤ b ∨ (B0 ≤ b ∧ NotU8 A3 b) := fun b hb => by
    rcases hb with hb | hb
    · obtain ⟨h1, _, cc, hcc⟩ := hrow b hb
      exact .inr (.inr ⟨by omega, not_u8 hcc (by decide)⟩)
    · rw [hb]
      exact .inr (.inr ⟨by omega, not_u8 hT.box (by decide)⟩)
  refine ⟨StepK.of_chg hc (fun i _ hk hs => ?_), hT.below.trans (hc.below (fun i hi => ?_) hT.below.size), Nat.le_trans hT.z hc.size, hT.dz, hT.kz, hb6, ?_, ?_, fun g hg hd => ?_, fun g hg hd => ?_, fun q hq => ?_⟩
  · rcases hs with hs | hs
    · exact hT.fk i hs hk
    · have := hT.kz i hk; omega
  · rcases hi with hi | hi
    · have := (hrow i hi).1; omega
    · omega
  · rw [hw6]
    refine hg5.keep fun g hg => Below.heap_setCell _ _ _ _ fun e => ?_
    obtain ⟨_, _, cc, hcc⟩ := ownE_lt hg5 g hg
    have h1 : w5.heap[lb]? = _ := hb5
    rw [e, h1] at hcc
    injection hcc with hcc
    injection hcc with _ hcc
    exact absurd hcc (by decide)
  · rw [List.map_append, hT.is, List.take_add_one, hp]; rfl
  · rcases hat g hg with h | h
    · exact hT.fd g h hd
    · have := hD g hd; rw [h] at this; simp at this; omega
  · rcases hat g hg with h | h
    · exact hT.fk g h hd
    · have := hK g hd; rw [h] at this; simp at this; omega
  · rcases List.mem_append.1 hq with hq | hq
    · exact (hT.each q hq).go hc hS (fun b hb => .inl hb)
    · rw [List.mem_singleton] at hq; subst hq
      exact hlive.go hc hS (fun b hb => .inl hb)

/-- The first ones, at most so many (0 or less: all). -/
def takeM (most : Int) (L : List Ent) : List Ent := if 0 < most then L.take most.toNat else L
/-- What List answers. -/
def List11Ans (w : World) (L : List Ent) (x : Ending) (w' : World) : Prop := ∃ X c R, x = .returned (.slice X R.length c) ∧ OwnE w.heap.size R (.slice X R.length c) w' ∧ R.map Prod.fst = L ∧ (∀ p ∈ R, Em w' 0 w'.heap.size p.1 p.2) ∧ Below w.heap.size w w'

theorem seq_some11 (gf : Nat) (lb : Array Value) (w : World) : (binOp .eql 27 (.func (.func gf) #[] lb) .nilFunc).run Try.prog w = .ok (.bool false) w := seq_some gf lb w

set_option maxRecDepth 100000 in
set_option maxHeartbeats 8000000 in
theorem list11_any {w : World} {gf B0 : Nat} {lb : Array Value} {L : List Ent} {C : World → Prop} {most : Int} (hit : ∀ u, Ext w u → MIter gf lb B0 L C (fun _ => False) u) (eg : ∀ args w, (callFunc gf args).run Try.prog w = .ok (.enter gf args) w) (hC : ∀ A, Below w.heap.size w A → C A) (hB0 : B0 ≤ w.heap.size) (hl : L.length ≤ 1000000) :
    Calls Try.prog 12 #[.func (.func gf) #[] lb, .int .i64 most] w (List11Ans w (takeM most L)) := by
  obtain ⟨w1, hw1⟩ : ∃ w1, w1 = (w.alloc (.cells #[.int .i64 most] 3)).alloc (.cells #[.slice none 0 0] 22) := ⟨_, rfl⟩
  have HX1 : Hid (Ext w w1) := by rw [hw1]; exact Ext.trans (ext_alloc _ _) (ext_alloc _ _)
  have HZ1 : Hid (w1.heap.size = w.heap.size + 2) := by rw [hw1]; simp [Hid]
  have HB0' : Hid (Boxed w1 w.heap.size 3 (.int .i64 most)) := by rw [hw1]; exact ext_heap (ext_alloc _ _) (heap_at _ _ rfl)
  have HB1 : Hid (Boxed w1 (w.heap.size + 1) 22 (.slice none 0 0)) := by rw [hw1]; exact heap_at _ _ (by simp)
  have HIT := Lib.hid (hit w1 HX1.out)
  have HC := Lib.hid hC
  have HB := Lib.hid hB0
  have HL := Lib.hid hl
  have hfn := seq_some gf lb
  clear hit hC hB0 hl
  refine (callsIn_wide (n := 6)).1 ?_
  refine callsIn_of_wp_marks Try.func12 rfl trivial ?_
  simp only [Try.ntmps12, List.size_toArray, List.length_cons, List.length_nil, Nat.reduceAdd, Nat.reduceSub, Array.replicate_succ, Array.replicate_zero, List.push_toArray, List.append_toArray, List.nil_append, List.cons_append]
  gi_wp2_with fail
  rw [← hw1]
  clear hw1 hfn
  refine wpIn_overX rfl eg (fun _ h => h.elim) HIT.out (fun _ => rfl) (fun D K k A => ∃ X c R, ColI w.heap.size (w.heap.size + 1) (w.heap.size + 2) B0 w L D K k A X c R ∧ Boxed A w.heap.size 3 (.int .i64 most) ∧ (0 < most → (k : Int) < most))
    (fun D c A => c = .exit 0 ∧ ∃ k X cc R, ColI w.heap.size (w.heap.size + 1) (w.heap.size + 2) B0 w L D (fun _ => False) k A X cc R ∧ L.take k = takeM most L) (fun _ _ _ _ h => by obtain ⟨_, _, _, h, _⟩ := h; exact HC.out _ h.below) ?hI ?hIx ?h0 ?rnd ?hok ?done ?stop
  case hI =>
    rintro D K k A D' K' A' ⟨X, c, R, h1, h2, h3⟩ hc hD hK
    exact ⟨X, c, R, h1.chg (by omega) (by omega) hc hD hK, boxed_chg h2 hc (fun hd => by have := h1.dz _ hd; omega), h3⟩
  case hIx =>
    rintro D c A A' ⟨rfl, k, X, cc, R, h1, h2⟩ hc
    exact ⟨rfl, k, X, cc, R, h1.chg (by omega) (by omega) hc (fun i h => .inl h) (fun i h => .inl h), h2⟩
  case h0 =>
    intro A D K hx hD hK
    have z1 := HZ1.out
    have hs := hx.size
    exact ⟨none, 0, [], ⟨Ext.trans HX1.out hx, by omega, fun i h => by have := (hD i h).elim False.elim id; omega, fun i h => by have := (hK i h).elim False.elim id; omega, ext_heap hx HB1.out, World.ownsRow_nil _ _ _ _, rfl, fun b hb => (by cases hb), fun b hb => (by cases hb), fun p hp => (by cases hp)⟩, ext_heap hx HB0'.out, fun h => by omega⟩
  case hok =>
    rintro D K D' K' k x A ⟨h1, h2⟩ ⟨od, hd⟩ ⟨ol, hl⟩ hD' _ _ _
    refine ⟨h1, h2.1, fun A' T hc hT => h2.2 A' T hc fun b hb => ?_⟩
    have hBW : B0 ≤ w1.heap.size := by have := HB.out; have := HZ1.out; omega
    rcases hT b hb with h | h
    · rcases hD' b h with h | h | h
      · exact .inl h
      · exact .inr (.inr ⟨by omega, fun c fz e => by rw [h, hd] at e; cases e⟩)
      · exact .inr (.inr ⟨by omega, fun c fz e => by rw [h, hl] at e; cases e⟩)
    · exact .inr h
  case rnd =>
    rintro l2 D K k ⟨e, g⟩ A rfl hDl hKl hDm hKm hDb hKb ⟨X0, c0, R0, hi, hbm, hmost⟩ ⟨hek, hlv⟩
    have hek' : L[k]? = some e := hek
    have HI1 := Lib.hid hi
    have HBM := Lib.hid hbm
    have HMO := Lib.hid hmost
    have HLV := Lib.hid hlv
    have HEK := Lib.hid hek'
    have HDK := Lib.hid (And.intro hDl (And.intro hKl (And.intro hDb hKb)))
    clear hDl hKl hDm hKm hDb hKb hi hbm hmost hek hek' hlv
    dsimp only [entV, Ent.at_]
    gi_wp2
    obtain ⟨A2, hA2⟩ : ∃ A2, A2 = A.alloc (.cells #[.slice g.kA e.key.length g.kc, .int .i64 e.seq, .int .i64 e.kind, .slice g.vA e.val.length g.vc] 46) := ⟨_, rfl⟩
    rw [← hA2]
    have HX2 : Hid (Ext A A2) := by rw [hA2]; exact ext_alloc _ _
    have HBE2 : Hid (A2.heap[A.heap.size]? = some (.cells #[.slice g.kA e.key.length g.kc, .int .i64 e.seq, .int .i64 e.kind, .slice g.vA e.val.length g.vc] 46 (0, 0))) := by rw [hA2]; exact heap_at _ _ rfl
    clear hA2
    refine ⟨StepK.of_chg (S := fun _ => False) (Chg.of_ext HX2.out) (fun _ _ _ h => h), fun A3 hc => ?_⟩
    have HCH : Hid (Chg D A A3) := ((Chg.of_ext (S := D) HX2.out).trans (hc.mono fun i _ e => by rw [e]; exact HDK.out.1))
    have HI3 := Lib.hid (HI1.out.chg (by omega) (by omega) HCH.out (fun i h => .inl h) (fun i h => .inl h))
    have HL3 : Hid (Live B0 D (e, g) A3) := HLV.out.go HCH.out (fun b hb => .inl hb) (fun b hb => .inl hb)
    have HBM3 := Lib.hid (boxed_chg HBM.out HCH.out (fun hd => by have := HI1.out.dz _ hd; omega))
    have HB3 : Hid (A3.heap[A.heap.size]? = some (.cells #[.slice g.kA e.key.length g.kc, .int .i64 e.seq, .int .i64 e.kind, .slice g.vA e.val.length g.vc] 46 (0, 0))) :=
      (hc.block _ (Array.getElem?_eq_some_iff.1 HBE2.out).1 (fun e => by have := HDK.out.2.2.2 _ HDK.out.2.1; omega)).trans HBE2.out
    have HRL : Hid (R0.length = k ∧ k < 1000000) := by
      have h1 := (List.getElem?_eq_some_iff.1 HEK.out).1
      have h2 := congrArg List.length HI3.out.is
      rw [List.length_map, List.length_take] at h2
      have := HL.out
      exact ⟨by omega, by omega⟩
    have q0 := HI3.out.box.cell
    have q9 := HBM3.out.cell
    have e0 := cell_of HB3.out (k := 0) rfl
    have e1 := cell_of HB3.out (k := 1) rfl
    have e2 := cell_of HB3.out (k := 2) rfl
    have e3 := cell_of HB3.out (k := 3) rfl
    have HZA : Hid (w.heap.size ≤ A3.heap.size) := HI3.out.below.size
    have HAA : Hid (A.heap.size ≤ A3.heap.size) := HCH.out.size
    clear hc
    obtain ⟨N, hN⟩ : ∃ N, N = R0.length + 1 := ⟨_, rfl⟩
    have HN := Lib.hid hN
    have HNB : Hid (¬ (Value.slice X0 R0.length c0).ownBlock = some w.heap.size) := fun e => by
      obtain ⟨_, _, cc, hcc⟩ := ownE_lt HI3.out.row _ e
      have h1 : A3.heap[w.heap.size]? = _ := HBM3.out
      rw [h1] at hcc
      injection hcc with hcc
      injection hcc with _ hcc
      exact absurd hcc (by decide)
    by_cases hbig : (N : Int) = most
    · have d : ((N : Int) == most) = true := by rw [beq_iff_eq]; exact hbig
      have HBIG := Lib.hid hbig
      clear hN hbig
      gi_wp2_with (gi_at_builtin; refine wpListIn_pushe rfl (.tmp 11) (.tmp 13) rfl w.heap.size _ R0 rfl (HI3.out.row.below (ext_alloc _ _)) (e, g) A3.heap.size rfl (heap_at _ _ rfl) (by have := HRL.out; omega) (Nat.le_trans HZA.out (by simp)) ?_; rw [← HN.out]; intro X5 c5 w5 hgot5 hgr5 hat5; have HG5 := Lib.hid hgot5; have HGR5 := Lib.hid hgr5; have HAT5 := Lib.hid hat5; have q1 := col_box HI3.out.box HI3.out.row hgr5; have HQ1 := Lib.hid q1; have q2 := q1.cell; have q3 := q1.frozen; have q7 := boxed_chg (boxed_ext HBM3.out (ext_alloc _ _)) (Chg.grown (S := fun i => (Value.slice X0 R0.length c0).ownBlock = some i) hgr5 fun g hg => hg) HNB.out; have HQ7 := Lib.hid q7; have q8 := q7.cell; clear q7; clear hgot5 hgr5 hat5 q1)
      obtain ⟨w6, hw6⟩ : ∃ w6, w6 = w5.setCell ⟨w.heap.size + 1, 0, none⟩ (.slice X5 N c5) := ⟨_, rfl⟩
      rw [← hw6]
      obtain ⟨hst, hnx⟩ := col_next HI3.out (by omega) (Nat.le_refl _) (by omega) HB.out (fun i h => by have := (HDK.out.2.2.1 i h).2; have := HAA.out; omega) (fun i h => by have := (HDK.out.2.2.2 i h).2; have := HAA.out; omega) HEK.out HL3.out HN.out HG5.out HGR5.out HAT5.out hw6
      clear hw6 q2 q3 q8
      refine ⟨hst, rfl, k + 1, X5, c5, R0 ++ [(e, g)], ⟨hnx.below, hnx.z, hnx.dz, fun i h => h.elim, hnx.box, hnx.row, hnx.is, hnx.fd, fun b _ h => h, hnx.each⟩, ?_⟩
      have h1 := HRL.out
      have h2 := HBIG.out
      have h3 := HN.out
      unfold takeM
      rw [if_pos (by omega)]
      congr 1
      omega
    · have d : ((N : Int) == most) = false := by rw [beq_eq_false_iff_ne]; exact hbig
      have HBIG := Lib.hid hbig
      clear hN hbig
      gi_wp2_with (gi_at_builtin; refine wpListIn_pushe rfl (.tmp 11) (.tmp 13) rfl w.heap.size _ R0 rfl (HI3.out.row.below (ext_alloc _ _)) (e, g) A3.heap.size rfl (heap_at _ _ rfl) (by have := HRL.out; omega) (Nat.le_trans HZA.out (by simp)) ?_; rw [← HN.out]; intro X5 c5 w5 hgot5 hgr5 hat5; have HG5 := Lib.hid hgot5; have HGR5 := Lib.hid hgr5; have HAT5 := Lib.hid hat5; have q1 := col_box HI3.out.box HI3.out.row hgr5; have HQ1 := Lib.hid q1; have q2 := q1.cell; have q3 := q1.frozen; have q7 := boxed_chg (boxed_ext HBM3.out (ext_alloc _ _)) (Chg.grown (S := fun i => (Value.slice X0 R0.length c0).ownBlock = some i) hgr5 fun g hg => hg) HNB.out; have HQ7 := Lib.hid q7; have q8 := q7.cell; clear q7; clear hgot5 hgr5 hat5 q1)
      obtain ⟨w6, hw6⟩ : ∃ w6, w6 = w5.setCell ⟨w.heap.size + 1, 0, none⟩ (.slice X5 N c5) := ⟨_, rfl⟩
      rw [← hw6]
      obtain ⟨hst, hnx⟩ := col_next HI3.out (by omega) (Nat.le_refl _) (by omega) HB.out (fun i h => by have := (HDK.out.2.2.1 i h).2; have := HAA.out; omega) (fun i h => by have := (HDK.out.2.2.2 i h).2; have := HAA.out; omega) HEK.out HL3.out HN.out HG5.out HGR5.out HAT5.out hw6
      clear q2 q3 q8
      have hb9 : Boxed w6 w.heap.size 3 (.int .i64 most) := by rw [hw6]; exact boxed_far HQ7.out (by omega)
      refine ⟨hst, X5, c5, R0 ++ [(e, g)], hnx, hb9, fun h => ?_⟩
      have h1 := HRL.out
      have h2 := HBIG.out
      have h3 := HN.out
      have h4 := HMO.out h
      omega
  case done =>
    rintro M k W2 D K rfl hDm hKm ⟨X, c, R, hi, hbm, hmo⟩ hk hd
    have hk' : k = L.length := hk
    have HI := Lib.hid hi
    have HDM := Lib.hid (And.intro hDm hd)
    have HTK : Hid (R.map Prod.fst = takeM most L) := by
      have h1 := hi.is
      rw [hk', List.take_of_length_le (Nat.le_refl _)] at h1
      unfold takeM
      split
      · rename_i hm
        have := hmo hm
        rw [List.take_of_length_le (by omega)]
        exact h1
      · exact h1
    have q0 := hi.box.cell
    clear hi hbm hmo hk hk' hDm hKm hd
    gi_wp2_with fail
    refine leaves_marks (u := .returning) (by simp) [w1.heap.size] W2 (by simp) (fun i hi => ?_) (fun W3 hc => ?_)
    · rw [List.mem_singleton] at hi; rw [hi]; exact HDM.out.2
    · have hc' : Chg D W2 W3 := hc.mono fun i _ hi => by rw [List.mem_singleton] at hi; rw [hi]; exact HDM.out.1
      have hfin := HI.out.chg (by omega) (by omega) hc' (fun i h => .inl h) (fun i h => .inl h)
      exact ⟨_, results_tmp rfl _ _ _, X, c, R, rfl, hfin.row, HTK.out, fun p hp => (hfin.each p hp).1, hfin.below⟩
  case stop =>
    rintro D M c W2 rfl hDm ⟨rfl, k, X, cc, R, hi, htk⟩ hd
    have HI := Lib.hid hi
    have HDM := Lib.hid (And.intro hDm hd)
    have HTK : Hid (R.map Prod.fst = takeM most L) := hi.is.trans htk
    have q0 := hi.box.cell
    clear hi htk hDm hd
    gi_wp2_with fail
    refine leaves_marks (u := .returning) (by simp) [w1.heap.size] W2 (by simp) (fun i hi => ?_) (fun W3 hc => ?_)
    · rw [List.mem_singleton] at hi; rw [hi]; exact HDM.out.2
    · have hc' : Chg D W2 W3 := hc.mono fun i _ hi => by rw [List.mem_singleton] at hi; rw [hi]; exact HDM.out.1
      have hfin := HI.out.chg (by omega) (by omega) hc' (fun i h => .inl h) (fun i h => .inl h)
      exact ⟨_, results_tmp rfl _ _ _, X, cc, R, rfl, hfin.row, HTK.out, fun p hp => (hfin.each p hp).1, hfin.below⟩
end Go.Proofs.Ytlnihaeeoolkhaa

/- The reference: an entry's bytes. -/
namespace Go.Proofs.Ytlnihaeeoolkhaa
open Go.ChangeShapes Go.WideShapes Go.ChangeAt Go.RowKit

end Go.Proofs.Ytlnihaeeoolkhaa

/- The bytes of a list of entries: ikey's List, and the reference's. -/
namespace Go.Proofs.Ytlnihaeeoolkhaa
open Go.ChangeShapes Go.WideShapes Go.ChangeAt Go.RowKit

/-- The bytes of entries, one behind the other, each told how long. -/
def lf (es : List Ent) : List Nat := (es.map fun e => bytesForm e.form).flatten
/-- A list's bytes. -/
def lform (es : List Ent) : List Nat := form es.length ++ lf es
/-- What stands ahead of the k-th. -/
def lpre (es : List Ent) (k : Nat) : List Nat := form es.length ++ lf (es.take k)
theorem lpre_zero (es : List Ent) : lpre es 0 = form es.length := by simp [lpre, lf]
theorem lpre_all (es : List Ent) : lpre es es.length = lform es := by simp [lpre, lform]
theorem lpre_succ {es : List Ent} {k : Nat} {e : Ent} (h : es[k]? = some e) : lpre es (k + 1) = lpre es k ++ bytesForm e.form := by
  obtain ⟨hlt, rfl⟩ := List.getElem?_eq_some_iff.1 h
  unfold lpre lf
  rw [List.take_succ_eq_append_getElem hlt, List.map_append, List.flatten_append, List.append_assoc]
  simp
theorem bytesForm_le {l : List Nat} (h : l.length ≤ 65700) : (bytesForm l).length ≤ 65710 := by
  have := (bytesForm_len (l := l) ⟨by omega⟩).1; omega
theorem lpre_len {es : List Ent} (hm : ∀ e ∈ es, e.may = true) (hl : es.length ≤ 10000000) : ∀ k, k ≤ es.length → (lpre es k).length ≤ 10 + 65710 * k
  | 0, _ => by rw [lpre_zero]; have := form_len64 (n := es.length) ⟨by omega⟩; omega
  | k + 1, h => by
    have h1 := lpre_len hm hl k (by omega)
    have hk : es[k]? = some es[k] := List.getElem?_eq_getElem (by omega)
    have h2 := bytesForm_le (Ent.form_len (hm es[k] (List.getElem_mem (by omega))))
    rw [lpre_succ hk, List.length_append]; omega

/-- What List answers. -/
def ListAns (w : World) (es : List Ent) (x : Ending) (w' : World) : Prop :=
  Ext w w' ∧ ((es.length ≤ 65536 ∧ (∀ e ∈ es, e.may = true) ∧ ∃ v, x = .returned (.tuple #[v, .int .i64 0]) ∧ Own w.heap.size (lform es) v w') ∨ (¬ (es.length ≤ 65536 ∧ ∀ e ∈ es, e.may = true) ∧ x = .returned (.tuple #[.slice none 0 0, .int .i64 2])))

end Go.Proofs.Ytlnihaeeoolkhaa

/- Lists of entries read: ikey's Lists. -/
namespace Go.Proofs.Ytlnihaeeoolkhaa
open Go.ChangeShapes Go.WideShapes Go.ChangeAt Go.RowKit

/-! Plain mathematics -/

theorem ent_bytes {b : List Nat} {e : Ent} (h : IsE b e) (hb : ∀ x ∈ b, x < 256) : (∀ x ∈ e.key, x < 256) ∧ (∀ x ∈ e.val, x < 256) := by
  obtain ⟨hm, rfl⟩ := h
  obtain ⟨_, _, _, _, a5⟩ := mayN_iff.1 hm
  unfold Ent.form bytesForm at hb
  refine ⟨fun x hx => hb x (by simp [hx]), fun x hx => ?_⟩
  rcases a5 with ⟨a, _⟩ | ⟨_, a⟩
  · exact hb x (by simp [a, hx])
  · rw [List.eq_nil_of_length_eq_zero a] at hx; cases hx
theorem Good.of_is {b : List Nat} {e : Ent} (h : IsE b e) (hb : ∀ x ∈ b, x < 256) : Good e := by
  obtain ⟨a1, a2⟩ := ent_bytes h hb
  obtain ⟨_, _, b1, b2, b3⟩ := mayN_iff.1 h.1
  exact ⟨a1, a2, by omega, by omega, by omega, by omega⟩
theorem ent_cut {e e' : Ent} (h : e.may = true) (h' : e'.may = true) {r r' : List Nat} (k : bytesForm e.form ++ r = bytesForm e'.form ++ r') : e = e' ∧ r = r' := by
  have l1 := Ent.form_len h
  have l2 := Ent.form_len h'
  obtain ⟨k1, k2⟩ := bytesForm_cut ⟨by omega⟩ ⟨by omega⟩ k
  exact ⟨IsE.unique ⟨h, rfl⟩ ⟨h', k1.symm⟩, k2⟩
theorem lf_nil : lf [] = [] := rfl
theorem lf_cons (e : Ent) (es : List Ent) : lf (e :: es) = bytesForm e.form ++ lf es := by simp [lf]
theorem lf_append (a b : List Ent) : lf (a ++ b) = lf a ++ lf b := by simp [lf]
/-- What is read of the first so many. -/
theorem lf_front : ∀ {xs es : List Ent} {r rest : List Nat}, (∀ e ∈ xs, e.may = true) → (∀ e ∈ es, e.may = true) → xs.length ≤ es.length → lf es ++ r = lf xs ++ rest → ∃ t, es = xs ++ t ∧ rest = lf t ++ r
  | [], es, r, rest, _, _, _, h => ⟨es, rfl, by rw [h]; simp [lf]⟩
  | a :: xs, [], r, rest, _, _, h, _ => by simp at h
  | a :: xs, e :: es, r, rest, ha, he, hl, h => by
    rw [lf_cons, lf_cons, List.append_assoc, List.append_assoc] at h
    obtain ⟨rfl, h2⟩ := ent_cut (he e (by simp)) (ha a (by simp)) h
    obtain ⟨t, rfl, ht⟩ := lf_front (fun x hx => ha x (by simp [hx])) (fun x hx => he x (by simp [hx])) (by simpa using hl) h2
    exact ⟨t, rfl, ht⟩
/-- The entries of which these are the list's bytes. -/
def IsL (b : List Nat) (es : List Ent) : Prop := es.length ≤ 65536 ∧ (∀ e ∈ es, e.may = true) ∧ lform es = b
theorem IsL.begins {b : List Nat} {es : List Ent} (h : IsL b es) : Begins b es.length (lf es) := ⟨⟨by have := h.1; omega⟩, h.2.2.symm⟩
theorem IsL.unique {b : List Nat} {es es' : List Ent} (h : IsL b es) (h' : IsL b es') : es = es' := by
  obtain ⟨e1, e2⟩ := h.begins.unique h'.begins
  obtain ⟨t, ht, _⟩ := lf_front (r := []) (rest := []) h'.2.1 h.2.1 (by omega) (by rw [e2])
  have : t = [] := List.eq_nil_of_length_eq_zero (by have := congrArg List.length ht; simp at this; omega)
  rw [ht, this, List.append_nil]
/-- Entries that stand here one behind the other. -/
def AllEnt (l : List Nat) (es : List Ent) (rest : List Nat) : Prop := l = lf es ++ rest ∧ ∀ e ∈ es, e.may = true
theorem AllEnt.snoc {l mid rest : List Nat} {es : List Ent} {e : Ent} (h : AllEnt l es mid) (hm : e.may = true) (he : mid = bytesForm e.form ++ rest) : AllEnt l (es ++ [e]) rest := by
  obtain ⟨rfl, h2⟩ := h
  refine ⟨by rw [he, lf_append, lf_cons, lf_nil]; simp, fun x hx => ?_⟩
  rcases List.mem_append.1 hx with hx | hx
  · exact h2 x hx
  · rw [List.mem_singleton] at hx; rw [hx]; exact hm
theorem AllEnt.len {l rest : List Nat} {es : List Ent} (h : AllEnt l es rest) : es.length + rest.length ≤ l.length := by
  obtain ⟨rfl, h2⟩ := h
  have : ∀ es : List Ent, (∀ e ∈ es, e.may = true) → es.length ≤ (lf es).length := by
    intro es
    induction es with
    | nil => intro _; simp
    | cons e es ih =>
      intro hm
      have h1 := ih fun x hx => hm x (by simp [hx])
      have h2 := (bytesForm_len (l := e.form) ⟨by have := Ent.form_len (hm e (by simp)); omega⟩).2
      rw [lf_cons, List.length_append, List.length_cons]; omega
  have := this es h2
  rw [List.length_append]; omega
/-- No entry stands here. -/
def NoEnt (l : List Nat) : Prop := ∀ e rest, Ent.may e = true → l ≠ bytesForm e.form ++ rest
theorem AllEnt.no {b mid rest : List Nat} {xs es : List Ent} {m : Nat} (hb : Begins b m mid) (ha : AllEnt mid xs rest) (hlt : xs.length < m) (hno : NoEnt rest) : ¬ IsL b es := by
  intro h
  obtain ⟨e1, e2⟩ := h.begins.unique hb
  obtain ⟨h1, h2⟩ := ha
  obtain ⟨t, ht, hr⟩ := lf_front (r := []) h2 h.2.1 (by omega) (by rw [List.append_nil, e2, h1])
  cases t with
  | nil => rw [ht] at e1; simp at e1; omega
  | cons e t =>
    rw [lf_cons, List.append_assoc] at hr
    exact hno e _ (h.2.1 e (by rw [ht]; simp)) hr
theorem AllEnt.is {b mid : List Nat} {xs : List Ent} (hb : Begins b xs.length mid) (hl : xs.length ≤ 65536) (ha : AllEnt mid xs []) : IsL b xs := by
  refine ⟨hl, ha.2, ?_⟩
  have h1 := ha.1
  rw [List.append_nil] at h1
  unfold lform
  rw [← h1, hb.eq]
theorem AllEnt.rest {b mid rest : List Nat} {xs es : List Ent} (hb : Begins b xs.length mid) (ha : AllEnt mid xs rest) (h : IsL b es) : rest = [] := by
  obtain ⟨e1, e2⟩ := h.begins.unique hb
  obtain ⟨t, ht, hr⟩ := lf_front (r := []) ha.2 h.2.1 (by omega) (by rw [List.append_nil, e2, ha.1])
  have : t = [] := List.eq_nil_of_length_eq_zero (by have := congrArg List.length ht; simp at this; omega)
  subst this
  simpa [lf] using hr

/-! Rows of the call's own -/

/-- A row of entries, all of them the call's own. -/
structure Got (B : Nat) (v : Value) (R : List (Ent × Hd)) (w : World) : Prop where
  row : w.ownsRow B 46 4 v R.length (erow R)
  each : ∀ p ∈ R, Mine B p w
theorem Got.nil (B : Nat) (w : World) : Got B (.slice none 0 0) [] w := ⟨World.ownsRow_nil _ _ _ _, fun p hp => by cases hp⟩
theorem Got.base {B B' : Nat} {v : Value} {R : List (Ent × Hd)} {w : World} (h : Got B v R w) (hB : B' ≤ B) : Got B' v R w := ⟨rowN_base h.row hB, fun p hp => (h.each p hp).base hB⟩
theorem Got.kept {B : Nat} {v : Value} {R : List (Ent × Hd)} {w w' : World} (h : Got B v R w) (hk : ∀ g, B ≤ g → g < w.heap.size → w'.heap[g]? = w.heap[g]?) : Got B v R w' := by
  refine ⟨rowN_kept h.row fun g hg => hk g (rowN_lt h.row g hg).1 (rowN_lt h.row g hg).2.1, fun p hp => ?_⟩
  have hm := h.each p hp
  exact ⟨row_kept hm.k fun g hg => hk g (row_lt hm.k g hg).1 (row_lt hm.k g hg).2, row_kept hm.v fun g hg => hk g (row_lt hm.v g hg).1 (row_lt hm.v g hg).2, hm.good⟩
theorem Got.below {B : Nat} {v : Value} {R : List (Ent × Hd)} {w w' : World} (h : Got B v R w) (hx : Ext w w') : Got B v R w' := h.kept fun g _ hg => hx.block g hg
theorem Got.grown {B r : Nat} {v : Value} {R : List (Ent × Hd)} {w w' : World} (h : Got B v R w) (hg : w.grownBy w' (some r)) (hr : r < B) : Got B v R w' := h.kept fun g h1 h2 => hg.block g h2 (fun e => by injection e with e; omega)
theorem Got.slice {B : Nat} {v : Value} {R : List (Ent × Hd)} {w : World} (h : Got B v R w) : ∃ A c, v = .slice A R.length c := rowN_slice h.row

/-- 'append(l, e)'. -/
theorem wpList_pushent {ops : Array Oper} {rest : List Oper} {o : Oper} {a : Act} {Q : Exit → Act → World → Prop} {u : World} (hgd : o.guard = none) (s x : Operand)
    (ho : o.op = .call { callee := .builtin .append, args := #[s, x], argTypes := #[22, 22] }) (B : Nat) (v : Value) (R : List (Ent × Hd)) (hs : a.eval s = v) (hgot : Got B v R u)
    (p : Ent × Hd) (gb : Nat) (hx : a.eval x = .slice (some ⟨gb, 0, none⟩) 1 1) (hblk : u.heap[gb]? = some (.cells (ecells p).toArray 46 (0, 0))) (hp : Mine B p u) (hlen : R.length ≤ 1000000000000) (hB : B ≤ u.heap.size)
    (h : ∀ A' c' w', Got B (.slice A' (R.length + 1) c') (R ++ [p]) w' → (∀ w0, Below B w0 u → Below B w0 w') → wpList Try.prog ops Q rest (a.put o.dst (.slice A' (R.length + 1) c')) w') :
    wpList Try.prog ops Q (o :: rest) a u := by
  obtain ⟨i0, hi0', ix0, ix1, ix2⟩ := info_parts einfo
  refine wpList_append_own _ hgd s x 22 ho B 46 i0 _ 4 64 Try.underlying22 hi0' ix0 ix1 ix2 rfl (by decide) v R.length (erow R) hs hgot.row ⟨gb, 0, none⟩ 1 1 (ecells p) hx rfl (fun j q hj => ?n1) (fun q hq => ?n2) ?n3 ?n4 hB (fun v' w5 ho hgr _ => ?rest)
  case n1 => rw [addr_add, Nat.zero_add]; exact cell_of hblk (by simpa using hj)
  case n2 => exact erow_one [p] q (by simpa [erow] using hq)
  case n3 => unfold maxLen; omega
  case n4 => omega
  case rest =>
    have hlt := rowN_lt hgot.row
    have hke : ∀ q : Ent × Hd, Mine B q u → Mine B q w5 := fun q hq => by
      have hk : ∀ {l : List Nat} {x : Value}, Own B l x u → Own B l x w5 := fun hx => row_kept hx fun g' hg' => hgr.block g' (row_lt hx g' hg').2 (fun e => rows_apart hx hgot.row (by decide) hg' e.symm)
      exact ⟨hk hq.k, hk hq.v, hq.good⟩
    have hgot' : Got B v' (R ++ [p]) w5 := by
      refine ⟨by rw [List.length_append, erow_append]; simpa [erow] using ho, fun q hq => ?_⟩
      rcases List.mem_append.1 hq with hq | hq
      · exact hke q (hgot.each q hq)
      · rw [List.mem_singleton] at hq; subst hq; exact hke q hp
    obtain ⟨A', c', rfl⟩ := rowN_slice ho
    exact h A' c' w5 hgot' (fun w0 hb => hb.grown hgr hB fun k hk => (hlt k hk).1)

/-! One entry of a list -/

/-! Lists -/

def OkEnts (B : Nat) (most : Int) (l : List Nat) (v : Value) (rest : List Nat) (w : World) : Prop :=
  ∃ (R : List (Ent × Hd)) (mid : List Nat), Begins l R.length mid ∧ (R.length : Int) ≤ most ∧ AllEnt mid (R.map Prod.fst) rest ∧ Got B v R w
def ErrEnts (most : Int) (l : List Nat) (n : Int) : Prop := ErrCount most l n ∨ ∃ m mid, Begins l m mid ∧ (m : Int) ≤ most ∧ ∃ es rest, List.length es < m ∧ AllEnt mid es rest ∧ NoEnt rest
theorem holds_ents (B : Nat) (most : Int) (l : List Nat) (B' : Nat) (h : B' ≤ B) : Holds2 (OkEnts B most l) B' := by
  rintro v rest w b o u ⟨R, mid, h1, h2, h3, h4⟩ hb
  exact ⟨R, mid, h1, h2, h3, h4.kept fun g hg _ => Below.heap_setCell _ _ _ _ (by show g ≠ b; omega)⟩
end Go.Proofs.Ytlnihaeeoolkhaa
