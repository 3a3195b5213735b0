/- Flowr Kmark Kknown, joined. -/
import Derived.Test.YtbafmfdlbicadaaMb3
import Derived.Test.YtbafmfdlbicadaaMb10
import Derived.Test.YtbafmfdlbicadaaMb4
import Derived.Lib.SlBytesConst
import Derived.Lib.SmallJoins

/- A region that draws its order, by facts: as XFlow, but over any relation of worlds that is a preorder (a later operation may change what an earlier one made). -/
namespace Go.Proofs.Ytbafmfdlbicadaa.Fr
open Go.RowKit

/-- What a later world keeps of an earlier one. -/
structure Rel where
  r : World → World → Prop
  refl : ∀ w, r w w
  trans : ∀ {a b c}, r a b → r b c → r a c
/-- A fact that later worlds keep. -/
def Mono (R : Rel) (p : Value → World → Prop) : Prop := ∀ v u u', p v u → R.r u u' → p v u'
theorem Mono.is {R : Rel} (c : Value) : Mono R (Is c) := fun _ _ _ h _ => h
theorem fact_mono {R : Rel} {φ : List (Value → World → Prop)} (h : ∀ p ∈ φ, Mono R p) (j : Nat) {v : Value} {u u' : World} (hf : fact φ j v u) (hu : R.r u u') : fact φ j v u' := by
  unfold fact at *
  by_cases hj : j < φ.length
  · have e : φ.getD j (fun _ _ => True) = φ[j] := by simp [List.getD, List.getElem?_eq_getElem hj]
    rw [e] at hf ⊢
    exact h _ (List.getElem_mem hj) _ _ _ hf hu
  · have e : φ.getD j (fun _ _ => True) = fun _ _ => True := by simp [List.getD, List.getElem?_eq_none (Nat.le_of_not_lt hj)]
    rw [e]; trivial

/-- Each operation gives its fact. -/
def Obls (R : Rel) (P : Program) (ops : Array Oper) (φ : List (Value → World → Prop)) (w0 : World) (f : Nat → Value) : Nat → List Oper → Act → Prop
  | _, [], _ => True
  | k, o :: rest, a => (∀ u, R.r w0 u → (∀ j, aft o j = true → fact φ j (f j) u) →
      if Region.wanted o (yielded ops a.tmps) = true then GivesR P ((execOp a.eval o).run P u) (fun v u' => R.r u u' ∧ fact φ k (kept o v) u') else fact φ k undef u) ∧ Obls R P ops φ w0 f (k + 1) rest (a.put o.dst (f k))
theorem Obls.at {R : Rel} {P : Program} {ops : Array Oper} {φ : List (Value → World → Prop)} {w0 : World} {f : Nat → Value} : ∀ (l : List Oper) (k : Nat) (a : Act), Obls R P ops φ w0 f k l a → ∀ (i : Nat) (o : Oper), l[i]? = some o →
    ∀ u, R.r w0 u → (∀ j, aft o j = true → fact φ j (f j) u) →
      if Region.wanted o (yielded ops (puts f k (l.take i) a).tmps) = true then GivesR P ((execOp (puts f k (l.take i) a).eval o).run P u) (fun v u' => R.r u u' ∧ fact φ (k + i) (kept o v) u') else fact φ (k + i) undef u := by
  intro l
  induction l with
  | nil => intro k a _ i o h; simp at h
  | cons o l ih =>
    intro k a h i oi hi
    cases i with
    | zero => simp at hi; subst hi; exact h.1
    | succ i =>
      have := ih (k + 1) _ h.2 i oi (by simpa using hi)
      simp only [List.take_succ_cons, puts]
      rw [show k + (i + 1) = k + 1 + i by omega]
      exact this

structure Inv (R : Rel) (ops : Array Oper) (φ : List (Value → World → Prop)) (a0 : Act) (w0 : World) (seen : Array Bool) (a : Act) (u : World) : Prop where
  ext : R.r w0 u
  size : seen.size = ops.size
  defs : a.defers = a0.defers
  tsz : a.tmps.size = a0.tmps.size
  old : ∀ s, (∀ (j : Nat) (oj : Oper), ops[j]? = some oj → seen.getD j false = true → oj.dst ≠ some s) → a.tmps[s]? = a0.tmps[s]?
  facts : ∀ (j : Nat) (oj : Oper), ops[j]? = some oj → seen.getD j false = true → fact φ j (slot a oj) u
  closed : ∀ (j : Nat) (oj : Oper), ops[j]? = some oj → seen.getD j false = true → ∀ k, aft oj k = true → seen.getD k false = true

section
variable {P : Program} {ops : Array Oper} {Q : Exit → Act → World → Prop} {φ : List (Value → World → Prop)} {a0 : Act} {w0 : World} {R : Rel}

theorem look_same {seen : Array Bool} {a : Act} {u : World} (hok : flowOk ops a0.tmps.size = true) (hI : Inv R ops φ a0 w0 seen a u) {i : Nat} {oi : Oper} (hi : ops[i]? = some oi) (hn : seen.getD i false = false)
    {t : Nat} (ht : t ∈ oi.looksAt ops) : a.tmps[t]? = (puts (held ops a) 0 (ops.toList.take i) a0).tmps[t]? := by
  by_cases hsz : t < a0.tmps.size
  · have hlen : i < ops.toList.length := by simpa using (Array.getElem?_eq_some_iff.1 hi).1
    have conv : ∀ (j : Nat) (o : Oper), (ops.toList.take i)[j]? = some o → j < i ∧ ops[j]? = some o := fun j o h => by
      rw [List.getElem?_take] at h
      split at h
      · rename_i hj; exact ⟨hj, by rw [← Array.getElem?_toList]; exact h⟩
      · cases h
    have huniq : ∀ (x y : Nat) (ox oy : Oper), (ops.toList.take i)[x]? = some ox → (ops.toList.take i)[y]? = some oy → ox.dst = some t → oy.dst = some t → x = y := fun x y ox oy hx hy h1 h2 => by
      rcases Nat.decEq x y with hne | he
      · exact absurd h1 (((flowOk_at hok (conv x ox hx).2).2.2.2 y oy t (conv y oy hy).2 h2).1 (fun e => hne e.symm))
      · exact he
    obtain ⟨h1, h2⟩ := puts_get (held ops a) (ops.toList.take i) 0 a0 t hsz huniq
    by_cases hex : ∃ (j : Nat) (oj : Oper), (ops.toList.take i)[j]? = some oj ∧ oj.dst = some t
    · obtain ⟨j, oj, hj, hd⟩ := hex
      rw [h2 j oj hj hd, Nat.zero_add]
      have hj' := (conv j oj hj).2
      have hlt := (conv j oj hj).1
      simp only [held, hj', slot, hd]
      have hts : t < a.tmps.size := by rw [hI.tsz]; exact hsz
      simp [Array.getD, hts]
    · have hex' : ∀ (j : Nat) (o : Oper), (ops.toList.take i)[j]? = some o → o.dst ≠ some t := fun j o hj hd => hex ⟨j, o, hj, hd⟩
      rw [h1 hex']
      refine hI.old t fun j oj hj hsj hd => ?_
      rcases ((flowOk_at hok hi).2.2.2 j oj t hj hd).2 ht with h | h
      · have hlt := aft_lt hok hi h
        refine hex' j oj ?_ hd
        rw [List.getElem?_take, if_pos hlt, Array.getElem?_toList]; exact hj
      · have := hI.closed j oj hj hsj i h
        rw [hn] at this; cases this
  · have e1 : a.tmps[t]? = none := Array.getElem?_eq_none (by rw [hI.tsz]; omega)
    have e2 : (puts (held ops a) 0 (ops.toList.take i) a0).tmps[t]? = none := Array.getElem?_eq_none (by rw [puts_size]; omega)
    rw [e1, e2]

theorem Inv.next {seen : Array Bool} {a : Act} {u u' : World} (hok : flowOk ops a0.tmps.size = true) (hmono : ∀ p ∈ φ, Mono R p) (hI : Inv R ops φ a0 w0 seen a u) {i : Nat} {oi : Oper} (hi : ops[i]? = some oi)
    (hs : ∀ k, aft oi k = true → seen.getD k false = true) {v : Value} (hu : R.r u u') (hf : fact φ i (kept oi v) u') : Inv R ops φ a0 w0 (seen.setIfInBounds i true) (a.put oi.dst v) u' := by
  refine ⟨R.trans hI.ext hu, by simp [hI.size], by rw [put_defers']; exact hI.defs, by rw [put_size]; exact hI.tsz, fun s h => ?_, fun j oj hj hsj => ?_, fun j oj hj hsj k hk => ?_⟩
  · have hlt : i < seen.size := by rw [hI.size]; exact (Array.getElem?_eq_some_iff.1 hi).1
    have hne : oi.dst ≠ some s := h i oi hi (by rw [set_getD, if_pos ⟨rfl, hlt⟩])
    rw [put_get, if_neg (fun h => hne h.1)]
    refine hI.old s fun j oj hj hsj => h j oj hj ?_
    rw [set_getD]
    split
    · rfl
    · exact hsj
  · rw [set_getD] at hsj
    by_cases hij : i = j
    · subst hij
      rw [hi] at hj
      injection hj with hj
      subst hj
      have e : slot (a.put oi.dst v) oi = kept oi v := by
        unfold slot kept
        cases hd : oi.dst with
        | none => rfl
        | some d =>
          have hds := (flowOk_at hok hi).2.2.1 d hd
          have hd2 : d < a.tmps.size := by rw [hI.tsz]; exact hds
          simp [Act.put, Array.getD, hd2]
      rw [e]; exact hf
    · rw [if_neg (fun h => hij h.1)] at hsj
      have e : slot (a.put oi.dst v) oj = slot a oj := by
        unfold slot
        cases hd : oj.dst with
        | none => rfl
        | some d =>
          have hne := ((flowOk_at hok hi).2.2.2 j oj d hj hd).1 (fun e => hij e.symm)
          have := put_get a oi.dst v d
          rw [if_neg (fun h => hne h.1)] at this
          show (a.put oi.dst v).tmps.getD d undef = a.tmps.getD d undef
          rw [Array.getD_eq_getD_getElem?, this, ← Array.getD_eq_getD_getElem?]
      rw [e]
      exact fact_mono hmono j (hI.facts j oj hj hsj) hu
  · rw [set_getD] at hsj ⊢
    split
    · rfl
    · rename_i hk2
      by_cases hij : i = j
      · subst hij
        rw [hi] at hj
        injection hj with hj
        subst hj
        exact hs k hk
      · rw [if_neg (fun h => hij h.1)] at hsj
        exact hI.closed j oj hj hsj k hk

theorem flow_step {seen : Array Bool} {a : Act} {u : World} {m : Nat} (hok : flowOk ops a0.tmps.size = true) (hsel : Region.noSelect ops = true) (hmono : ∀ p ∈ φ, Mono R p) (hobl : ∀ f, Obls R P ops φ w0 f 0 (ops.toList.take m) a0)
    (hI : Inv R ops φ a0 w0 seen a u) {i : Nat} (him : i < m) (hr : i ∈ Region.ready .any ops seen) : wpOp P ops Q i (fun b u' => Inv R ops φ a0 w0 (seen.setIfInBounds i true) b u') a u := by
  obtain ⟨hun, oi, hi, hall⟩ := mem_ready.1 hr
  have hlt : i < ops.size := (Array.getElem?_eq_some_iff.1 hi).1
  have hn : seen.getD i false = false := by rw [← getD_both seen (by rw [hI.size]; exact hlt)]; simpa using hun
  have hs : ∀ k, aft oi k = true → seen.getD k false = true := fun k hk => by
    unfold aft at hk
    obtain ⟨e, he, hb⟩ := Array.any_eq_true'.1 hk
    simp only [Bool.and_eq_true, beq_iff_eq] at hb
    rw [← hb.2]
    exact hall e he hb.1
  have hlook := fun {t : Nat} (ht : t ∈ oi.looksAt ops) => look_same hok hI hi hn ht
  have hfacts : ∀ j, aft oi j = true → fact φ j (held ops a j) u := fun j hj => by
    have hjl := aft_lt hok hi hj
    have hoj : ops[j]? = some ops[j] := Array.getElem?_eq_getElem (by omega)
    have := hI.facts j _ hoj (hs j hj)
    simp only [held, hoj]
    exact this
  have hO := Obls.at (ops.toList.take m) 0 a0 (hobl (held ops a)) i oi (by rw [List.getElem?_take, if_pos him, Array.getElem?_toList]; exact hi) u hI.ext hfacts
  rw [Nat.zero_add, List.take_take, Nat.min_eq_left (Nat.le_of_lt him)] at hO
  have hex : execOp (puts (held ops a) 0 (ops.toList.take i) a0).eval oi = execOp a.eval oi := by
    refine execOp_congr oi (fun cs b => Region.noSelect_spec hsel i oi cs b hi) fun x hx => ?_
    cases x with
    | tmp t =>
      have ht : t ∈ oi.looksAt ops := by
        unfold Oper.looksAt
        refine List.mem_append_left _ (List.mem_filterMap.2 ⟨.tmp t, by simpa using hx, rfl⟩)
      show Array.getD _ t undef = Array.getD _ t undef
      rw [Array.getD_eq_getD_getElem?, Array.getD_eq_getD_getElem?, hlook ht]
    | _ => rfl
  have hwt : Region.wanted oi (yielded ops (puts (held ops a) 0 (ops.toList.take i) a0).tmps) = Region.wanted oi (yielded ops a.tmps) := by
    unfold Region.wanted
    cases hg : oi.guard with
    | none => rfl
    | some gb =>
      obtain ⟨g, b⟩ := gb
      have e : yielded ops (puts (held ops a) 0 (ops.toList.take i) a0).tmps g = yielded ops a.tmps g := by
        unfold yielded
        cases hd : (ops[g]?).bind (·.dst) with
        | none => rfl
        | some d =>
          have ht : d ∈ oi.looksAt ops := by
            unfold Oper.looksAt
            rw [hg]
            refine List.mem_append_right _ ?_
            simp only [hd]
            simp
          show (match (puts (held ops a) 0 (ops.toList.take i) a0).tmps[d]? with | some (Value.bool b) => some b | _ => none) = _
          rw [← hlook ht]
          rfl
      simp only [e]
  rw [hex, hwt] at hO
  unfold wpOp
  simp only [hi]
  split
  · rename_i hw
    rw [if_pos hw] at hO
    exact .inl (gives_wp hO fun v u' h => hI.next hok hmono hi hs h.1 h.2)
  · rename_i hw
    rw [if_neg hw] at hO
    refine hI.next hok hmono hi hs (R.refl u) ?_
    have : kept oi undef = undef := by unfold kept; cases oi.dst <;> rfl
    rw [this]; exact hO

theorem all_seen {seen : Array Bool} {a : Act} {u : World} (hok : flowOk ops a0.tmps.size = true) (hI : Inv R ops φ a0 w0 seen a u) (hr : Region.ready .any ops seen = []) : ∀ i, i < ops.size → seen.getD i false = true := by
  intro i
  induction i using Nat.strongRecOn with
  | ind i ih =>
    intro hlt
    rcases h : seen.getD i false with _ | _
    · have hi : ops[i]? = some ops[i] := Array.getElem?_eq_getElem hlt
      have : i ∈ Region.ready .any ops seen := mem_ready.2 ⟨by rw [getD_both seen (by rw [hI.size]; exact hlt)]; exact h, ops[i], hi, fun e he hb => by
        have := (flowOk_at hok hi).1 e he hb
        exact ih e.on this (by omega)⟩
      rw [hr] at this; cases this
    · rfl

theorem act_is {seen : Array Bool} {a : Act} {u : World} (hok : flowOk ops a0.tmps.size = true) (hI : Inv R ops φ a0 w0 seen a u) : a = puts (held ops a) 0 ops.toList a0 := by
  have hd : a.defers = (puts (held ops a) 0 ops.toList a0).defers := by rw [puts_defers]; exact hI.defs
  have ht : a.tmps = (puts (held ops a) 0 ops.toList a0).tmps := by
    apply Array.ext_getElem?
    intro t
    by_cases hsz : t < a0.tmps.size
    · have conv : ∀ (j : Nat) (o : Oper), ops.toList[j]? = some o → ops[j]? = some o := fun j o h => by rw [← Array.getElem?_toList]; exact h
      have huniq : ∀ (x y : Nat) (ox oy : Oper), ops.toList[x]? = some ox → ops.toList[y]? = some oy → ox.dst = some t → oy.dst = some t → x = y := fun x y ox oy hx hy h1 h2 => by
        rcases Nat.decEq x y with hne | he
        · exact absurd h1 (((flowOk_at hok (conv x ox hx)).2.2.2 y oy t (conv y oy hy) h2).1 (fun e => hne e.symm))
        · exact he
      obtain ⟨h1, h2⟩ := puts_get (held ops a) ops.toList 0 a0 t hsz huniq
      by_cases hex : ∃ (j : Nat) (oj : Oper), ops.toList[j]? = some oj ∧ oj.dst = some t
      · obtain ⟨j, oj, hj, hd⟩ := hex
        rw [h2 j oj hj hd, Nat.zero_add]
        simp only [held, conv j oj hj, slot, hd]
        have hts : t < a.tmps.size := by rw [hI.tsz]; exact hsz
        simp [Array.getD, hts]
      · have hex' : ∀ (j : Nat) (o : Oper), ops.toList[j]? = some o → o.dst ≠ some t := fun j o hj hd => hex ⟨j, o, hj, hd⟩
        rw [h1 hex']
        exact hI.old t fun j oj hj _ => hex' j oj (by rw [Array.getElem?_toList]; exact hj)
    · rw [Array.getElem?_eq_none (by rw [hI.tsz]; omega), Array.getElem?_eq_none (by rw [puts_size]; omega)]
  have ext : ∀ x y : Act, x.tmps = y.tmps → x.defers = y.defers → x = y := by rintro ⟨_, _⟩ ⟨_, _⟩ rfl rfl; rfl
  exact ext _ _ ht hd

theorem flow_any (hok : flowOk ops a0.tmps.size = true) (hsel : Region.noSelect ops = true) (hmono : ∀ p ∈ φ, Mono R p) (hobl : ∀ f, Obls R P ops φ w0 f 0 ops.toList a0)
    (hfin : ∀ (g : Nat → Value) u, R.r w0 u → (∀ j, j < ops.size → fact φ j (g j) u) → Q .normal (puts g 0 ops.toList a0) u) :
    ∀ (n : Nat) (seen : Array Bool) (a : Act) (u : World), Inv R ops φ a0 w0 seen a u → left ops seen = n → wpAny P .any ops Q n seen a u := by
  have done : ∀ (seen : Array Bool) (a : Act) (u : World), Inv R ops φ a0 w0 seen a u → (∀ i, i < ops.size → seen.getD i false = true) → Q .normal a u := fun seen a u hI hall => by
    rw [act_is hok hI]
    refine hfin _ _ hI.ext fun j hj => ?_
    have hoj : ops[j]? = some ops[j] := Array.getElem?_eq_getElem hj
    simp only [held, hoj]
    exact hI.facts j _ hoj (hall j hj)
  intro n
  induction n with
  | zero =>
    intro seen a u hI hl
    have hall : ∀ i, i < ops.size → seen.getD i false = true := fun i hi => by
      have := List.countP_eq_zero.1 hl i (List.mem_range.2 hi)
      simpa using this
    refine ⟨?_, done seen a u hI hall⟩
    refine List.eq_nil_iff_forall_not_mem.2 fun i hi => ?_
    obtain ⟨hun, oi, hio, _⟩ := mem_ready.1 hi
    have hlt := (Array.getElem?_eq_some_iff.1 hio).1
    rw [getD_both seen (by rw [hI.size]; exact hlt), hall i hlt] at hun
    cases hun
  | succ n ih =>
    intro seen a u hI hl
    refine ⟨fun hr => done seen a u hI (all_seen hok hI hr), fun i hi => ?_⟩
    refine wpOp_mono (fun b u' hb => ih _ b u' hb ?_) (flow_step (m := ops.size) hok hsel hmono (fun f => by rw [List.take_of_length_le (by simp)]; exact hobl f) hI (Array.getElem?_eq_some_iff.1 (mem_ready.1 hi).2.choose_spec.1).1 hi)
    obtain ⟨hun, oi, hio, _⟩ := mem_ready.1 hi
    have hlt := (Array.getElem?_eq_some_iff.1 hio).1
    rw [getD_both seen (by rw [hI.size]; exact hlt)] at hun
    have := left_next hI.size hlt hun
    omega

/-- A region that draws its order, by facts. -/
theorem flow {id : Nat} {w : World} (hm : P.follows .mixedOrders = true) (φ : List (Value → World → Prop)) (hok : flowOk ops a0.tmps.size = true) (hsel : Region.noSelect ops = true) (hmono : ∀ p ∈ φ, Mono R p)
    (hobl : ∀ f, Obls R P ops φ w.drew f 0 ops.toList a0)
    (hfin : ∀ (g : Nat → Value) u, R.r w.drew u → (∀ j, j < ops.size → fact φ j (g j) u) → Q .normal (puts g 0 ops.toList a0) u) : (Code.region id ops true).wp P Q a0 w := by
  refine wp_region_any hm (flow_any hok hsel hmono hobl hfin _ _ _ _ ⟨R.refl _, by simp, rfl, rfl, fun _ _ => rfl, fun j oj hj hs => ?_, fun j oj hj hs => ?_⟩ ?_)
  · have hlt := (Array.getElem?_eq_some_iff.1 hj).1
    simp [Array.getD, hlt] at hs
  · have hlt := (Array.getElem?_eq_some_iff.1 hj).1
    simp [Array.getD, hlt] at hs
  · unfold left
    rw [List.countP_eq_length.2]
    · simp
    · intro i hi
      have hlt := List.mem_range.1 hi
      simp [Array.getD, hlt]

end
end Go.Proofs.Ytbafmfdlbicadaa.Fr

/- Marks of bytes that are written as constants; the law's entries. -/
namespace Go.Proofs.Ytbafmfdlbicadaa
open Go.ChangeShapes Go.WideShapes Go.ChangeAt Go.RowKit Go.Lib Go.Joins

theorem freeze_chg (w : World) (g k : Nat) : Chg (fun i => i = g) w (w.freeze ⟨g, k, none⟩ 1) := by
  unfold World.freeze
  rw [if_neg (by decide)]
  exact ⟨rfl, rfl, rfl, by simp, fun i _ hne => by simp [Array.getElem?_modify, Ne.symm hne]⟩
theorem freeze_at {w : World} {g k : Nat} {C : Array Value} {t : TypeId} {fz : Nat × Nat} (h : w.heap[g]? = some (.cells C t fz)) : ∃ fz', (w.freeze ⟨g, k, none⟩ 1).heap[g]? = some (.cells C t fz') := by
  unfold World.freeze
  rw [if_neg (by decide)]
  exact ⟨_, by simp [Array.getElem?_modify, h]; rfl⟩
/-- Bytes that are written as a constant, wherever their block lies. -/
theorem conv_const {w : World} {g n c : Nat} {C : Array Value} {fz : Nat × Nat} (h : w.heap[g]? = some (.cells C 5 fz)) :
    (convert 22 22 (.slice (some ⟨g, 0, none⟩) n c)).run Try.prog w = .ok (.slice (some ⟨g, 0, none⟩) n c) (w.freeze ⟨g, C.size, none⟩ 1) := by
  have hsh : w.shape? g = some (5, C.size) := by unfold World.shape?; rw [h]
  simp [convert, run_underlying Try.underlying22, run_underlying Try.underlying5, markStringish, hsh]

/-- Nothing but marks of bytes from block B on is other. -/
def MarkR (B : Nat) : Fr.Rel where
  r u u' := u'.os = u.os ∧ u'.tape = u.tape ∧ u'.output = u.output ∧ u.heap.size ≤ u'.heap.size ∧ ∀ k, k < u.heap.size → u'.heap[k]? = u.heap[k]? ∨ (B ≤ k ∧ ∃ c fz fz', u.heap[k]? = some (.cells c 5 fz) ∧ u'.heap[k]? = some (.cells c 5 fz'))
  refl w := ⟨rfl, rfl, rfl, Nat.le_refl _, fun _ _ => .inl rfl⟩
  trans := by
    rintro a b c ⟨h1, h2, h3, h4, h5⟩ ⟨k1, k2, k3, k4, k5⟩
    refine ⟨k1.trans h1, k2.trans h2, k3.trans h3, Nat.le_trans h4 k4, fun k hk => ?_⟩
    rcases h5 k hk with h | ⟨hB, x, f, f', hx, hx'⟩
    · rcases k5 k (Nat.lt_of_lt_of_le hk h4) with h' | ⟨hB, x, f, f', hx, hx'⟩
      · exact .inl (h'.trans h)
      · exact .inr ⟨hB, x, f, f', h ▸ hx, hx'⟩
    · rcases k5 k (Nat.lt_of_lt_of_le hk h4) with h' | ⟨_, y, e, e', hy, hy'⟩
      · exact .inr ⟨hB, x, f, f', hx, h'.trans hx'⟩
      · rw [hx'] at hy
        injection hy with hy
        injection hy with q1 _ _
        subst q1
        exact .inr ⟨hB, x, f, e', hx, hy'⟩
section
variable {B : Nat} {u u' : World}
theorem mark_ext (h : Ext u u') : (MarkR B).r u u' := ⟨h.os, h.tape, h.output, h.size, fun k hk => .inl (h.block k hk)⟩
theorem mark_freeze {g k : Nat} {C : Array Value} {fz : Nat × Nat} (hg : u.heap[g]? = some (.cells C 5 fz)) (hB : B ≤ g) : (MarkR B).r u (u.freeze ⟨g, k, none⟩ 1) := by
  have hc := freeze_chg u g k
  refine ⟨hc.os, hc.tape, hc.output, hc.size, fun i hi => ?_⟩
  by_cases h : i = g
  · subst h
    obtain ⟨fz', h'⟩ := freeze_at (k := k) hg
    exact .inr ⟨hB, C, fz, fz', hg, h'⟩
  · exact .inl (hc.block i hi h)
theorem mark_heap {o : Obj} {k : Nat} (h : (MarkR B).r u u') (hk : u.heap[k]? = some o) (hn : k < B ∨ ∀ c fz, o ≠ .cells c 5 fz) : u'.heap[k]? = some o := by
  rcases h.2.2.2.2 k (Array.getElem?_eq_some_iff.1 hk).1 with h' | ⟨hB, x, f, f', hx, hx'⟩
  · exact h'.trans hk
  · rcases hn with hn | hn
    · omega
    · rw [hk] at hx; injection hx with hx; exact absurd hx (hn _ _)
theorem mark_cell {p : Addr} {v : Value} (h : (MarkR B).r u u') (hc : u.cell? p = some v) : u'.cell? p = some v := by
  rcases h.2.2.2.2 p.block (World.block_lt_of_cell? _ _ hc) with h' | ⟨hB, x, f, f', hx, hx'⟩
  · exact (World.cell?_of_block h').trans hc
  · unfold World.cell? at hc ⊢
    rw [hx] at hc
    rw [hx']
    exact hc
theorem mark_chg (h : (MarkR B).r u u') : Chg (fun i => B ≤ i) u u' := ⟨h.1, h.2.1, h.2.2.1, h.2.2.2.1, fun k hk hn => by
  rcases h.2.2.2.2 k hk with h' | ⟨hB, _⟩
  · exact h'
  · exact absurd hB hn⟩
theorem mark_bs {lo hi : Nat} {v : Value} {l : List Nat} (h : (MarkR B).r u u') (hb : Bs u lo hi v l) : Bs u' lo hi v l := by
  obtain ⟨A, c, e, h1, h2, h3, h4⟩ := hb
  refine ⟨A, c, e, h1, h2, h3, ?_⟩
  rcases h4 with h4 | ⟨b, o, e, h5, h6, h7⟩
  · exact .inl h4
  · exact .inr ⟨b, o, e, h5, h6, fun i x hx => mark_cell h (h7 i x hx)⟩
theorem mark_em {lo hi : Nat} {e : Ent} {g : Hd} (h : (MarkR B).r u u') (m : Em u lo hi e g) : Em u' lo hi e g := ⟨mark_bs h m.k, mark_bs h m.v, m.bk, m.bv, m.s1, m.s2, m.d1, m.d2⟩
end

theorem bs_mark (w : World) (l : List Nat) (hl : l.length ≤ 100) (fr : Nat × Nat) : Bs (w.alloc (.cells (bv l).toArray 5 fr)) w.heap.size (w.heap.size + 1) (.slice (some ⟨w.heap.size, 0, none⟩) l.length l.length) l := by
  refine ⟨_, _, rfl, Nat.le_refl _, by simp [maxLen]; omega, (fun h => by cases h), .inr ⟨w.heap.size, 0, rfl, Nat.le_refl _, Nat.lt_succ_self _, fun i u hu => ?_⟩⟩
  rw [cell_alloc_mark_at _ _ _ _ _ _ rfl, Nat.zero_add]
  simpa using hu
theorem bl_bs {u : World} {b : Nat} {l : List Nat} {fz : Nat × Nat} (hl : l.length ≤ 100) (h : u.heap[b]? = some (.cells (bv l).toArray 5 fz)) : Bs u 0 u.heap.size (.slice (some ⟨b, 0, none⟩) l.length l.length) l := by
  refine ⟨_, _, rfl, Nat.le_refl _, by simp [maxLen]; omega, (fun h => by cases h), .inr ⟨b, 0, rfl, Nat.zero_le _, (Array.getElem?_eq_some_iff.1 h).1, fun i x hx => ?_⟩⟩
  rw [Nat.zero_add]
  unfold World.cell?
  rw [h]
  simpa using hx
theorem one_es {u : World} {b : Nat} {e : Ent} {g : Hd} (h : u.heap[b]? = some (.cells (ecells (e, g)).toArray 46 (0, 0))) (hm : Em u 0 u.heap.size e g) : Es u 0 u.heap.size (some ⟨b, 0, none⟩) [(e, g)] := by
  refine ⟨.inr ⟨b, 0, rfl, Nat.zero_le _, (Array.getElem?_eq_some_iff.1 h).1, fun i x hx => ?_⟩, fun p hp => by rw [List.mem_singleton] at hp; subst hp; exact hm⟩
  rw [Nat.zero_add]
  exact cell_of h (by simpa [erow] using hx)

/-- Facts of known's last region. -/
def LitF (e : Ent) (v : Value) (u : World) : Prop := ∃ g : Hd, v = e.at_ g ∧ Em u 0 u.heap.size e g
def BlF (B : Nat) (l : List Nat) (v : Value) (u : World) : Prop := ∃ (b : Nat) (fz : Nat × Nat), v = .slice (some ⟨b, 0, none⟩) l.length l.length ∧ B ≤ b ∧ u.heap[b]? = some (.cells (bv l).toArray 5 fz)
def OneF (e : Ent) (v : Value) (u : World) : Prop := ∃ (g : Hd) (b : Nat), v = .slice (some ⟨b, 0, none⟩) 1 1 ∧ u.heap[b]? = some (.cells (ecells (e, g)).toArray 46 (0, 0)) ∧ Em u 0 u.heap.size e g
theorem Fr.Mono.lit (B : Nat) (e : Ent) : Fr.Mono (MarkR B) (LitF e) := fun _ _ _ ⟨g, h, m⟩ hu => ⟨g, h, (mark_em hu m).wide (Nat.le_refl _) hu.2.2.2.1⟩
theorem Fr.Mono.bl (C B : Nat) (l : List Nat) : Fr.Mono (MarkR C) (BlF B l) := fun _ u u' ⟨b, fz, h, hB, hb⟩ hu => by
  rcases hu.2.2.2.2 b (Array.getElem?_eq_some_iff.1 hb).1 with h' | ⟨_, x, f, f', hx, hx'⟩
  · exact ⟨b, fz, h, hB, h'.trans hb⟩
  · rw [hb] at hx
    injection hx with hx
    injection hx with q1 _ _
    subst q1
    exact ⟨b, f', h, hB, hx'⟩
theorem Fr.Mono.one (B : Nat) (e : Ent) : Fr.Mono (MarkR B) (OneF e) := fun _ _ _ ⟨g, b, h, hb, m⟩ hu => ⟨g, b, h, mark_heap hu hb (.inr fun _ _ e => by injection e with _ e _; exact absurd e (by decide)), (mark_em hu m).wide (Nat.le_refl _) hu.2.2.2.1⟩


theorem mark_es {B lo hi : Nat} {u u' : World} {A : Option Addr} {L : List (Ent × Hd)} (h : (MarkR B).r u u') (hE : Es u lo hi A L) : Es u' lo hi A L := by
  refine ⟨?_, fun p hp => mark_em h (hE.each p hp)⟩
  rcases hE.outer with h0 | ⟨b, o, e, h1, h2, h3⟩
  · exact .inl h0
  · exact .inr ⟨b, o, e, h1, h2, fun i x hx => mark_cell h (h3 i x hx)⟩
/-- What From answers, under marks. -/
def FromF (L : List Ent) (v : Value) (u : World) : Prop := ∃ (bd : Nat) (X : Option Addr) (c : Nat) (S : List (Ent × Hd)), v = .func (.func 48) #[] #[.pointer (some ⟨bd, 0, none⟩)] ∧ Boxed u bd 26 (.slice X S.length c) ∧ Es u 0 u.heap.size X S ∧ S.length ≤ 1024 ∧ (∀ p ∈ S, InE p.1) ∧ S.map Prod.fst = L
theorem Fr.Mono.from_ (B : Nat) (L : List Ent) : Fr.Mono (MarkR B) (FromF L) := fun _ _ _ ⟨bd, X, c, S, h, hb, hE, hl, hin, he⟩ hu =>
  ⟨bd, X, c, S, h, mark_heap hu hb (.inr fun _ _ e => by injection e with _ e _; exact absurd e (by decide)), (mark_es hu hE).wide (Nat.le_refl _) hu.2.2.2.1, hl, hin, he⟩
theorem knum (n : Int) (w : World) : Calls Try.prog 18 #[.int .i64 n] w fun e w' => e = .returned (.int .i64 n) ∧ w = w' := by
  go_enter Try.func18, Try.ntmps18
  go_wp2
  go_ret
  exact ⟨rfl, rfl⟩
set_option maxHeartbeats 2000000 in
theorem kdel_any (k : List Nat) (s : Int) (hk : ∀ x ∈ k, x < 256) (hkl : k.length ≤ 1000) (h1 : -9223372036854775808 ≤ s) (h2 : s ≤ 9223372036854775807) (w : World) :
    Calls Try.prog 30 #[.string (tx k), .int .i64 s] w (LitAns w ⟨k, s, 2, []⟩) := by
  obtain ⟨w1, hw1⟩ : ∃ w1, w1 = w.alloc (.cells #[.slice none 0 0, .int .i64 0, .int .i64 0, .slice none 0 0] 46) := ⟨_, rfl⟩
  have HX : Hid (Ext w w1) := by rw [hw1]; exact ext_alloc _ _
  have HBX : Hid (w1.heap[w.heap.size]? = some (.cells #[.slice none 0 0, .int .i64 0, .int .i64 0, .slice none 0 0] 46 (0, 0))) := by rw [hw1]; exact heap_at _ _ rfl
  have HZ : Hid (w1.heap.size = w.heap.size + 1) := by rw [hw1]; simp [Hid]
  obtain ⟨A2, c2, w2, e2, x2, b2⟩ := conv_new w1 k hk hkl
  have hb := ext_heap x2 HBX.out
  have q0 := cell_of hb (k := 0) rfl
  have q1 := cell_of hb (k := 1) rfl
  have q2 := cell_of hb (k := 2) rfl
  have q3 := cell_of hb (k := 3) rfl
  have z0 := frozen_four hb (j := 0)
  have z1 := frozen_four hb (j := 1)
  have z2 := frozen_four hb (j := 2)
  have z3 := frozen_four hb (j := 3)
  have HB := Lib.hid hb
  have HK := Lib.hid b2
  have HX3 : Hid (Ext w w2) := Ext.trans HX.out x2
  have HBY := Lib.hid hk
  have HS := Lib.hid (And.intro h1 h2)
  clear x2 b2 hb hk hkl h1 h2
  go_enter Try.func30, Try.ntmps30
  rw [hw1] at e2
  go_wp2_with fail
  refine entry_ret1 (p := 4) (by kernel_rfl) rfl rfl (set_four HB.out) ?_
  have far : ∀ {l : List Nat} {v : Value} {u : World} {p : Addr} {x : Value}, p.block < w1.heap.size → Bs u w1.heap.size w2.heap.size v l → Bs (u.setCell p x) w1.heap.size w2.heap.size v l := fun hp h => h.setCell (.inl hp) _
  have hlt : w.heap.size < w1.heap.size := by rw [HZ.out]; omega
  refine ⟨Below.setCell (Below.setCell (Below.setCell (Below.setCell HX3.out (Nat.le_refl _) _) (Nat.le_refl _) _) (Nat.le_refl _) _) (Nat.le_refl _) _, ⟨A2, c2, none, 0⟩, rfl, ⟨?_, Bs.nil _ _ _, HBY.out, by simp, HS.out.1, HS.out.2, (by show (-9223372036854775808 : Int) ≤ _; dsimp only; omega), (by dsimp only; omega)⟩⟩
  exact (far hlt (far hlt (far hlt (far hlt HK.out)))).wide HX.out.size (by simp [World.setCell])
theorem lit_any {e : Ent} {k : List Nat} {kb : ByteArray} {s : Int} (he : e = ⟨k, s, 2, []⟩) (hkb : kb = tx k) (hk : ∀ x ∈ k, x < 256) (hkl : k.length ≤ 1000) (h1 : 0 ≤ s) (h2 : s ≤ 9000) (w : World) :
    Calls Try.prog 30 #[.string kb, .int .i64 s] w (LitAns w e) := by
  subst he hkb
  exact kdel_any k s hk hkl (by omega) (by omega) w
theorem two_es {u : World} {b : Nat} {e e' : Ent} {g g' : Hd} (h : u.heap[b]? = some (.cells (ecells (e, g) ++ ecells (e', g')).toArray 46 (0, 0))) (hm : Em u 0 u.heap.size e g) (hm' : Em u 0 u.heap.size e' g') : Es u 0 u.heap.size (some ⟨b, 0, none⟩) [(e, g), (e', g')] := by
  refine ⟨.inr ⟨b, 0, rfl, Nat.zero_le _, (Array.getElem?_eq_some_iff.1 h).1, fun i x hx => ?_⟩, fun p hp => ?_⟩
  · rw [Nat.zero_add]
    exact cell_of h (by simpa [erow] using hx)
  · simp only [List.mem_cons, List.not_mem_nil, or_false] at hp
    rcases hp with rfl | rfl
    · exact hm
    · exact hm'

def kAB : Ent := ⟨[97, 98], 5, 2, []⟩
def kAC : Ent := ⟨[97, 99], 3, 2, []⟩
def kOB : Ent := ⟨[98], 1, 2, []⟩
def kOA : Ent := ⟨[97], 1, 2, []⟩
def kBy : List Nat := [0, 2, 97, 98, 5, 2, 1, 1, 99, 3, 2, 0, 0, 0, 0, 0, 0, 0, 1]
theorem kmay : MayB [kAB, kAC] := by
  refine ⟨by decide, by decide, fun j a b ha hb => ?_, by decide⟩
  rcases j with _ | _ | j
  · simp at ha hb; subst ha hb; decide
  · simp at hb
  · simp at hb
theorem kno : ¬ MayB [kOB, kOA] := fun h => by
  have := h.2.2.1 0 kOB kOA rfl rfl
  exact absurd this (by decide)
theorem kwr : wr [kAB, kAC] = kBy := by
  simp [wr, upto, pieceOf, kform, ahOf, ats, be4, kAB, kAC, kBy, shr, bytesForm, form_lo, List.range, List.range.loop, List.flatMap_cons, List.filter]
theorem kis : IsB kBy [kAB, kAC] := ⟨kmay, kwr⟩
theorem kwrite1 {w : World} {A : Option Addr} {g g' : Hd} (h : Es w 0 w.heap.size A [(kAB, g), (kAC, g')]) : Calls Try.prog 15 #[.slice A 2 2] w fun x w' => Ext w w' ∧ ∃ B c, x = .returned (.tuple #[.slice B 19 c, .int .i64 0]) ∧ Own w.heap.size kBy (.slice B 19 c) w' := by
  refine (write_any (c := 2) h (Nat.le_refl _) (Nat.le_refl _) (by simp)).mono ?_
  rintro x w' ⟨hx, (⟨_, B, c, rfl, ho⟩ | ⟨hno, _⟩)⟩
  · have e : (wr (List.map Prod.fst [(kAB, g), (kAC, g')])) = kBy := kwr
    rw [e] at ho ⊢
    exact ⟨hx, B, c, rfl, ho⟩
  · exact absurd kmay hno
theorem kwrite2 {w : World} {A : Option Addr} {g g' : Hd} (h : Es w 0 w.heap.size A [(kOB, g), (kOA, g')]) : Calls Try.prog 15 #[.slice A 2 2] w fun x w' => Ext w w' ∧ x = .returned (.tuple #[.slice none 0 0, .int .i64 2]) := by
  refine (write_any (c := 2) h (Nat.le_refl _) (Nat.le_refl _) (by simp)).mono ?_
  rintro x w' ⟨hx, (⟨hm, _⟩ | ⟨_, rfl⟩)⟩
  · exact absurd hm kno
  · exact ⟨hx, rfl⟩
theorem kwrite0 (w : World) : Calls Try.prog 15 #[.slice none 0 0] w fun x w' => Ext w w' ∧ x = .returned (.tuple #[.slice none 0 0, .int .i64 2]) := by
  refine (write_any (L := []) (lo := 0) (hi := 0) (c := 0) ⟨Sl.nil _ _ _ _, fun p hp => by cases hp⟩ (Nat.zero_le _) (Nat.le_refl _) (by simp)).mono ?_
  rintro x w' ⟨hx, (⟨hm, _⟩ | ⟨_, rfl⟩)⟩
  · exact absurd hm.1 (by simp)
  · exact ⟨hx, rfl⟩
theorem kread_no {w : World} {lo hi : Nat} {v : Value} {b : List Nat} (hv : Bs w lo hi v b) (hhi : hi ≤ w.heap.size) (hb : ∀ x ∈ b, x < 256) (hl : b.length ≤ 1000000000) (hno : ∀ L, ¬ IsB b L) : Calls Try.prog 21 #[v] w fun x w' => Ext w w' ∧ x = .returned (.tuple #[.slice none 0 0, .int .i64 4]) := by
  refine (bread_any hv hhi hb hl).mono ?_
  rintro x w' ⟨hx, (⟨R, _, _, his, _⟩ | ⟨_, rfl⟩)⟩
  · exact absurd his (hno _)
  · exact ⟨hx, rfl⟩
theorem kno0 (L : List Ent) : ¬ IsB [] L := fun h => by have := h.last.1; simp at this
theorem kno4 (L : List Ent) : ¬ IsB [0, 0, 0, 0] L := fun h => by
  obtain ⟨_, _, h3, _⟩ := h.last
  have h1 := h.1.1
  have e : num4 (List.drop (([0, 0, 0, 0] : List Nat).length - 4) [0, 0, 0, 0]) = 0 := rfl
  rw [e] at h3
  omega
theorem kget1 {w w' : World} {x : Ending} (h : BGetAns w kBy [97, 99] 9 x w') : Ext w w' ∧ ∃ g : Hd, x = .returned (.tuple #[kAC.at_ g, .int .i64 0]) ∧ Em w' 0 w'.heap.size kAC g := by
  obtain ⟨hx, (⟨hno, _⟩ | ⟨L, hL, hm⟩)⟩ := h
  · exact absurd kis (hno _)
  · obtain rfl := hL.unique kis
    have e : [kAB, kAC].find? (seenE [97, 99] 9) = some kAC := rfl
    rw [e] at hm
    exact ⟨hx, hm⟩
theorem kget2 {w w' : World} {x : Ending} (h : BGetAns w kBy [97, 99] 2 x w') : Ext w w' ∧ x = .returned (.tuple #[noE, .int .i64 6]) := by
  obtain ⟨hx, (⟨hno, _⟩ | ⟨L, hL, hm⟩)⟩ := h
  · exact absurd kis (hno _)
  · obtain rfl := hL.unique kis
    have e : [kAB, kAC].find? (seenE [97, 99] 2) = none := rfl
    rw [e] at hm
    exact ⟨hx, hm⟩
theorem kfrom {w w' : World} {x : Ending} (h : FromAns w kBy [97, 98, 0] x w') : ∃ v, x = .returned v ∧ Ext w w' ∧ FromF [kAC] v w' := by
  obtain ⟨hx, bd, X, c, S, rfl, hb, hE, hl, hin, (⟨L, hL, hs⟩ | ⟨hno, _⟩)⟩ := h
  · obtain rfl := hL.unique kis
    exact ⟨_, rfl, hx, bd, X, c, S, rfl, hb, hE, hl, hin, hs.trans rfl⟩
  · exact absurd kis (hno _)
end Go.Proofs.Ytbafmfdlbicadaa

/- The chapter's rows, which every law of layer 8 asks. -/
namespace Go.Proofs.Ytbafmfdlbicadaa
open Go.ChangeShapes Go.WideShapes Go.ChangeAt Go.RowKit Go.Lib Go.Joins

theorem make_bytes (w : World) (n : Nat) (hn : n ≤ 1099511627776) : ∃ w', (Instr.makeSlice 22 (.int .i64 (n : Int)) (.int .i64 (n : Int))).run Try.prog w = .ok (.slice (some ⟨w.heap.size, 0, none⟩) n n) w' ∧ Bs w' 0 w'.heap.size (.slice (some ⟨w.heap.size, 0, none⟩) n n) (List.replicate n 0) ∧ Ext w w' := by
  obtain ⟨i0, hi0, hz0, hz1, hz2⟩ := info_parts t5info
  obtain ⟨w', h1, h2, h3⟩ := run_make_full (P := Try.prog) w w.heap.size 22 5 i0 (.int .u8 0) 1 Try.underlying22 hi0 hz0 hz1 .i64 .i64 n (by rw [hz2]; omega) (by unfold maxLen; omega) (Nat.le_refl _)
  have e : (madeCells (Value.int .u8 0).cells (n * 1)).toList = bv (List.replicate n 0) := by
    rw [show (Value.int .u8 0).cells = #[.int .u8 0] from rfl, Nat.mul_one, toList_madeCells_one]
    simp [bv]
  rw [e] at h2
  have hl : (List.replicate n 0).length = n := List.length_replicate
  have hb : Bs w' 0 w'.heap.size (.slice (some ⟨w.heap.size, 0, none⟩) n n) (List.replicate n 0) := by
    have h4 : w'.ownsRow w.heap.size 5 1 (.slice (some ⟨w.heap.size, 0, none⟩) n n) (List.replicate n 0).length (bv (List.replicate n 0)) := by rw [hl]; exact h2
    exact (Bs.of_own h4).wide (Nat.zero_le _) (Nat.le_refl _)
  exact ⟨w', h1, hb, ⟨h3.os, h3.tape, h3.output, h3.size, fun k hk => h3.block k hk (by simp)⟩⟩
theorem ktx : ((tx kBy).toList == ([0, 2, 97, 98, 5, 2, 1, 1, 99, 3, 2, 0, 0, 0, 0, 0, 0, 0, 1] : List UInt8)) = true := by decide +kernel
set_option maxRecDepth 100000 in
set_option maxHeartbeats 8000000 in
theorem known_any (w : World) : Calls Try.prog 10 #[] w fun e w' => e = .returned (.bool true) ∧ Below w.heap.size w w' := by
  go_enter Try.func10, Try.ntmps10
  go_wp2_with fail
  refine Calls.mono (lit_any (e := kAB) (k := [97, 98]) rfl rfl (by decide) (by decide) (by decide) (by decide) w) ?_
  rintro e w1 ⟨hx1, g1, rfl, hm1⟩
  have HX1 := Lib.hid hx1
  have HM1 := Lib.hid hm1
  clear hx1 hm1
  go_wp2_with fail
  refine Calls.mono (lit_any (e := kAC) (k := [97, 99]) rfl rfl (by decide) (by decide) (by decide) (by decide) w1) ?_
  rintro e w2 ⟨hx2, g2, rfl, hm2⟩
  have HX2 : Hid (Ext w w2) := Ext.trans HX1.out hx2
  obtain ⟨w3, hw3⟩ : ∃ w3, w3 = w2.alloc (.cells #[.slice g1.kA kAB.key.length g1.kc, .int .i64 kAB.seq, .int .i64 kAB.kind, .slice g1.vA kAB.val.length g1.vc, .slice g2.kA kAC.key.length g2.kc, .int .i64 kAC.seq, .int .i64 kAC.kind, .slice g2.vA kAC.val.length g2.vc] 46) := ⟨_, rfl⟩
  have HX3 : Hid (Ext w w3) := by rw [hw3]; exact Ext.trans HX2.out (ext_alloc _ _)
  have HWR : Hid (Es w3 0 w3.heap.size (some ⟨w2.heap.size, 0, none⟩) [(kAB, g1), (kAC, g2)]) := by
    have hxa : Ext w2 w3 := by rw [hw3]; exact ext_alloc _ _
    refine two_es (by rw [hw3]; exact heap_at _ _ rfl) ?_ ?_
    · exact ((HM1.out.below (Ext.trans hx2 hxa) (Nat.le_refl _)).wide (Nat.zero_le _) (Ext.trans hx2 hxa).size)
    · exact ((hm2.below hxa (Nat.le_refl _)).wide (Nat.zero_le _) hxa.size)
  have HWC := Lib.hid (kwrite1 HWR.out)
  rw [hw3] at HWC
  clear hx2 hm2 HM1 HWR
  unfold Ent.at_
  go_wp2_with fail
  refine HWC.out.mono ?_
  rw [← hw3]
  clear HWC hw3
  rintro x w4 ⟨hx4, BA, bc, rfl, hown⟩
  have HX4 : Hid (Ext w w4) := Ext.trans HX3.out hx4
  have HBO : Hid (Own w.heap.size kBy (.slice BA 19 bc) w4) := hown.base HX3.out.size
  clear hx4 hown HX1 HX2 HX3
  go_wp2_with fail
  refine (kwrite0 w4).mono ?_
  rintro x w5 ⟨hx5, rfl⟩
  have HX5 : Hid (Ext w w5) := Ext.trans HX4.out hx5
  have HXO5 : Hid (Ext w4 w5) := hx5
  clear hx5
  go_wp2_with fail
  refine Calls.mono (lit_any (e := kOB) (k := [98]) rfl rfl (by decide) (by decide) (by decide) (by decide) w5) ?_
  rintro e w6 ⟨hx1, g6, rfl, hm1⟩
  have HX6 := Lib.hid hx1
  have HM6 := Lib.hid hm1
  clear hx1 hm1
  go_wp2_with fail
  refine Calls.mono (lit_any (e := kOA) (k := [97]) rfl rfl (by decide) (by decide) (by decide) (by decide) w6) ?_
  rintro e w7 ⟨hx2, g7, rfl, hm2⟩
  have HX7 : Hid (Ext w5 w7) := Ext.trans HX6.out hx2
  obtain ⟨w8, hw8⟩ : ∃ w3, w3 = w7.alloc (.cells #[.slice g6.kA kOB.key.length g6.kc, .int .i64 kOB.seq, .int .i64 kOB.kind, .slice g6.vA kOB.val.length g6.vc, .slice g7.kA kOA.key.length g7.kc, .int .i64 kOA.seq, .int .i64 kOA.kind, .slice g7.vA kOA.val.length g7.vc] 46) := ⟨_, rfl⟩
  have HX8 : Hid (Ext w5 w8) := by rw [hw8]; exact Ext.trans HX7.out (ext_alloc _ _)
  have HWR : Hid (Es w8 0 w8.heap.size (some ⟨w7.heap.size, 0, none⟩) [(kOB, g6), (kOA, g7)]) := by
    have hxa : Ext w7 w8 := by rw [hw8]; exact ext_alloc _ _
    refine two_es (by rw [hw8]; exact heap_at _ _ rfl) ?_ ?_
    · exact ((HM6.out.below (Ext.trans hx2 hxa) (Nat.le_refl _)).wide (Nat.zero_le _) (Ext.trans hx2 hxa).size)
    · exact ((hm2.below hxa (Nat.le_refl _)).wide (Nat.zero_le _) hxa.size)
  have HWC := Lib.hid (kwrite2 HWR.out)
  rw [hw8] at HWC
  clear hx2 hm2 HM6 HWR
  unfold Ent.at_
  go_wp2_with fail
  refine HWC.out.mono ?_
  rw [← hw8]
  clear HWC hw8
  rintro x w9 ⟨hx9, rfl⟩
  have HXO9 : Hid (Ext w4 w9) := Ext.trans HXO5.out (Ext.trans HX8.out hx9)
  have HX9 : Hid (Ext w w9) := Ext.trans HX4.out HXO9.out
  clear hx9 HX6 HX7 HX8
  go_wp2_with fail
  refine (kread_no (Bs.nil w9 0 0) (Nat.zero_le _) (by simp) (by simp) kno0).mono ?_
  rintro x w10 ⟨hx10, rfl⟩
  have HXO10 : Hid (Ext w4 w10) := Ext.trans HXO9.out hx10
  have HX10 : Hid (Ext w w10) := Ext.trans HX4.out HXO10.out
  clear hx10
  obtain ⟨w11, hmk, MK⟩ := make_bytes w10 4 (by decide)
  have hmk' : (Instr.makeSlice 22 (.int .i64 4) (.int .i64 4)).run Try.prog w10 = .ok (.slice (some ⟨w10.heap.size, 0, none⟩) 4 4) w11 := hmk
  clear hmk
  have HXO11 : Hid (Ext w4 w11) := Ext.trans HXO10.out MK.2
  have HR4 := Lib.hid (kread_no (w := w11) (b := [0, 0, 0, 0]) MK.1 (Nat.le_refl _) (by decide) (by simp) kno4)
  clear MK
  go_wp2_with fail
  refine HR4.out.mono ?_
  clear HR4 hmk'
  rintro x w12 ⟨hx12, rfl⟩
  have HXO12 : Hid (Ext w4 w12) := Ext.trans HXO11.out hx12
  have HX12 : Hid (Ext w w12) := Ext.trans HX4.out HXO12.out
  clear hx12
  have cv1 : (convert 22 22 (.slice (some ⟨w12.heap.size, 0, none⟩) 2 2)).run Try.prog (w12.alloc (.cells #[.int .u8 97, .int .u8 99] 5)) = .ok (.slice (some ⟨w12.heap.size, 0, none⟩) 2 2) (w12.alloc (.cells #[.int .u8 97, .int .u8 99] 5 (2, 3))) := run_convert_bytes_const_at _ _ _ _ _ _ _ (rfl) Try.underlying22 Try.underlying5
  have hx8 : Ext w w12 := HX12.out
  have hx9 := ext_alloc w12 (.cells #[.int .u8 97, .int .u8 99] 5 (2, 3))
  have HG := Lib.hid (bget_any (s := 9) ((HBO.out.below (Ext.trans HXO12.out hx9)).bs) (Nat.le_refl _) (by decide) (by decide) (bs_mark w12 [97, 99] (by simp) (2, 3)) (by simp) (by decide) (by decide) (by decide))
  clear hx8 hx9
  go_wp2_with fail
  refine Calls.mono HG.out ?_
  intro x w13 hgt
  obtain ⟨hx13, gd, rfl, hmd⟩ := kget1 hgt
  have HXO13 : Hid (Ext w4 w13) := Ext.trans HXO12.out (Ext.trans (ext_alloc _ _) hx13)
  have HMD0 := Lib.hid hmd
  clear hgt hx13 hmd cv1 HG
  unfold Ent.at_
  go_upto_region 7 with (fail)
  obtain ⟨w14, hw14⟩ : ∃ w14, w14 = w13.alloc (.cells #[.slice gd.kA kAC.key.length gd.kc, .int .i64 kAC.seq, .int .i64 kAC.kind, .slice gd.vA kAC.val.length gd.vc] 46) := ⟨_, rfl⟩
  rw [← hw14]
  have HXO14 : Hid (Ext w4 w14) := by rw [hw14]; exact Ext.trans HXO13.out (ext_alloc _ _)
  have HX14 : Hid (Ext w w14) := Ext.trans HX4.out HXO14.out
  have HD14 : Hid (w14.heap[w13.heap.size]? = some (.cells #[.slice gd.kA kAC.key.length gd.kc, .int .i64 kAC.seq, .int .i64 kAC.kind, .slice gd.vA kAC.val.length gd.vc] 46 (0, 0))) := by rw [hw14]; exact heap_at _ _ rfl
  have HM14 : Hid (Em w14 0 w14.heap.size kAC gd) := by have hxa : Ext w13 w14 := (by rw [hw14]; exact ext_alloc _ _); exact (HMD0.out.below hxa (Nat.le_refl _)).wide (Nat.le_refl _) hxa.size
  obtain ⟨db, hdb⟩ : ∃ db, db = w13.heap.size := ⟨_, rfl⟩
  rw [← hdb] at HD14 ⊢
  clear hw14 hdb HMD0
  have cv1 : (convert 22 22 (.slice (some ⟨w14.heap.size, 0, none⟩) 2 2)).run Try.prog (w14.alloc (.cells #[.int .u8 97, .int .u8 99] 5)) = .ok (.slice (some ⟨w14.heap.size, 0, none⟩) 2 2) (w14.alloc (.cells #[.int .u8 97, .int .u8 99] 5 (2, 3))) := run_convert_bytes_const_at _ _ _ _ _ _ _ (rfl) Try.underlying22 Try.underlying5
  have hx8 : Ext w w14 := HX14.out
  have hx9 := ext_alloc w14 (.cells #[.int .u8 97, .int .u8 99] 5 (2, 3))
  have HG := Lib.hid (bget_any (s := 2) ((HBO.out.below (Ext.trans HXO14.out hx9)).bs) (Nat.le_refl _) (by decide) (by decide) (bs_mark w14 [97, 99] (by simp) (2, 3)) (by simp) (by decide) (by decide) (by decide))
  clear hx8 hx9
  go_wp2_with fail
  refine Calls.mono HG.out ?_
  intro x w15 hgt
  obtain ⟨hx15, rfl⟩ := kget2 hgt
  have HX145 : Hid (Ext w14 w15) := Ext.trans (ext_alloc _ _) hx15
  clear hgt hx15 cv1 HG
  unfold noE
  go_upto_region 8 with (fail)
  obtain ⟨wz, hwz⟩ : ∃ wz, wz = w15.alloc (.cells #[.slice none 0 0, .int .i64 0, .int .i64 0, .slice none 0 0] 46) := ⟨_, rfl⟩
  rw [← hwz]
  have HX14Z : Hid (Ext w14 wz) := by rw [hwz]; exact Ext.trans HX145.out (ext_alloc _ _)
  have HBW : Hid (Ext w wz) := Ext.trans HX14.out HX14Z.out
  have HBB : Hid (Bs wz w.heap.size wz.heap.size (.slice BA 19 bc) kBy) := Bs.of_own (HBO.out.below (Ext.trans HXO14.out HX14Z.out))
  have HMD : Hid (Em wz 0 wz.heap.size kAC gd) := (HM14.out.below HX14Z.out (Nat.le_refl _)).wide (Nat.le_refl _) HX14Z.out.size
  have hdz := ext_heap HX14Z.out HD14.out
  have d0 := cell_of (v := .slice gd.kA kAC.key.length gd.kc) hdz (k := 0) rfl
  have d1 := cell_of (v := .int .i64 kAC.seq) hdz (k := 1) rfl
  have d2 := cell_of (v := .int .i64 kAC.kind) hdz (k := 2) rfl
  have d3 := cell_of (v := .slice gd.vA kAC.val.length gd.vc) hdz (k := 3) rfl
  clear hwz hdz
  refine Fr.flow (R := MarkR wz.heap.size) (by kernel_rfl) [Is (.slice BA 19 bc), Is (.string (tx kBy)), Is (.bool true), Is (.bool true), Is (.int .i64 0), Is (.int .i64 0), Is (.int .i64 0), Is (.int .i64 0), Is (.int .i64 0), Is (.bool true), Is (.bool true), Is (.bool true), Is (.int .i64 2), Is (.int .i64 2), Is (.bool true), Is (.bool true), Is (.bool true), Is (.int .i64 2), Is (.int .i64 2), Is (.bool true), Is (.bool true), Is (.bool true), Is (.int .i64 4), Is (.int .i64 4), Is (.bool true), Is (.bool true), Is (.bool true), Is (.int .i64 4), Is (.int .i64 4), Is (.bool true), Is (.bool true), Is (.bool true), Is (.agg #[.slice gd.kA kAC.key.length gd.kc, .int .i64 kAC.seq, .int .i64 kAC.kind, .slice gd.vA kAC.val.length gd.vc]), LitF kAC, Is (.bool true), Is (.bool true), Is (.bool true), Is (.int .i64 6), Is (.int .i64 6), Is (.bool true), Is (.bool true), Is (.bool true), Is (.slice BA 19 bc), BlF wz.heap.size [97, 98, 0], BlF wz.heap.size [97, 98, 0], FromF [kAC], LitF kAC, OneF kAC, Is (.bool true), Is (.bool true), Is (.bool true)] (by kernel_rfl) (by kernel_rfl) ?mono (fun f1 => ?obl) ?fin
  case mono =>
    simp only [List.forall_mem_cons, List.not_mem_nil, false_imp_iff, implies_true, and_true]
    exact ⟨.is _, .is _, .is _, .is _, .is _, .is _, .is _, .is _, .is _, .is _, .is _, .is _, .is _, .is _, .is _, .is _, .is _, .is _, .is _, .is _, .is _, .is _, .is _, .is _, .is _, .is _, .is _, .is _, .is _, .is _, .is _, .is _, .is _, .lit _ _, .is _, .is _, .is _, .is _, .is _, .is _, .is _, .is _, .is _, .bl _ _ _, .bl _ _ _, .from_ _ _, .lit _ _, .one _ _, .is _, .is _, .is _⟩
  case fin =>
    intro g1 u hu hg
    simp only [puts, Act.put, List.setIfInBounds_toArray, List.set_cons_zero, List.set_cons_succ]
    have eL : g1 50 = .bool true := hg 50 (by decide)
    rw [eL]
    have HU := Lib.hid hu
    clear hu hg eL d0 d1 d2 d3
    go_wp2
    go_ret
    exact ⟨rfl, Below.trans HBW.out (((Chg.drew wz).trans (mark_chg HU.out)).below (fun i hi => Nat.le_trans HBW.out.size hi) HBW.out.size)⟩
  case obl =>
    refine ⟨fun u hu hd => ?_, ?_⟩
    · go_simp
      exact ⟨(MarkR wz.heap.size).refl _, rfl⟩
    refine ⟨fun u hu hd => ?_, ?_⟩
    · simp only [Act.put, List.setIfInBounds_toArray, List.set_cons_zero, List.set_cons_succ]
      have e0 : f1 0 = .slice BA 19 bc := hd 0 (by kernel_rfl)
      have hcv := cv_any (l := kBy) (mark_bs hu (show Bs wz.drew w.heap.size wz.heap.size (.slice BA 19 bc) kBy from HBB.out.below (Ext.drew wz) (Nat.le_refl _)))
      dsimp only [kBy, List.length_cons, List.length_nil] at hcv
      go_simp
      exact ⟨(MarkR wz.heap.size).refl _, rfl⟩
    refine ⟨fun u hu hd => ?_, ?_⟩
    · simp only [Act.put, List.setIfInBounds_toArray, List.set_cons_zero, List.set_cons_succ]
      have e1 : f1 1 = .string (tx kBy) := hd 1 (by kernel_rfl)
      have htx := ktx
      go_simp
      exact ⟨(MarkR wz.heap.size).refl _, rfl⟩
    refine ⟨fun u hu hd => ?_, ?_⟩
    · simp only [Act.put, List.setIfInBounds_toArray, List.set_cons_zero, List.set_cons_succ]
      have e2 : f1 2 = .bool true := hd 2 (by kernel_rfl)
      go_simp
      exact ⟨(MarkR wz.heap.size).refl _, rfl⟩
    refine ⟨fun u hu hd => ?_, ?_⟩
    · simp only [Act.put, List.setIfInBounds_toArray, List.set_cons_zero, List.set_cons_succ]
      have e3 : f1 3 = .bool true := hd 3 (by kernel_rfl)
      go_simp
      exact ⟨(MarkR wz.heap.size).refl _, rfl⟩
    refine ⟨fun u hu hd => ?_, ?_⟩
    · simp only [Act.put, List.setIfInBounds_toArray, List.set_cons_zero, List.set_cons_succ]
      have e3 : f1 3 = .bool true := hd 3 (by kernel_rfl)
      have e4 : f1 4 = .int .i64 0 := hd 4 (by kernel_rfl)
      go_simp
      refine (knum _ _).mono ?_
      rintro x9 w9 ⟨rfl, rfl⟩
      exact ⟨_, rfl, (MarkR wz.heap.size).refl _, rfl⟩
    refine ⟨fun u hu hd => ?_, ?_⟩
    · simp only [Act.put, List.setIfInBounds_toArray, List.set_cons_zero, List.set_cons_succ]
      have e3 : f1 3 = .bool true := hd 3 (by kernel_rfl)
      go_simp
      exact ⟨(MarkR wz.heap.size).refl _, rfl⟩
    refine ⟨fun u hu hd => ?_, ?_⟩
    · simp only [Act.put, List.setIfInBounds_toArray, List.set_cons_zero, List.set_cons_succ]
      have e3 : f1 3 = .bool true := hd 3 (by kernel_rfl)
      have e6 : f1 6 = .int .i64 0 := hd 6 (by kernel_rfl)
      go_simp
      refine (knum _ _).mono ?_
      rintro x9 w9 ⟨rfl, rfl⟩
      exact ⟨_, rfl, (MarkR wz.heap.size).refl _, rfl⟩
    refine ⟨fun u hu hd => ?_, ?_⟩
    · simp only [Act.put, List.setIfInBounds_toArray, List.set_cons_zero, List.set_cons_succ]
      have e3 : f1 3 = .bool true := hd 3 (by kernel_rfl)
      have e5 : f1 5 = .int .i64 0 := hd 5 (by kernel_rfl)
      have e7 : f1 7 = .int .i64 0 := hd 7 (by kernel_rfl)
      go_simp
      exact ⟨(MarkR wz.heap.size).refl _, rfl⟩
    refine ⟨fun u hu hd => ?_, ?_⟩
    · simp only [Act.put, List.setIfInBounds_toArray, List.set_cons_zero, List.set_cons_succ]
      have e3 : f1 3 = .bool true := hd 3 (by kernel_rfl)
      have e8 : f1 8 = .int .i64 0 := hd 8 (by kernel_rfl)
      go_simp
      exact ⟨(MarkR wz.heap.size).refl _, rfl⟩
    refine ⟨fun u hu hd => ?_, ?_⟩
    · simp only [Act.put, List.setIfInBounds_toArray, List.set_cons_zero, List.set_cons_succ]
      have e3 : f1 3 = .bool true := hd 3 (by kernel_rfl)
      have e9 : f1 9 = .bool true := hd 9 (by kernel_rfl)
      go_simp
      exact ⟨(MarkR wz.heap.size).refl _, rfl⟩
    refine ⟨fun u hu hd => ?_, ?_⟩
    · simp only [Act.put, List.setIfInBounds_toArray, List.set_cons_zero, List.set_cons_succ]
      have e10 : f1 10 = .bool true := hd 10 (by kernel_rfl)
      go_simp
      exact ⟨(MarkR wz.heap.size).refl _, rfl⟩
    refine ⟨fun u hu hd => ?_, ?_⟩
    · simp only [Act.put, List.setIfInBounds_toArray, List.set_cons_zero, List.set_cons_succ]
      have e11 : f1 11 = .bool true := hd 11 (by kernel_rfl)
      go_simp
      exact ⟨(MarkR wz.heap.size).refl _, rfl⟩
    refine ⟨fun u hu hd => ?_, ?_⟩
    · simp only [Act.put, List.setIfInBounds_toArray, List.set_cons_zero, List.set_cons_succ]
      have e11 : f1 11 = .bool true := hd 11 (by kernel_rfl)
      have e12 : f1 12 = .int .i64 2 := hd 12 (by kernel_rfl)
      go_simp
      refine (knum _ _).mono ?_
      rintro x9 w9 ⟨rfl, rfl⟩
      exact ⟨_, rfl, (MarkR wz.heap.size).refl _, rfl⟩
    refine ⟨fun u hu hd => ?_, ?_⟩
    · simp only [Act.put, List.setIfInBounds_toArray, List.set_cons_zero, List.set_cons_succ]
      have e11 : f1 11 = .bool true := hd 11 (by kernel_rfl)
      have e13 : f1 13 = .int .i64 2 := hd 13 (by kernel_rfl)
      go_simp
      exact ⟨(MarkR wz.heap.size).refl _, rfl⟩
    refine ⟨fun u hu hd => ?_, ?_⟩
    · simp only [Act.put, List.setIfInBounds_toArray, List.set_cons_zero, List.set_cons_succ]
      have e11 : f1 11 = .bool true := hd 11 (by kernel_rfl)
      have e14 : f1 14 = .bool true := hd 14 (by kernel_rfl)
      go_simp
      exact ⟨(MarkR wz.heap.size).refl _, rfl⟩
    refine ⟨fun u hu hd => ?_, ?_⟩
    · simp only [Act.put, List.setIfInBounds_toArray, List.set_cons_zero, List.set_cons_succ]
      have e15 : f1 15 = .bool true := hd 15 (by kernel_rfl)
      go_simp
      exact ⟨(MarkR wz.heap.size).refl _, rfl⟩
    refine ⟨fun u hu hd => ?_, ?_⟩
    · simp only [Act.put, List.setIfInBounds_toArray, List.set_cons_zero, List.set_cons_succ]
      have e16 : f1 16 = .bool true := hd 16 (by kernel_rfl)
      go_simp
      exact ⟨(MarkR wz.heap.size).refl _, rfl⟩
    refine ⟨fun u hu hd => ?_, ?_⟩
    · simp only [Act.put, List.setIfInBounds_toArray, List.set_cons_zero, List.set_cons_succ]
      have e16 : f1 16 = .bool true := hd 16 (by kernel_rfl)
      have e17 : f1 17 = .int .i64 2 := hd 17 (by kernel_rfl)
      go_simp
      refine (knum _ _).mono ?_
      rintro x9 w9 ⟨rfl, rfl⟩
      exact ⟨_, rfl, (MarkR wz.heap.size).refl _, rfl⟩
    refine ⟨fun u hu hd => ?_, ?_⟩
    · simp only [Act.put, List.setIfInBounds_toArray, List.set_cons_zero, List.set_cons_succ]
      have e16 : f1 16 = .bool true := hd 16 (by kernel_rfl)
      have e18 : f1 18 = .int .i64 2 := hd 18 (by kernel_rfl)
      go_simp
      exact ⟨(MarkR wz.heap.size).refl _, rfl⟩
    refine ⟨fun u hu hd => ?_, ?_⟩
    · simp only [Act.put, List.setIfInBounds_toArray, List.set_cons_zero, List.set_cons_succ]
      have e16 : f1 16 = .bool true := hd 16 (by kernel_rfl)
      have e19 : f1 19 = .bool true := hd 19 (by kernel_rfl)
      go_simp
      exact ⟨(MarkR wz.heap.size).refl _, rfl⟩
    refine ⟨fun u hu hd => ?_, ?_⟩
    · simp only [Act.put, List.setIfInBounds_toArray, List.set_cons_zero, List.set_cons_succ]
      have e20 : f1 20 = .bool true := hd 20 (by kernel_rfl)
      go_simp
      exact ⟨(MarkR wz.heap.size).refl _, rfl⟩
    refine ⟨fun u hu hd => ?_, ?_⟩
    · simp only [Act.put, List.setIfInBounds_toArray, List.set_cons_zero, List.set_cons_succ]
      have e21 : f1 21 = .bool true := hd 21 (by kernel_rfl)
      go_simp
      exact ⟨(MarkR wz.heap.size).refl _, rfl⟩
    refine ⟨fun u hu hd => ?_, ?_⟩
    · simp only [Act.put, List.setIfInBounds_toArray, List.set_cons_zero, List.set_cons_succ]
      have e21 : f1 21 = .bool true := hd 21 (by kernel_rfl)
      have e22 : f1 22 = .int .i64 4 := hd 22 (by kernel_rfl)
      go_simp
      refine (knum _ _).mono ?_
      rintro x9 w9 ⟨rfl, rfl⟩
      exact ⟨_, rfl, (MarkR wz.heap.size).refl _, rfl⟩
    refine ⟨fun u hu hd => ?_, ?_⟩
    · simp only [Act.put, List.setIfInBounds_toArray, List.set_cons_zero, List.set_cons_succ]
      have e21 : f1 21 = .bool true := hd 21 (by kernel_rfl)
      have e23 : f1 23 = .int .i64 4 := hd 23 (by kernel_rfl)
      go_simp
      exact ⟨(MarkR wz.heap.size).refl _, rfl⟩
    refine ⟨fun u hu hd => ?_, ?_⟩
    · simp only [Act.put, List.setIfInBounds_toArray, List.set_cons_zero, List.set_cons_succ]
      have e21 : f1 21 = .bool true := hd 21 (by kernel_rfl)
      have e24 : f1 24 = .bool true := hd 24 (by kernel_rfl)
      go_simp
      exact ⟨(MarkR wz.heap.size).refl _, rfl⟩
    refine ⟨fun u hu hd => ?_, ?_⟩
    · simp only [Act.put, List.setIfInBounds_toArray, List.set_cons_zero, List.set_cons_succ]
      have e25 : f1 25 = .bool true := hd 25 (by kernel_rfl)
      go_simp
      exact ⟨(MarkR wz.heap.size).refl _, rfl⟩
    refine ⟨fun u hu hd => ?_, ?_⟩
    · simp only [Act.put, List.setIfInBounds_toArray, List.set_cons_zero, List.set_cons_succ]
      have e26 : f1 26 = .bool true := hd 26 (by kernel_rfl)
      go_simp
      exact ⟨(MarkR wz.heap.size).refl _, rfl⟩
    refine ⟨fun u hu hd => ?_, ?_⟩
    · simp only [Act.put, List.setIfInBounds_toArray, List.set_cons_zero, List.set_cons_succ]
      have e26 : f1 26 = .bool true := hd 26 (by kernel_rfl)
      have e27 : f1 27 = .int .i64 4 := hd 27 (by kernel_rfl)
      go_simp
      refine (knum _ _).mono ?_
      rintro x9 w9 ⟨rfl, rfl⟩
      exact ⟨_, rfl, (MarkR wz.heap.size).refl _, rfl⟩
    refine ⟨fun u hu hd => ?_, ?_⟩
    · simp only [Act.put, List.setIfInBounds_toArray, List.set_cons_zero, List.set_cons_succ]
      have e26 : f1 26 = .bool true := hd 26 (by kernel_rfl)
      have e28 : f1 28 = .int .i64 4 := hd 28 (by kernel_rfl)
      go_simp
      exact ⟨(MarkR wz.heap.size).refl _, rfl⟩
    refine ⟨fun u hu hd => ?_, ?_⟩
    · simp only [Act.put, List.setIfInBounds_toArray, List.set_cons_zero, List.set_cons_succ]
      have e26 : f1 26 = .bool true := hd 26 (by kernel_rfl)
      have e29 : f1 29 = .bool true := hd 29 (by kernel_rfl)
      go_simp
      exact ⟨(MarkR wz.heap.size).refl _, rfl⟩
    refine ⟨fun u hu hd => ?_, ?_⟩
    · simp only [Act.put, List.setIfInBounds_toArray, List.set_cons_zero, List.set_cons_succ]
      have e30 : f1 30 = .bool true := hd 30 (by kernel_rfl)
      go_simp
      exact ⟨(MarkR wz.heap.size).refl _, rfl⟩
    refine ⟨fun u hu hd => ?_, ?_⟩
    · simp only [Act.put, List.setIfInBounds_toArray, List.set_cons_zero, List.set_cons_succ]
      have e31 : f1 31 = .bool true := hd 31 (by kernel_rfl)
      have hu2 := hu
      have q0 := mark_cell hu2 d0
      have q1 := mark_cell hu2 d1
      have q2 := mark_cell hu2 d2
      have q3 := mark_cell hu2 d3
      go_simp
      exact ⟨(MarkR wz.heap.size).refl _, rfl⟩
    refine ⟨fun u hu hd => ?_, ?_⟩
    · simp only [Act.put, List.setIfInBounds_toArray, List.set_cons_zero, List.set_cons_succ]
      have e31 : f1 31 = .bool true := hd 31 (by kernel_rfl)
      go_simp
      refine (lit_any (e := kAC) (k := [97, 99]) rfl rfl (by decide) (by decide) (by decide) (by decide) _).mono ?_
      rintro x9 w9 ⟨hx9, g9, rfl, hm9⟩
      exact ⟨_, rfl, mark_ext hx9, g9, rfl, hm9.wide (Nat.zero_le _) (Nat.le_refl _)⟩
    refine ⟨fun u hu hd => ?_, ?_⟩
    · simp only [Act.put, List.setIfInBounds_toArray, List.set_cons_zero, List.set_cons_succ]
      have e31 : f1 31 = .bool true := hd 31 (by kernel_rfl)
      have e32 : f1 32 = .agg #[.slice gd.kA kAC.key.length gd.kc, .int .i64 kAC.seq, .int .i64 kAC.kind, .slice gd.vA kAC.val.length gd.vc] := hd 32 (by kernel_rfl)
      obtain ⟨g9, e33, hm9⟩ := (show LitF kAC (f1 33) u from hd 33 (by kernel_rfl))
      have hm8 : Em u 0 u.heap.size kAC gd := (mark_em hu (show Em wz.drew 0 wz.heap.size kAC gd from HMD.out.below (Ext.drew wz) (Nat.le_refl _))).wide (Nat.le_refl _) hu.2.2.2.1
      have HR9 := Lib.hid (rsame_any hm8 hm9 (Nat.le_refl _) (Nat.le_refl _))
      unfold Ent.at_ at e33 HR9
      clear hm8 hm9
      go_simp
      refine HR9.out.mono ?_
      rintro x9 w9 ⟨z, hz, rfl, hx9⟩
      obtain rfl : z = true := hz.2 rfl
      exact ⟨_, rfl, mark_ext hx9, rfl⟩
    refine ⟨fun u hu hd => ?_, ?_⟩
    · simp only [Act.put, List.setIfInBounds_toArray, List.set_cons_zero, List.set_cons_succ]
      have e31 : f1 31 = .bool true := hd 31 (by kernel_rfl)
      have e34 : f1 34 = .bool true := hd 34 (by kernel_rfl)
      go_simp
      exact ⟨(MarkR wz.heap.size).refl _, rfl⟩
    refine ⟨fun u hu hd => ?_, ?_⟩
    · simp only [Act.put, List.setIfInBounds_toArray, List.set_cons_zero, List.set_cons_succ]
      have e35 : f1 35 = .bool true := hd 35 (by kernel_rfl)
      go_simp
      exact ⟨(MarkR wz.heap.size).refl _, rfl⟩
    refine ⟨fun u hu hd => ?_, ?_⟩
    · simp only [Act.put, List.setIfInBounds_toArray, List.set_cons_zero, List.set_cons_succ]
      have e36 : f1 36 = .bool true := hd 36 (by kernel_rfl)
      go_simp
      exact ⟨(MarkR wz.heap.size).refl _, rfl⟩
    refine ⟨fun u hu hd => ?_, ?_⟩
    · simp only [Act.put, List.setIfInBounds_toArray, List.set_cons_zero, List.set_cons_succ]
      have e36 : f1 36 = .bool true := hd 36 (by kernel_rfl)
      have e37 : f1 37 = .int .i64 6 := hd 37 (by kernel_rfl)
      go_simp
      refine (knum _ _).mono ?_
      rintro x9 w9 ⟨rfl, rfl⟩
      exact ⟨_, rfl, (MarkR wz.heap.size).refl _, rfl⟩
    refine ⟨fun u hu hd => ?_, ?_⟩
    · simp only [Act.put, List.setIfInBounds_toArray, List.set_cons_zero, List.set_cons_succ]
      have e36 : f1 36 = .bool true := hd 36 (by kernel_rfl)
      have e38 : f1 38 = .int .i64 6 := hd 38 (by kernel_rfl)
      go_simp
      exact ⟨(MarkR wz.heap.size).refl _, rfl⟩
    refine ⟨fun u hu hd => ?_, ?_⟩
    · simp only [Act.put, List.setIfInBounds_toArray, List.set_cons_zero, List.set_cons_succ]
      have e36 : f1 36 = .bool true := hd 36 (by kernel_rfl)
      have e39 : f1 39 = .bool true := hd 39 (by kernel_rfl)
      go_simp
      exact ⟨(MarkR wz.heap.size).refl _, rfl⟩
    refine ⟨fun u hu hd => ?_, ?_⟩
    · simp only [Act.put, List.setIfInBounds_toArray, List.set_cons_zero, List.set_cons_succ]
      have e40 : f1 40 = .bool true := hd 40 (by kernel_rfl)
      go_simp
      exact ⟨(MarkR wz.heap.size).refl _, rfl⟩
    refine ⟨fun u hu hd => ?_, ?_⟩
    · simp only [Act.put, List.setIfInBounds_toArray, List.set_cons_zero, List.set_cons_succ]
      have e41 : f1 41 = .bool true := hd 41 (by kernel_rfl)
      go_simp
      exact ⟨(MarkR wz.heap.size).refl _, rfl⟩
    refine ⟨fun u hu hd => ?_, ?_⟩
    · simp only [Act.put, List.setIfInBounds_toArray, List.set_cons_zero, List.set_cons_succ]
      have e41 : f1 41 = .bool true := hd 41 (by kernel_rfl)
      go_simp
      exact ⟨mark_ext (ext_alloc _ _), _, (0, 0), rfl, hu.2.2.2.1, heap_at _ _ rfl⟩
    refine ⟨fun u hu hd => ?_, ?_⟩
    · simp only [Act.put, List.setIfInBounds_toArray, List.set_cons_zero, List.set_cons_succ]
      have e41 : f1 41 = .bool true := hd 41 (by kernel_rfl)
      obtain ⟨b9, fz9, e43, hB9, hb9⟩ := (show BlF wz.heap.size [97, 98, 0] (f1 43) u from hd 43 (by kernel_rfl))
      have HB9 := Lib.hid hb9
      have HBB9 := Lib.hid hB9
      have hcv := conv_const (n := 3) (c := 3) hb9
      dsimp only [List.length_cons, List.length_nil] at e43
      clear hb9 hB9
      go_simp
      obtain ⟨fz8, h8⟩ := freeze_at (k := 3) HB9.out
      exact ⟨mark_freeze HB9.out HBB9.out, b9, fz8, rfl, HBB9.out, h8⟩
    refine ⟨fun u hu hd => ?_, ?_⟩
    · simp only [Act.put, List.setIfInBounds_toArray, List.set_cons_zero, List.set_cons_succ]
      have e41 : f1 41 = .bool true := hd 41 (by kernel_rfl)
      have e42 : f1 42 = .slice BA 19 bc := hd 42 (by kernel_rfl)
      obtain ⟨b9, fz9, e44, hB9, hb9⟩ := (show BlF wz.heap.size [97, 98, 0] (f1 44) u from hd 44 (by kernel_rfl))
      have HBS9 := Lib.hid (bl_bs (l := [97, 98, 0]) (by simp) hb9)
      have HBU9 := Lib.hid (mark_bs hu (show Bs wz.drew w.heap.size wz.heap.size (.slice BA 19 bc) kBy from HBB.out.below (Ext.drew wz) (Nat.le_refl _)))
      dsimp only [List.length_cons, List.length_nil] at e44
      clear hb9 hB9
      go_simp
      refine (bfrom_any HBU9.out hu.2.2.2.1 (by decide) (by decide) HBS9.out (Nat.le_refl _) (by decide)).mono ?_
      intro x9 w9 h9
      obtain ⟨v9, rfl, hx9, hf9⟩ := kfrom h9
      exact ⟨_, rfl, mark_ext hx9, hf9⟩
    refine ⟨fun u hu hd => ?_, ?_⟩
    · simp only [Act.put, List.setIfInBounds_toArray, List.set_cons_zero, List.set_cons_succ]
      have e41 : f1 41 = .bool true := hd 41 (by kernel_rfl)
      go_simp
      refine (lit_any (e := kAC) (k := [97, 99]) rfl rfl (by decide) (by decide) (by decide) (by decide) _).mono ?_
      rintro x9 w9 ⟨hx9, g9, rfl, hm9⟩
      exact ⟨_, rfl, mark_ext hx9, g9, rfl, hm9.wide (Nat.zero_le _) (Nat.le_refl _)⟩
    refine ⟨fun u hu hd => ?_, ?_⟩
    · simp only [Act.put, List.setIfInBounds_toArray, List.set_cons_zero, List.set_cons_succ]
      have e41 : f1 41 = .bool true := hd 41 (by kernel_rfl)
      obtain ⟨g9, e46, hm9⟩ := (show LitF kAC (f1 46) u from hd 46 (by kernel_rfl))
      have HM9 := Lib.hid hm9
      unfold Ent.at_ at e46
      clear hm9
      go_simp
      exact ⟨mark_ext (ext_alloc _ _), g9, _, rfl, heap_at _ _ rfl, HM9.out.below (ext_alloc _ _) (Nat.le_refl _) |>.wide (Nat.le_refl _) (ext_alloc _ _).size⟩
    refine ⟨fun u hu hd => ?_, ?_⟩
    · simp only [Act.put, List.setIfInBounds_toArray, List.set_cons_zero, List.set_cons_succ]
      have e41 : f1 41 = .bool true := hd 41 (by kernel_rfl)
      obtain ⟨bd9, X9, c9, S9, e45, hbx9, hes9, hl9, hin9, hmp9⟩ := (show FromF [kAC] (f1 45) u from hd 45 (by kernel_rfl))
      obtain ⟨g9, b9, e47, hb9, hm9⟩ := (show OneF kAC (f1 47) u from hd 47 (by kernel_rfl))
      have hit9 := from_iter hbx9 hes9 hl9 hin9
      have hts9 : (tws S9).length = S9.length := by simp [tws]
      rw [← hts9] at hit9
      have HG9 := Lib.hid (goes_any (most := 0) (c2 := 1) hit9 (fun A hA k hk => hA.block k hk) (fun t ht => by obtain ⟨p, hp, rfl⟩ := List.mem_map.1 ht; exact hin9 p hp) (one_es hb9 hm9) (Nat.le_refl _) (by simp) (by rw [tws_e, hmp9]; rfl))
      clear hit9 hts9 hbx9 hes9 hl9 hin9 hmp9 hb9 hm9
      go_simp
      refine HG9.out.mono ?_
      rintro x9 w9 ⟨rfl, hb9⟩
      exact ⟨_, rfl, mark_ext hb9, rfl⟩
    refine ⟨fun u hu hd => ?_, ?_⟩
    · simp only [Act.put, List.setIfInBounds_toArray, List.set_cons_zero, List.set_cons_succ]
      have e41 : f1 41 = .bool true := hd 41 (by kernel_rfl)
      have e48 : f1 48 = .bool true := hd 48 (by kernel_rfl)
      go_simp
      exact ⟨(MarkR wz.heap.size).refl _, rfl⟩
    refine ⟨fun u hu hd => ?_, ?_⟩
    · simp only [Act.put, List.setIfInBounds_toArray, List.set_cons_zero, List.set_cons_succ]
      have e49 : f1 49 = .bool true := hd 49 (by kernel_rfl)
      go_simp
      exact ⟨(MarkR wz.heap.size).refl _, rfl⟩
    trivial
end Go.Proofs.Ytbafmfdlbicadaa
