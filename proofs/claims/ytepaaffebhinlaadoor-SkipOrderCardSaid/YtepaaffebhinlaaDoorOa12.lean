/- Flowr Smark Sknown, joined. -/
import Derived.Test.YtepaaffebhinlaaDoorOa3
import Derived.Test.YtepaaffebhinlaaDoorOa8
import Derived.Lib.SlBytesConst
import Derived.Lib.SmallJoins

/- A region that draws its order, by facts: as XFlow, but over any relation of worlds that is a preorder (a later operation may change what an earlier one made). -/
namespace Go.Proofs.YtepaaffebhinlaaDoor.Fr
open Go.RowKit

/-- What a later world keeps of an earlier one. -/
structure Rel where
  r : World → World → Prop
  refl : ∀ w, r w w
  trans : ∀ {a b c}, r a b → r b c → r a c
/-- A fact that later worlds keep. -/
def Mono (R : Rel) (p : Value → World → Prop) : Prop := ∀ v u u', p v u → R.r u u' → p v u'
theorem Mono.is {R : Rel} (c : Value) : Mono R (Is c) := fun _ _ _ h _ => h
theorem fact_mono {R : Rel} {φ : List (Value → World → Prop)} (h : ∀ p ∈ φ, Mono R p) (j : Nat) {v : Value} {u u' : World} (hf : fact φ j v u) (hu : R.r u u') : fact φ j v u' := by
  unfold fact at *
  by_cases hj : j < φ.length
  · have e : φ.getD j (fun _ _ => True) = φ[j] := by simp [List.getD, List.getElem?_eq_getElem hj]
    rw [e] at hf ⊢
    exact h _ (List.getElem_mem hj) _ _ _ hf hu
  · have e : φ.getD j (fun _ _ => True) = fun _ _ => True := by simp [List.getD, List.getElem?_eq_none (Nat.le_of_not_lt hj)]
    rw [e]; trivial

/-- Each operation gives its fact. -/
def Obls (R : Rel) (P : Program) (ops : Array Oper) (φ : List (Value → World → Prop)) (w0 : World) (f : Nat → Value) : Nat → List Oper → Act → Prop
  | _, [], _ => True
  | k, o :: rest, a => (∀ u, R.r w0 u → (∀ j, aft o j = true → fact φ j (f j) u) →
      if Region.wanted o (yielded ops a.tmps) = true then GivesR P ((execOp a.eval o).run P u) (fun v u' => R.r u u' ∧ fact φ k (kept o v) u') else fact φ k undef u) ∧ Obls R P ops φ w0 f (k + 1) rest (a.put o.dst (f k))
theorem Obls.at {R : Rel} {P : Program} {ops : Array Oper} {φ : List (Value → World → Prop)} {w0 : World} {f : Nat → Value} : ∀ (l : List Oper) (k : Nat) (a : Act), Obls R P ops φ w0 f k l a → ∀ (i : Nat) (o : Oper), l[i]? = some o →
    ∀ u, R.r w0 u → (∀ j, aft o j = true → fact φ j (f j) u) →
      if Region.wanted o (yielded ops (puts f k (l.take i) a).tmps) = true then GivesR P ((execOp (puts f k (l.take i) a).eval o).run P u) (fun v u' => R.r u u' ∧ fact φ (k + i) (kept o v) u') else fact φ (k + i) undef u := by
  intro l
  induction l with
  | nil => intro k a _ i o h; simp at h
  | cons o l ih =>
    intro k a h i oi hi
    cases i with
    | zero => simp at hi; subst hi; exact h.1
    | succ i =>
      have := ih (k + 1) _ h.2 i oi (by simpa using hi)
      simp only [List.take_succ_cons, puts]
      rw [show k + (i + 1) = k + 1 + i by omega]
      exact this

structure Inv (R : Rel) (ops : Array Oper) (φ : List (Value → World → Prop)) (a0 : Act) (w0 : World) (seen : Array Bool) (a : Act) (u : World) : Prop where
  ext : R.r w0 u
  size : seen.size = ops.size
  defs : a.defers = a0.defers
  tsz : a.tmps.size = a0.tmps.size
  old : ∀ s, (∀ (j : Nat) (oj : Oper), ops[j]? = some oj → seen.getD j false = true → oj.dst ≠ some s) → a.tmps[s]? = a0.tmps[s]?
  facts : ∀ (j : Nat) (oj : Oper), ops[j]? = some oj → seen.getD j false = true → fact φ j (slot a oj) u
  closed : ∀ (j : Nat) (oj : Oper), ops[j]? = some oj → seen.getD j false = true → ∀ k, aft oj k = true → seen.getD k false = true

section
variable {P : Program} {ops : Array Oper} {Q : Exit → Act → World → Prop} {φ : List (Value → World → Prop)} {a0 : Act} {w0 : World} {R : Rel}

theorem look_same {seen : Array Bool} {a : Act} {u : World} (hok : flowOk ops a0.tmps.size = true) (hI : Inv R ops φ a0 w0 seen a u) {i : Nat} {oi : Oper} (hi : ops[i]? = some oi) (hn : seen.getD i false = false)
    {t : Nat} (ht : t ∈ oi.looksAt ops) : a.tmps[t]? = (puts (held ops a) 0 (ops.toList.take i) a0).tmps[t]? := by
  by_cases hsz : t < a0.tmps.size
  · have hlen : i < ops.toList.length := by simpa using (Array.getElem?_eq_some_iff.1 hi).1
    have conv : ∀ (j : Nat) (o : Oper), (ops.toList.take i)[j]? = some o → j < i ∧ ops[j]? = some o := fun j o h => by
      rw [List.getElem?_take] at h
      split at h
      · rename_i hj; exact ⟨hj, by rw [← Array.getElem?_toList]; exact h⟩
      · cases h
    have huniq : ∀ (x y : Nat) (ox oy : Oper), (ops.toList.take i)[x]? = some ox → (ops.toList.take i)[y]? = some oy → ox.dst = some t → oy.dst = some t → x = y := fun x y ox oy hx hy h1 h2 => by
      rcases Nat.decEq x y with hne | he
      · exact absurd h1 (((flowOk_at hok (conv x ox hx).2).2.2.2 y oy t (conv y oy hy).2 h2).1 (fun e => hne e.symm))
      · exact he
    obtain ⟨h1, h2⟩ := puts_get (held ops a) (ops.toList.take i) 0 a0 t hsz huniq
    by_cases hex : ∃ (j : Nat) (oj : Oper), (ops.toList.take i)[j]? = some oj ∧ oj.dst = some t
    · obtain ⟨j, oj, hj, hd⟩ := hex
      rw [h2 j oj hj hd, Nat.zero_add]
      have hj' := (conv j oj hj).2
      have hlt := (conv j oj hj).1
      simp only [held, hj', slot, hd]
      have hts : t < a.tmps.size := by rw [hI.tsz]; exact hsz
      simp [Array.getD, hts]
    · have hex' : ∀ (j : Nat) (o : Oper), (ops.toList.take i)[j]? = some o → o.dst ≠ some t := fun j o hj hd => hex ⟨j, o, hj, hd⟩
      rw [h1 hex']
      refine hI.old t fun j oj hj hsj hd => ?_
      rcases ((flowOk_at hok hi).2.2.2 j oj t hj hd).2 ht with h | h
      · have hlt := aft_lt hok hi h
        refine hex' j oj ?_ hd
        rw [List.getElem?_take, if_pos hlt, Array.getElem?_toList]; exact hj
      · have := hI.closed j oj hj hsj i h
        rw [hn] at this; cases this
  · have e1 : a.tmps[t]? = none := Array.getElem?_eq_none (by rw [hI.tsz]; omega)
    have e2 : (puts (held ops a) 0 (ops.toList.take i) a0).tmps[t]? = none := Array.getElem?_eq_none (by rw [puts_size]; omega)
    rw [e1, e2]

theorem Inv.next {seen : Array Bool} {a : Act} {u u' : World} (hok : flowOk ops a0.tmps.size = true) (hmono : ∀ p ∈ φ, Mono R p) (hI : Inv R ops φ a0 w0 seen a u) {i : Nat} {oi : Oper} (hi : ops[i]? = some oi)
    (hs : ∀ k, aft oi k = true → seen.getD k false = true) {v : Value} (hu : R.r u u') (hf : fact φ i (kept oi v) u') : Inv R ops φ a0 w0 (seen.setIfInBounds i true) (a.put oi.dst v) u' := by
  refine ⟨R.trans hI.ext hu, by simp [hI.size], by rw [put_defers']; exact hI.defs, by rw [put_size]; exact hI.tsz, fun s h => ?_, fun j oj hj hsj => ?_, fun j oj hj hsj k hk => ?_⟩
  · have hlt : i < seen.size := by rw [hI.size]; exact (Array.getElem?_eq_some_iff.1 hi).1
    have hne : oi.dst ≠ some s := h i oi hi (by rw [set_getD, if_pos ⟨rfl, hlt⟩])
    rw [put_get, if_neg (fun h => hne h.1)]
    refine hI.old s fun j oj hj hsj => h j oj hj ?_
    rw [set_getD]
    split
    · rfl
    · exact hsj
  · rw [set_getD] at hsj
    by_cases hij : i = j
    · subst hij
      rw [hi] at hj
      injection hj with hj
      subst hj
      have e : slot (a.put oi.dst v) oi = kept oi v := by
        unfold slot kept
        cases hd : oi.dst with
        | none => rfl
        | some d =>
          have hds := (flowOk_at hok hi).2.2.1 d hd
          have hd2 : d < a.tmps.size := by rw [hI.tsz]; exact hds
          simp [Act.put, Array.getD, hd2]
      rw [e]; exact hf
    · rw [if_neg (fun h => hij h.1)] at hsj
      have e : slot (a.put oi.dst v) oj = slot a oj := by
        unfold slot
        cases hd : oj.dst with
        | none => rfl
        | some d =>
          have hne := ((flowOk_at hok hi).2.2.2 j oj d hj hd).1 (fun e => hij e.symm)
          have := put_get a oi.dst v d
          rw [if_neg (fun h => hne h.1)] at this
          show (a.put oi.dst v).tmps.getD d undef = a.tmps.getD d undef
          rw [Array.getD_eq_getD_getElem?, this, ← Array.getD_eq_getD_getElem?]
      rw [e]
      exact fact_mono hmono j (hI.facts j oj hj hsj) hu
  · rw [set_getD] at hsj ⊢
    split
    · rfl
    · rename_i hk2
      by_cases hij : i = j
      · subst hij
        rw [hi] at hj
        injection hj with hj
        subst hj
        exact hs k hk
      · rw [if_neg (fun h => hij h.1)] at hsj
        exact hI.closed j oj hj hsj k hk

theorem flow_step {seen : Array Bool} {a : Act} {u : World} {m : Nat} (hok : flowOk ops a0.tmps.size = true) (hsel : Region.noSelect ops = true) (hmono : ∀ p ∈ φ, Mono R p) (hobl : ∀ f, Obls R P ops φ w0 f 0 (ops.toList.take m) a0)
    (hI : Inv R ops φ a0 w0 seen a u) {i : Nat} (him : i < m) (hr : i ∈ Region.ready .any ops seen) : wpOp P ops Q i (fun b u' => Inv R ops φ a0 w0 (seen.setIfInBounds i true) b u') a u := by
  obtain ⟨hun, oi, hi, hall⟩ := mem_ready.1 hr
  have hlt : i < ops.size := (Array.getElem?_eq_some_iff.1 hi).1
  have hn : seen.getD i false = false := by rw [← getD_both seen (by rw [hI.size]; exact hlt)]; simpa using hun
  have hs : ∀ k, aft oi k = true → seen.getD k false = true := fun k hk => by
    unfold aft at hk
    obtain ⟨e, he, hb⟩ := Array.any_eq_true'.1 hk
    simp only [Bool.and_eq_true, beq_iff_eq] at hb
    rw [← hb.2]
    exact hall e he hb.1
  have hlook := fun {t : Nat} (ht : t ∈ oi.looksAt ops) => look_same hok hI hi hn ht
  have hfacts : ∀ j, aft oi j = true → fact φ j (held ops a j) u := fun j hj => by
    have hjl := aft_lt hok hi hj
    have hoj : ops[j]? = some ops[j] := Array.getElem?_eq_getElem (by omega)
    have := hI.facts j _ hoj (hs j hj)
    simp only [held, hoj]
    exact this
  have hO := Obls.at (ops.toList.take m) 0 a0 (hobl (held ops a)) i oi (by rw [List.getElem?_take, if_pos him, Array.getElem?_toList]; exact hi) u hI.ext hfacts
  rw [Nat.zero_add, List.take_take, Nat.min_eq_left (Nat.le_of_lt him)] at hO
  have hex : execOp (puts (held ops a) 0 (ops.toList.take i) a0).eval oi = execOp a.eval oi := by
    refine execOp_congr oi (fun cs b => Region.noSelect_spec hsel i oi cs b hi) fun x hx => ?_
    cases x with
    | tmp t =>
      have ht : t ∈ oi.looksAt ops := by
        unfold Oper.looksAt
        refine List.mem_append_left _ (List.mem_filterMap.2 ⟨.tmp t, by simpa using hx, rfl⟩)
      show Array.getD _ t undef = Array.getD _ t undef
      rw [Array.getD_eq_getD_getElem?, Array.getD_eq_getD_getElem?, hlook ht]
    | _ => rfl
  have hwt : Region.wanted oi (yielded ops (puts (held ops a) 0 (ops.toList.take i) a0).tmps) = Region.wanted oi (yielded ops a.tmps) := by
    unfold Region.wanted
    cases hg : oi.guard with
    | none => rfl
    | some gb =>
      obtain ⟨g, b⟩ := gb
      have e : yielded ops (puts (held ops a) 0 (ops.toList.take i) a0).tmps g = yielded ops a.tmps g := by
        unfold yielded
        cases hd : (ops[g]?).bind (·.dst) with
        | none => rfl
        | some d =>
          have ht : d ∈ oi.looksAt ops := by
            unfold Oper.looksAt
            rw [hg]
            refine List.mem_append_right _ ?_
            simp only [hd]
            simp
          show (match (puts (held ops a) 0 (ops.toList.take i) a0).tmps[d]? with | some (Value.bool b) => some b | _ => none) = _
          rw [← hlook ht]
          rfl
      simp only [e]
  rw [hex, hwt] at hO
  unfold wpOp
  simp only [hi]
  split
  · rename_i hw
    rw [if_pos hw] at hO
    exact .inl (gives_wp hO fun v u' h => hI.next hok hmono hi hs h.1 h.2)
  · rename_i hw
    rw [if_neg hw] at hO
    refine hI.next hok hmono hi hs (R.refl u) ?_
    have : kept oi undef = undef := by unfold kept; cases oi.dst <;> rfl
    rw [this]; exact hO

theorem all_seen {seen : Array Bool} {a : Act} {u : World} (hok : flowOk ops a0.tmps.size = true) (hI : Inv R ops φ a0 w0 seen a u) (hr : Region.ready .any ops seen = []) : ∀ i, i < ops.size → seen.getD i false = true := by
  intro i
  induction i using Nat.strongRecOn with
  | ind i ih =>
    intro hlt
    rcases h : seen.getD i false with _ | _
    · have hi : ops[i]? = some ops[i] := Array.getElem?_eq_getElem hlt
      have : i ∈ Region.ready .any ops seen := mem_ready.2 ⟨by rw [getD_both seen (by rw [hI.size]; exact hlt)]; exact h, ops[i], hi, fun e he hb => by
        have := (flowOk_at hok hi).1 e he hb
        exact ih e.on this (by omega)⟩
      rw [hr] at this; cases this
    · rfl

theorem act_is {seen : Array Bool} {a : Act} {u : World} (hok : flowOk ops a0.tmps.size = true) (hI : Inv R ops φ a0 w0 seen a u) : a = puts (held ops a) 0 ops.toList a0 := by
  have hd : a.defers = (puts (held ops a) 0 ops.toList a0).defers := by rw [puts_defers]; exact hI.defs
  have ht : a.tmps = (puts (held ops a) 0 ops.toList a0).tmps := by
    apply Array.ext_getElem?
    intro t
    by_cases hsz : t < a0.tmps.size
    · have conv : ∀ (j : Nat) (o : Oper), ops.toList[j]? = some o → ops[j]? = some o := fun j o h => by rw [← Array.getElem?_toList]; exact h
      have huniq : ∀ (x y : Nat) (ox oy : Oper), ops.toList[x]? = some ox → ops.toList[y]? = some oy → ox.dst = some t → oy.dst = some t → x = y := fun x y ox oy hx hy h1 h2 => by
        rcases Nat.decEq x y with hne | he
        · exact absurd h1 (((flowOk_at hok (conv x ox hx)).2.2.2 y oy t (conv y oy hy) h2).1 (fun e => hne e.symm))
        · exact he
      obtain ⟨h1, h2⟩ := puts_get (held ops a) ops.toList 0 a0 t hsz huniq
      by_cases hex : ∃ (j : Nat) (oj : Oper), ops.toList[j]? = some oj ∧ oj.dst = some t
      · obtain ⟨j, oj, hj, hd⟩ := hex
        rw [h2 j oj hj hd, Nat.zero_add]
        simp only [held, conv j oj hj, slot, hd]
        have hts : t < a.tmps.size := by rw [hI.tsz]; exact hsz
        simp [Array.getD, hts]
      · have hex' : ∀ (j : Nat) (o : Oper), ops.toList[j]? = some o → o.dst ≠ some t := fun j o hj hd => hex ⟨j, o, hj, hd⟩
        rw [h1 hex']
        exact hI.old t fun j oj hj _ => hex' j oj (by rw [Array.getElem?_toList]; exact hj)
    · rw [Array.getElem?_eq_none (by rw [hI.tsz]; omega), Array.getElem?_eq_none (by rw [puts_size]; omega)]
  have ext : ∀ x y : Act, x.tmps = y.tmps → x.defers = y.defers → x = y := by rintro ⟨_, _⟩ ⟨_, _⟩ rfl rfl; rfl
  exact ext _ _ ht hd

theorem flow_any (hok : flowOk ops a0.tmps.size = true) (hsel : Region.noSelect ops = true) (hmono : ∀ p ∈ φ, Mono R p) (hobl : ∀ f, Obls R P ops φ w0 f 0 ops.toList a0)
    (hfin : ∀ (g : Nat → Value) u, R.r w0 u → (∀ j, j < ops.size → fact φ j (g j) u) → Q .normal (puts g 0 ops.toList a0) u) :
    ∀ (n : Nat) (seen : Array Bool) (a : Act) (u : World), Inv R ops φ a0 w0 seen a u → left ops seen = n → wpAny P .any ops Q n seen a u := by
  have done : ∀ (seen : Array Bool) (a : Act) (u : World), Inv R ops φ a0 w0 seen a u → (∀ i, i < ops.size → seen.getD i false = true) → Q .normal a u := fun seen a u hI hall => by
    rw [act_is hok hI]
    refine hfin _ _ hI.ext fun j hj => ?_
    have hoj : ops[j]? = some ops[j] := Array.getElem?_eq_getElem hj
    simp only [held, hoj]
    exact hI.facts j _ hoj (hall j hj)
  intro n
  induction n with
  | zero =>
    intro seen a u hI hl
    have hall : ∀ i, i < ops.size → seen.getD i false = true := fun i hi => by
      have := List.countP_eq_zero.1 hl i (List.mem_range.2 hi)
      simpa using this
    refine ⟨?_, done seen a u hI hall⟩
    refine List.eq_nil_iff_forall_not_mem.2 fun i hi => ?_
    obtain ⟨hun, oi, hio, _⟩ := mem_ready.1 hi
    have hlt := (Array.getElem?_eq_some_iff.1 hio).1
    rw [getD_both seen (by rw [hI.size]; exact hlt), hall i hlt] at hun
    cases hun
  | succ n ih =>
    intro seen a u hI hl
    refine ⟨fun hr => done seen a u hI (all_seen hok hI hr), fun i hi => ?_⟩
    refine wpOp_mono (fun b u' hb => ih _ b u' hb ?_) (flow_step (m := ops.size) hok hsel hmono (fun f => by rw [List.take_of_length_le (by simp)]; exact hobl f) hI (Array.getElem?_eq_some_iff.1 (mem_ready.1 hi).2.choose_spec.1).1 hi)
    obtain ⟨hun, oi, hio, _⟩ := mem_ready.1 hi
    have hlt := (Array.getElem?_eq_some_iff.1 hio).1
    rw [getD_both seen (by rw [hI.size]; exact hlt)] at hun
    have := left_next hI.size hlt hun
    omega

/-- A region that draws its order, by facts. -/
theorem flow {id : Nat} {w : World} (hm : P.follows .mixedOrders = true) (φ : List (Value → World → Prop)) (hok : flowOk ops a0.tmps.size = true) (hsel : Region.noSelect ops = true) (hmono : ∀ p ∈ φ, Mono R p)
    (hobl : ∀ f, Obls R P ops φ w.drew f 0 ops.toList a0)
    (hfin : ∀ (g : Nat → Value) u, R.r w.drew u → (∀ j, j < ops.size → fact φ j (g j) u) → Q .normal (puts g 0 ops.toList a0) u) : (Code.region id ops true).wp P Q a0 w := by
  refine wp_region_any hm (flow_any hok hsel hmono hobl hfin _ _ _ _ ⟨R.refl _, by simp, rfl, rfl, fun _ _ => rfl, fun j oj hj hs => ?_, fun j oj hj hs => ?_⟩ ?_)
  · have hlt := (Array.getElem?_eq_some_iff.1 hj).1
    simp [Array.getD, hlt] at hs
  · have hlt := (Array.getElem?_eq_some_iff.1 hj).1
    simp [Array.getD, hlt] at hs
  · unfold left
    rw [List.countP_eq_length.2]
    · simp
    · intro i hi
      have hlt := List.mem_range.1 hi
      simp [Array.getD, hlt]

end
end Go.Proofs.YtepaaffebhinlaaDoor.Fr

/- Bytes written as a constant are marked: a relation of worlds that lets marks be; From, told so that its answer stays good under marks. -/
namespace Go.Proofs.YtepaaffebhinlaaDoor
open Go.ChangeShapes Go.WideShapes Go.ChangeAt Go.RowKit Go.Shelf

theorem freeze_chg (w : World) (g k : Nat) : Chg (fun i => i = g) w (w.freeze ⟨g, k, none⟩ 1) := by
  unfold World.freeze
  rw [if_neg (by decide)]
  exact ⟨rfl, rfl, rfl, by simp, fun i _ hne => by simp [Array.getElem?_modify, Ne.symm hne]⟩
theorem freeze_at {w : World} {g k : Nat} {C : Array Value} {t : TypeId} {fz : Nat × Nat} (h : w.heap[g]? = some (.cells C t fz)) : ∃ fz', (w.freeze ⟨g, k, none⟩ 1).heap[g]? = some (.cells C t fz') := by
  unfold World.freeze
  rw [if_neg (by decide)]
  exact ⟨_, by simp [Array.getElem?_modify, h]; rfl⟩
/-- Bytes that are written as a constant, wherever their block lies. -/
theorem conv_const {w : World} {g n c : Nat} {C : Array Value} {fz : Nat × Nat} (h : w.heap[g]? = some (.cells C 5 fz)) :
    (convert 25 25 (.slice (some ⟨g, 0, none⟩) n c)).run Tryd.prog w = .ok (.slice (some ⟨g, 0, none⟩) n c) (w.freeze ⟨g, C.size, none⟩ 1) := by
  have hsh : w.shape? g = some (5, C.size) := by unfold World.shape?; rw [h]
  simp [convert, run_underlying Tryd.underlying25, run_underlying Tryd.underlying5, markStringish, hsh]

/-- Nothing but marks of bytes from block B on is other. -/
def MarkR (B : Nat) : Fr.Rel where
  r u u' := u'.os = u.os ∧ u'.tape = u.tape ∧ u'.output = u.output ∧ u.heap.size ≤ u'.heap.size ∧ ∀ k, k < u.heap.size → u'.heap[k]? = u.heap[k]? ∨ (B ≤ k ∧ ∃ c fz fz', u.heap[k]? = some (.cells c 5 fz) ∧ u'.heap[k]? = some (.cells c 5 fz'))
  refl w := ⟨rfl, rfl, rfl, Nat.le_refl _, fun _ _ => .inl rfl⟩
  trans := by
    rintro a b c ⟨h1, h2, h3, h4, h5⟩ ⟨k1, k2, k3, k4, k5⟩
    refine ⟨k1.trans h1, k2.trans h2, k3.trans h3, Nat.le_trans h4 k4, fun k hk => ?_⟩
    rcases h5 k hk with h | ⟨hB, x, f, f', hx, hx'⟩
    · rcases k5 k (Nat.lt_of_lt_of_le hk h4) with h' | ⟨hB, x, f, f', hx, hx'⟩
      · exact .inl (h'.trans h)
      · exact .inr ⟨hB, x, f, f', h ▸ hx, hx'⟩
    · rcases k5 k (Nat.lt_of_lt_of_le hk h4) with h' | ⟨_, y, e, e', hy, hy'⟩
      · exact .inr ⟨hB, x, f, f', hx, h'.trans hx'⟩
      · rw [hx'] at hy
        injection hy with hy
        injection hy with q1 _ _
        subst q1
        exact .inr ⟨hB, x, f, e', hx, hy'⟩
section
variable {B : Nat} {u u' : World}
theorem mark_ext (h : Ext u u') : (MarkR B).r u u' := ⟨h.os, h.tape, h.output, h.size, fun k hk => .inl (h.block k hk)⟩
theorem mark_freeze {g k : Nat} {C : Array Value} {fz : Nat × Nat} (hg : u.heap[g]? = some (.cells C 5 fz)) (hB : B ≤ g) : (MarkR B).r u (u.freeze ⟨g, k, none⟩ 1) := by
  have hc := freeze_chg u g k
  refine ⟨hc.os, hc.tape, hc.output, hc.size, fun i hi => ?_⟩
  by_cases h : i = g
  · subst h
    obtain ⟨fz', h'⟩ := freeze_at (k := k) hg
    exact .inr ⟨hB, C, fz, fz', hg, h'⟩
  · exact .inl (hc.block i hi h)
theorem mark_heap {o : Obj} {k : Nat} (h : (MarkR B).r u u') (hk : u.heap[k]? = some o) (hn : k < B ∨ ∀ c fz, o ≠ .cells c 5 fz) : u'.heap[k]? = some o := by
  rcases h.2.2.2.2 k (Array.getElem?_eq_some_iff.1 hk).1 with h' | ⟨hB, x, f, f', hx, hx'⟩
  · exact h'.trans hk
  · rcases hn with hn | hn
    · omega
    · rw [hk] at hx; injection hx with hx; exact absurd hx (hn _ _)
theorem mark_cell {p : Addr} {v : Value} (h : (MarkR B).r u u') (hc : u.cell? p = some v) : u'.cell? p = some v := by
  rcases h.2.2.2.2 p.block (World.block_lt_of_cell? _ _ hc) with h' | ⟨hB, x, f, f', hx, hx'⟩
  · exact (World.cell?_of_block h').trans hc
  · unfold World.cell? at hc ⊢
    rw [hx] at hc
    rw [hx']
    exact hc
theorem mark_chg (h : (MarkR B).r u u') : Chg (fun i => B ≤ i) u u' := ⟨h.1, h.2.1, h.2.2.1, h.2.2.2.1, fun k hk hn => by
  rcases h.2.2.2.2 k hk with h' | ⟨hB, _⟩
  · exact h'
  · exact absurd hB hn⟩
theorem mark_bs {lo hi : Nat} {v : Value} {l : List Nat} (h : (MarkR B).r u u') (hb : Bs u lo hi v l) : Bs u' lo hi v l := by
  obtain ⟨A, c, e, h1, h2, h3, h4⟩ := hb
  refine ⟨A, c, e, h1, h2, h3, ?_⟩
  rcases h4 with h4 | ⟨b, o, e, h5, h6, h7⟩
  · exact .inl h4
  · exact .inr ⟨b, o, e, h5, h6, fun i x hx => mark_cell h (h7 i x hx)⟩
theorem mark_em {lo hi : Nat} {e : Ent} {g : Hd} (h : (MarkR B).r u u') (m : Em u lo hi e g) : Em u' lo hi e g := ⟨mark_bs h m.k, mark_bs h m.v, m.bk, m.bv, m.s1, m.s2, m.d1, m.d2⟩
end

/-- What stands behind From's answer. -/
structure FromRaw (w : World) (lb : Nat) (key : List Nat) (v : Value) : Prop where
  ex : ∃ bd b0 p kc lo hi : Nat, ∃ kA : Option Addr, v = .func (.func 53) #[] #[.pointer (some ⟨bd, 0, none⟩)] ∧
    w.heap[bd]? = some (.cells #[.func (.func 52) #[] #[.pointer (some ⟨b0, 0, none⟩), .pointer (some ⟨b0 + 1, 0, none⟩), .pointer (some ⟨b0 + 2, 0, none⟩)]] 44 (0, 0)) ∧
    w.heap[b0]? = some (.cells #[.pointer (some ⟨lb, 0, none⟩)] 29 (0, 0)) ∧ w.heap[b0 + 1]? = some (.cells #[.int .i64 0] 3 (0, 0)) ∧ w.heap[b0 + 2]? = some (.cells #[.func (.func 45) #[] #[.pointer (some ⟨p, 0, none⟩)]] 64 (0, 0)) ∧
    w.heap[p]? = some (.cells #[.slice kA key.length kc] 25 (0, 0)) ∧ Bs w lo hi (.slice kA key.length kc) key ∧ hi ≤ w.heap.size
theorem FromRaw.mark {B lb : Nat} {w w' : World} {key : List Nat} {v : Value} (h : FromRaw w lb key v) (k : (MarkR B).r w w') : FromRaw w' lb key v := by
  obtain ⟨bd, b0, p, kc, lo, hi, kA, h1, h2, h3, h4, h5, h6, h7, h8⟩ := h.ex
  have ne : ∀ {c : Array Value} {t : TypeId}, t ≠ 5 → ∀ c' fz, Obj.cells c t (0, 0) ≠ .cells c' 5 fz := fun ht c' fz e => by injection e with _ e _; exact ht e
  exact ⟨bd, b0, p, kc, lo, hi, kA, h1, mark_heap k h2 (.inr (ne (by decide))), mark_heap k h3 (.inr (ne (by decide))), mark_heap k h4 (.inr (ne (by decide))), mark_heap k h5 (.inr (ne (by decide))), mark_heap k h6 (.inr (ne (by decide))), mark_bs k h7, Nat.le_trans h8 k.2.2.2.1⟩
theorem FromRaw.iter {lb hb : Nat} {w : World} {D : Nat → Prop} {T : List Tw} {key : List Nat} {v : Value} (h : FromRaw w lb key v) (hs : Sk w D lb hb T) (bk : ∀ x ∈ key, x < 256) :
    ∃ bd, v = .func (.func 53) #[] #[.pointer (some ⟨bd, 0, none⟩)] ∧ Iter Tryd.prog 53 #[.pointer (some ⟨bd, 0, none⟩)] (rowOf T (belowK key) 0).length rowV (CopOk (rowOf T (belowK key) 0)) (fun A => Below w.heap.size w A) w := by
  obtain ⟨bd, b0, p, kc, lo, hi, kA, h1, h2, h3, h4, h5, h6, h7, h8⟩ := h.ex
  refine ⟨bd, h1, Iter.promise (copies_iter (row_iter (n := 0) hs (from1_fn h7 h8 bk h6) (hs.asc.belowK key) (by decide) (cell_of h3 rfl) (cell_of h4 rfl) (cell_of h5 rfl)) enters_row1 (Nat.le_refl _) (rowOf_ins hs.ins _ _) (cell_of h2 rfl)) fun A hA k _ hlt => hA.block k hlt⟩

set_option maxHeartbeats 2000000 in
theorem sfrom_raw {w : World} {D : Nat → Prop} {lb hb lo hi : Nat} {v : Value} {T : List Tw} {key : List Nat} (_h : Sk w D lb hb T) (hk : Bs w lo hi v key) (hhi : hi ≤ w.heap.size) (hl : key.length ≤ 1099511627776) :
    Calls Tryd.prog 23 #[.pointer (some ⟨lb, 0, none⟩), v] w fun e w' => Ext w w' ∧ ∃ x, e = .returned x ∧ FromRaw w' lb key x := by
  have HCL := Lib.hid (clone_any v lo hi key w hk hhi hl)
  clear _h hk hhi hl
  go_enter Tryd.func23, Tryd.ntmps23
  go_wp2_with fail
  refine Calls.mono HCL.out ?_
  rintro e w1 ⟨v1, rfl, hown, hb1⟩
  obtain ⟨kA, kc, rfl⟩ := Own.slice (B := w.heap.size) (l := key) hown
  have HX1 : Hid (Ext w w1) := hb1
  have HB1 := Lib.hid (Own.bs (B := w.heap.size) (l := key) hown)
  clear hown hb1
  go_wp2_with fail
  obtain ⟨w2, hw2⟩ : ∃ w2, w2 = w1.alloc (.cells #[.slice kA key.length kc] 25) := ⟨_, rfl⟩
  rw [← hw2]
  have HX2 : Hid (Ext w1 w2) := by rw [hw2]; exact ext_alloc _ _
  have HP2 : Hid (w2.heap[w1.heap.size]? = some (.cells #[.slice kA key.length kc] 25 (0, 0))) := by rw [hw2]; exact heap_at _ _ rfl
  clear hw2
  refine Calls.mono (srow_any _ _ _ _ _) ?_
  rintro e w5 ⟨rfl, hw5⟩
  have hx := row3 w2 (.pointer (some ⟨lb, 0, none⟩)) (.int .i64 0) (.func (.func 45) #[] #[.pointer (some ⟨w1.heap.size, 0, none⟩)]) 29 3 64
  rw [← hw5] at hx
  have HX5 := Lib.hid hx
  have h0 : w5.heap[w2.heap.size]? = some (.cells #[.pointer (some ⟨lb, 0, none⟩)] 29 (0, 0)) := by rw [hw5]; exact ext_heap (Ext.trans (ext_alloc _ _) (ext_alloc _ _)) (heap_at _ _ rfl)
  have h1 : w5.heap[w2.heap.size + 1]? = some (.cells #[.int .i64 0] 3 (0, 0)) := by rw [hw5]; exact ext_heap (ext_alloc _ _) (heap_at _ _ (by simp))
  have h2 : w5.heap[w2.heap.size + 2]? = some (.cells #[.func (.func 45) #[] #[.pointer (some ⟨w1.heap.size, 0, none⟩)]] 64 (0, 0)) := by rw [hw5]; exact heap_at _ _ (by simp)
  have H0 := Lib.hid h0
  have H1 := Lib.hid h1
  have H2 := Lib.hid h2
  clear hw5 hx h0 h1 h2
  go_wp2_with fail
  refine Calls.mono (scopies_any _ _ _) ?_
  rintro e w6 ⟨rfl, hw6⟩
  have HX6 : Hid (Ext w5 w6) := by rw [hw6]; exact ext_alloc _ _
  have HD6 : Hid (w6.heap[w5.heap.size]? = some (.cells #[.func (.func 52) #[] #[.pointer (some ⟨w2.heap.size, 0, none⟩), .pointer (some ⟨w2.heap.size + 1, 0, none⟩), .pointer (some ⟨w2.heap.size + 2, 0, none⟩)]] 44 (0, 0))) := by rw [hw6]; exact heap_at _ _ rfl
  clear hw6
  go_wp2_with fail
  go_ret
  have hx16 := Ext.trans (Ext.trans HX2.out HX5.out) HX6.out
  exact ⟨Ext.trans HX1.out hx16, _, rfl, w5.heap.size, w2.heap.size, w1.heap.size, kc, 0, w1.heap.size, kA, rfl, HD6.out, ext_heap HX6.out H0.out, ext_heap HX6.out H1.out, ext_heap HX6.out H2.out, ext_heap (Ext.trans HX5.out HX6.out) HP2.out, HB1.out.below hx16 (Nat.le_refl _), hx16.size⟩
end Go.Proofs.YtepaaffebhinlaaDoor

/- The chapter's rows, which every law of layer 6 asks. -/
namespace Go.Proofs.YtepaaffebhinlaaDoor
open Go.ChangeShapes Go.WideShapes Go.ChangeAt Go.RowKit Go.Shelf Go.Lib Go.Joins

theorem bs_mark (w : World) (l : List Nat) (hl : l.length ≤ 100) (fr : Nat × Nat) : Bs (w.alloc (.cells (bv l).toArray 5 fr)) w.heap.size (w.heap.size + 1) (.slice (some ⟨w.heap.size, 0, none⟩) l.length l.length) l := by
  refine ⟨_, _, rfl, Nat.le_refl _, by simp [maxLen]; omega, (fun h => by cases h), .inr ⟨w.heap.size, 0, rfl, Nat.le_refl _, Nat.lt_succ_self _, fun i u hu => ?_⟩⟩
  rw [cell_alloc_mark_at _ _ _ _ _ _ rfl, Nat.zero_add]
  simpa using hu
theorem bl_bs {u : World} {b : Nat} {l : List Nat} {fz : Nat × Nat} (hl : l.length ≤ 100) (h : u.heap[b]? = some (.cells (bv l).toArray 5 fz)) : Bs u 0 u.heap.size (.slice (some ⟨b, 0, none⟩) l.length l.length) l := by
  refine ⟨_, _, rfl, Nat.le_refl _, by simp [maxLen]; omega, (fun h => by cases h), .inr ⟨b, 0, rfl, Nat.zero_le _, (Array.getElem?_eq_some_iff.1 h).1, fun i x hx => ?_⟩⟩
  rw [Nat.zero_add]
  unfold World.cell?
  rw [h]
  simpa using hx
theorem lit_any {e : Ent} {k : List Nat} {kb : ByteArray} {s : Int} (he : e = ⟨k, s, 1, []⟩) (hkb : kb = tx k) (hk : ∀ x ∈ k, x < 256) (hkl : k.length ≤ 1000) (h1 : 0 ≤ s) (h2 : s ≤ 1000) (w : World) :
    Calls Tryd.prog 15 #[.string kb, .int .i64 s] w (LitAns w e) := by
  subst he hkb
  exact lput_any k s hk hkl (by omega) (by omega) w
theorem one_es {u : World} {b : Nat} {e : Ent} {g : Hd} (h : u.heap[b]? = some (.cells (ecells (e, g)).toArray 28 (0, 0))) (hm : Em u 0 u.heap.size e g) : Es u 0 u.heap.size (some ⟨b, 0, none⟩) [(e, g)] := by
  refine ⟨.inr ⟨b, 0, rfl, Nat.zero_le _, (Array.getElem?_eq_some_iff.1 h).1, fun i x hx => ?_⟩, fun p hp => by rw [List.mem_singleton] at hp; subst hp; exact hm⟩
  rw [Nat.zero_add]
  exact cell_of h (by simpa [erow] using hx)

/-- Facts of known's last region. -/
def LitF (e : Ent) (v : Value) (u : World) : Prop := ∃ g : Hd, v = e.at_ g ∧ Em u 0 u.heap.size e g
def BlF (B : Nat) (l : List Nat) (v : Value) (u : World) : Prop := ∃ (b : Nat) (fz : Nat × Nat), v = .slice (some ⟨b, 0, none⟩) l.length l.length ∧ B ≤ b ∧ u.heap[b]? = some (.cells (bv l).toArray 5 fz)
def FromF (_B lb : Nat) (key : List Nat) (v : Value) (u : World) : Prop := FromRaw u lb key v
def OneF (e : Ent) (v : Value) (u : World) : Prop := ∃ (g : Hd) (b : Nat), v = .slice (some ⟨b, 0, none⟩) 1 1 ∧ u.heap[b]? = some (.cells (ecells (e, g)).toArray 28 (0, 0)) ∧ Em u 0 u.heap.size e g
theorem Fr.Mono.lit (B : Nat) (e : Ent) : Fr.Mono (MarkR B) (LitF e) := fun _ _ _ ⟨g, h, m⟩ hu => ⟨g, h, (mark_em hu m).wide (Nat.le_refl _) hu.2.2.2.1⟩
theorem Fr.Mono.bl (C B : Nat) (l : List Nat) : Fr.Mono (MarkR C) (BlF B l) := fun _ u u' ⟨b, fz, h, hB, hb⟩ hu => by
  rcases hu.2.2.2.2 b (Array.getElem?_eq_some_iff.1 hb).1 with h' | ⟨_, x, f, f', hx, hx'⟩
  · exact ⟨b, fz, h, hB, h'.trans hb⟩
  · rw [hb] at hx
    injection hx with hx
    injection hx with q1 _ _
    subst q1
    exact ⟨b, f', h, hB, hx'⟩
theorem Fr.Mono.from_ (C B : Nat) (lb : Nat) {key : List Nat} : Fr.Mono (MarkR C) (FromF B lb key) := fun _ _ _ h hu => FromRaw.mark h hu
theorem Fr.Mono.one (B : Nat) (e : Ent) : Fr.Mono (MarkR B) (OneF e) := fun _ _ _ ⟨g, b, h, hb, m⟩ hu => ⟨g, b, h, mark_heap hu hb (.inr fun _ _ e => by injection e with _ e _; exact absurd e (by decide)), (mark_em hu m).wide (Nat.le_refl _) hu.2.2.2.1⟩

/-- A list whose blocks lie from B on. -/
def SkB (B : Nat) (w : World) (lb hb : Nat) (T : List Tw) : Prop := Sk w (fun k => B ≤ k ∧ k < w.heap.size) lb hb T
theorem SkB.of {B : Nat} {w : World} {D : Nat → Prop} {lb hb : Nat} {T : List Tw} (h : Sk w D lb hb T) (hD : ∀ k, k < w.heap.size → D k → B ≤ k) : SkB B w lb hb T := Sk.wide h fun k hk hd => ⟨hD k hk hd, hk⟩
theorem SkB.ext {B : Nat} {w w' : World} {lb hb : Nat} {T : List Tw} (h : SkB B w lb hb T) (hx : Ext w w') : SkB B w' lb hb T := SkB.of (Sk.ext h hx) fun _ _ hd => hd.1
theorem Tab.below {B : Nat} {w w' : World} (h : Tab w) (hb : Below B w w') (hB : 0 < B) : Tab w' := fun j hj => (hb.cell hB).trans (h j hj)
theorem Tab.lt {w : World} (h : Tab w) : 0 < w.heap.size := World.block_lt_of_cell? _ _ (h 0 (by decide))
theorem put_step {B lb hb : Nat} {w w2 : World} {T : List Tw} {x : Ent} {g : Hd} (h : SkB B w lb hb T) (hx : Ext w w2) (hm : Em w2 w.heap.size w2.heap.size x g) (hT : Tab w) (hB : 0 < B) (hfew : T.length ≤ 1000000) (hk : x.key.length ≤ 1099511627776) (hv : x.val.length ≤ 1099511627776) :
    Calls Tryd.prog 14 #[.pointer (some ⟨lb, 0, none⟩), x.at_ g] w2 fun e w3 => ∃ (T' : List Tw) (c : Int), putE (T.map Tw.e) x = (T'.map Tw.e, c) ∧ e = .returned (.int .i64 c) ∧ SkB B w3 lb hb T' ∧ Tab w3 ∧ Below B w2 w3 ∧ Chg (Sks (fun k => B ≤ k ∧ k < w.heap.size) w2) w2 w3 := by
  have hBw : B ≤ w.heap.size := Nat.le_of_lt (Nat.lt_of_le_of_lt h.lowl.1 h.lowl.2)
  refine (sput_any (Sk.ext h hx) hm (Nat.le_refl _) (fun k hd => .inl hd.2) (hT.ext hx) (fun hd => by have := hd.1; omega) hfew hk hv).mono ?_
  rintro e w3 ⟨T', c, h1, h2, h3, h4⟩
  have hb : Below B w2 w3 := h4.below (fun k hs => hs.1.1) (Nat.le_trans hBw hx.size)
  refine ⟨T', c, h1, h2, SkB.of h3 fun k _ hd => ?_, (hT.ext hx).below hb hB, hb, h4⟩
  rcases hd with hd | hd
  · exact hd.1
  · exact Nat.le_trans hBw (Nat.le_trans hx.size hd)
theorem below_mono {B B' : Nat} {w w' : World} (h : Below B w w') (hB : B' ≤ B) : Below B' w w' := ⟨h.os, h.tape, h.output, h.size, fun i hi => h.block i (by omega)⟩
theorem rowOf_map {w : World} {D : Nat → Prop} {lb hb : Nat} {T : List Tw} (h : Sk w D lb hb T) (q : Ent → Bool) : (rowOf T q 0).map Tw.e = (T.map Tw.e).drop (cutOf q (T.map Tw.e)) := by
  unfold rowOf
  rw [List.filter_eq_self.2, List.map_drop]
  intro t ht
  have h1 := h.hts t (List.mem_of_mem_drop ht)
  have h2 := hgt_le t.e.key t.e.seq
  simp only [decide_eq_true_eq]
  omega

def kA5 : Ent := ⟨[97], 5, 1, []⟩
def kA7 : Ent := ⟨[97], 7, 1, []⟩
def kB1 : Ent := ⟨[98], 1, 1, []⟩
theorem kput1 : putE [] kA5 = ([kA5], 0) := rfl
theorem kput2 : putE [kA5] kA7 = ([kA7, kA5], 0) := rfl
theorem kput3 : putE [kA7, kA5] kA5 = ([kA7, kA5], 7) := rfl
theorem kput4 : putE [kA7, kA5] kB1 = ([kA7, kA5, kB1], 0) := rfl
theorem kget1 : getE [kA7, kA5] [97] 6 = some kA5 := rfl
theorem kget2 : getE [kA7, kA5] [97] 4 = none := rfl
theorem kbytes : bytesE [kA7, kA5, kB1] = 15 := by simp [bytesE, Ent.form, kA7, kA5, kB1, bytesForm, form_lo]
theorem hgt_a5 : hgt [97] 5 = 1 := by decide +kernel
theorem hgt_n1 : hgt [] 1 = 1 := by decide +kernel

set_option maxRecDepth 100000 in
set_option maxHeartbeats 8000000 in
theorem known_any {w : World} (hT : Tab w) : Calls Tryd.prog 5 #[] w fun e w' => e = .returned (.bool true) ∧ Below w.heap.size w w' := by
  have hB := hT.lt
  have HB := Lib.hid hB
  have HT := Lib.hid hT
  clear hB hT
  go_enter Tryd.func5, Tryd.ntmps5
  go_wp2_with fail
  refine Calls.mono (new_any w) ?_
  rintro e w1 ⟨rfl, hs1, hx1⟩
  have HS1 : Hid (SkB w.heap.size w1 (w.heap.size + 1) w.heap.size []) := SkB.of hs1 fun k _ hd => hd
  have HX1 : Hid (Ext w w1) := hx1
  have HT1 := Lib.hid (HT.out.ext hx1)
  clear hs1 hx1
  go_wp2_with fail
  refine Calls.mono (lit_any (e := kA5) (k := [97]) rfl rfl (by decide) (by decide) (by decide) (by decide) w1) ?_
  rintro e w2 ⟨hx2, g1, rfl, hm⟩
  have HP := Lib.hid (put_step HS1.out hx2 hm HT1.out HB.out (by simp) (by simp [kA5]) (by simp [kA5]))
  have HX2 := Lib.hid hx2
  clear hx2 hm
  go_wp2_with fail
  refine Calls.mono HP.out ?_
  rintro e w3 ⟨T3, c3, hp3, rfl, hs3, ht3, hb3, _⟩
  obtain ⟨rfl, hT3⟩ : c3 = 0 ∧ T3.map Tw.e = [kA5] := by
    have := kput1.symm.trans hp3; injection this with h1 h2; exact ⟨h2.symm, h1.symm⟩
  have HS3 := Lib.hid hs3
  have HT3 := Lib.hid ht3
  have HM3 := Lib.hid hT3
  have HBW3 : Hid (Below w.heap.size w w3) := (show Below w.heap.size w w2 from Ext.trans HX1.out HX2.out).trans hb3
  clear hp3 hs3 ht3 hb3 hT3 HP HS1 HT1 HX1 HX2
  go_wp2_with fail
  refine Calls.mono (lit_any (e := kA7) (k := [97]) rfl rfl (by decide) (by decide) (by decide) (by decide) w3) ?_
  rintro e w4 ⟨hx2, g2, rfl, hm⟩
  have hl3 : T3.length = 1 := by have := congrArg List.length HM3.out; simpa using this
  have HP := Lib.hid (put_step HS3.out hx2 hm HT3.out HB.out (by omega) (by simp [kA7]) (by simp [kA7]))
  have HX2 := Lib.hid hx2
  clear hx2 hm hl3
  go_wp2_with fail
  refine Calls.mono HP.out ?_
  rintro e w5 ⟨T5, c5, hp5, rfl, hs5, ht5, hb5, _⟩
  rw [HM3.out] at hp5
  obtain ⟨rfl, hT5⟩ : c5 = 0 ∧ T5.map Tw.e = [kA7, kA5] := by
    have := kput2.symm.trans hp5; injection this with h1 h2; exact ⟨h2.symm, h1.symm⟩
  have HS5 := Lib.hid hs5
  have HT5 := Lib.hid ht5
  have HM5 := Lib.hid hT5
  have HBW5 : Hid (Below w.heap.size w w5) := (HBW3.out.trans (below_mono HX2.out HBW3.out.size)).trans hb5
  clear hp5 hs5 ht5 hb5 hT5 HP HS3 HT3 HM3 HX2 HBW3
  go_wp2_with fail
  refine Calls.mono (lit_any (e := kA5) (k := [97]) rfl rfl (by decide) (by decide) (by decide) (by decide) w5) ?_
  rintro e w6 ⟨hx2, g3, rfl, hm⟩
  have hl5 : T5.length = 2 := by have := congrArg List.length HM5.out; simpa using this
  have HP := Lib.hid (put_step HS5.out hx2 hm HT5.out HB.out (by omega) (by simp [kA5]) (by simp [kA5]))
  have HX2 := Lib.hid hx2
  clear hx2 hm hl5
  go_wp2_with fail
  refine Calls.mono HP.out ?_
  rintro e w7 ⟨T7, c7, hp7, rfl, hs7, ht7, hb7, _⟩
  rw [HM5.out] at hp7
  obtain ⟨rfl, hT7⟩ : c7 = 7 ∧ T7.map Tw.e = [kA7, kA5] := by
    have := kput3.symm.trans hp7; injection this with h1 h2; exact ⟨h2.symm, h1.symm⟩
  have HS7 := Lib.hid hs7
  have HT7 := Lib.hid ht7
  have HM7 := Lib.hid hT7
  have HBW7 : Hid (Below w.heap.size w w7) := (HBW5.out.trans (below_mono HX2.out HBW5.out.size)).trans hb7
  clear hp7 hs7 ht7 hb7 hT7 HP HS5 HT5 HM5 HX2 HBW5
  have cv1 : (convert 25 25 (.slice (some ⟨w7.heap.size, 0, none⟩) 1 1)).run Tryd.prog (w7.alloc (.cells #[.int .u8 97] 5)) = .ok (.slice (some ⟨w7.heap.size, 0, none⟩) 1 1) (w7.alloc (.cells #[.int .u8 97] 5 (1, 2))) := run_convert_bytes_const_at _ _ _ _ _ _ _ (rfl) Tryd.underlying25 Tryd.underlying5
  have hx8 := ext_alloc w7 (.cells #[.int .u8 97] 5 (1, 2))
  have HG := Lib.hid (sget_any (s := 6) (HS7.out.ext hx8) (bs_mark w7 [97] (by simp) (1, 2)) (by simp) (by decide) (by decide) (by decide))
  rw [HM7.out, kget1] at HG
  clear hx8
  go_wp2_with fail
  refine Calls.mono HG.out ?_
  rintro e w9 ⟨hx9, gd, rfl, hok, hov⟩
  have HX9 : Hid (Ext w7 w9) := Ext.trans (ext_alloc _ _) hx9
  have HOK9 := Lib.hid (Own.base (B' := 0) hok (Nat.zero_le _))
  have HOV9 := Lib.hid (Own.base (B' := 0) hov (Nat.zero_le _))
  clear hx9 hok hov cv1 HG
  unfold Ent.at_
  go_upto_region 6 with (fail)
  obtain ⟨w10, hw10⟩ : ∃ w10, w10 = w9.alloc (.cells #[.slice gd.kA kA5.key.length gd.kc, .int .i64 kA5.seq, .int .i64 kA5.kind, .slice gd.vA kA5.val.length gd.vc] 28) := ⟨_, rfl⟩
  rw [← hw10]
  have HX10 : Hid (Ext w7 w10) := by rw [hw10]; exact Ext.trans HX9.out (ext_alloc _ _)
  have HD10 : Hid (w10.heap[w9.heap.size]? = some (.cells #[.slice gd.kA kA5.key.length gd.kc, .int .i64 kA5.seq, .int .i64 kA5.kind, .slice gd.vA kA5.val.length gd.vc] 28 (0, 0))) := by rw [hw10]; exact heap_at _ _ rfl
  have HX910 : Hid (Ext w9 w10) := by rw [hw10]; exact ext_alloc _ _
  clear hw10
  have cv1 : (convert 25 25 (.slice (some ⟨w10.heap.size, 0, none⟩) 1 1)).run Tryd.prog (w10.alloc (.cells #[.int .u8 97] 5)) = .ok (.slice (some ⟨w10.heap.size, 0, none⟩) 1 1) (w10.alloc (.cells #[.int .u8 97] 5 (1, 2))) := run_convert_bytes_const_at _ _ _ _ _ _ _ (rfl) Tryd.underlying25 Tryd.underlying5
  have hx8 := Ext.trans HX10.out (ext_alloc w10 (.cells #[.int .u8 97] 5 (1, 2)))
  have HG := Lib.hid (sget_any (s := 4) (HS7.out.ext hx8) (bs_mark w10 [97] (by simp) (1, 2)) (by simp) (by decide) (by decide) (by decide))
  rw [HM7.out, kget2] at HG
  clear hx8
  go_wp2_with fail
  refine Calls.mono HG.out ?_
  rintro e w11 ⟨hx9, rfl⟩
  have HX11 : Hid (Ext w10 w11) := Ext.trans (ext_alloc _ _) hx9
  clear hx9 cv1 HG
  unfold Ent.at_
  go_upto_region 7 with (fail)
  obtain ⟨w12, hw12⟩ : ∃ w12, w12 = w11.alloc (.cells #[.slice none zeroE.key.length 0, .int .i64 zeroE.seq, .int .i64 zeroE.kind, .slice none zeroE.val.length 0] 28) := ⟨_, rfl⟩
  rw [← hw12]
  have HX12 : Hid (Ext w10 w12) := by rw [hw12]; exact Ext.trans HX11.out (ext_alloc _ _)
  clear hw12
  have HX72 : Hid (Ext w7 w12) := Ext.trans HX10.out HX12.out
  have HS12 := Lib.hid (HS7.out.ext HX72.out)
  have HT12 := Lib.hid (HT7.out.ext HX72.out)
  have HBW12 : Hid (Below w.heap.size w w12) := HBW7.out.trans (below_mono HX72.out HBW7.out.size)
  go_wp2_with fail
  refine Calls.mono (lit_any (e := kB1) (k := [98]) rfl rfl (by decide) (by decide) (by decide) (by decide) w12) ?_
  rintro e w13 ⟨hx2, g4, rfl, hm⟩
  have hl7 : T7.length = 2 := by have := congrArg List.length HM7.out; simpa using this
  have HP := Lib.hid (put_step HS12.out hx2 hm HT12.out HB.out (by omega) (by simp [kB1]) (by simp [kB1]))
  have HX13 := Lib.hid hx2
  clear hx2 hm hl7
  go_wp2_with fail
  refine Calls.mono HP.out ?_
  rintro e wz ⟨T, cz, hpz, rfl, hsz, htz, hbz, hcz⟩
  rw [HM7.out] at hpz
  obtain ⟨rfl, hTz⟩ : cz = 0 ∧ T.map Tw.e = [kA7, kA5, kB1] := by
    have := kput4.symm.trans hpz; injection this with h1 h2; exact ⟨h2.symm, h1.symm⟩
  have HSK : Hid (Sk wz (fun k => w.heap.size ≤ k ∧ k < wz.heap.size) (w.heap.size + 1) w.heap.size T) := hsz
  have HTAB := Lib.hid htz
  have HTM := Lib.hid hTz
  have HTL : Hid (T.length = 3) := by have := congrArg List.length hTz; simpa [Hid] using this
  have HTB : Hid (bytesE (T.map Tw.e) = 15) := by unfold Hid; rw [hTz]; exact kbytes
  have HBW : Hid (Below w.heap.size w wz) := (HBW12.out.trans (below_mono HX13.out HBW12.out.size)).trans hbz
  have HWZ : Hid (w.heap.size ≤ wz.heap.size) := HBW.out.size
  obtain ⟨db, hdb⟩ : ∃ db, db = w9.heap.size := ⟨_, rfl⟩
  have hd13 := ext_heap (Ext.trans HX12.out HX13.out) HD10.out
  have hdz : wz.heap[db]? = some (.cells #[.slice gd.kA kA5.key.length gd.kc, .int .i64 kA5.seq, .int .i64 kA5.kind, .slice gd.vA kA5.val.length gd.vc] 28 (0, 0)) := by
    rw [hdb]
    refine (hcz.block _ (Array.getElem?_eq_some_iff.1 hd13).1 (fun hs => ?_)).trans hd13
    obtain ⟨_, c, fz, hc | hc⟩ := hs <;> · rw [hd13] at hc; injection hc with hc; injection hc with _ h2 _; exact absurd h2 (by decide)
  have HMD : Hid (Em wz 0 wz.heap.size kA5 gd) := by
    have hx9z := Ext.trans HX910.out (Ext.trans HX12.out HX13.out)
    exact ((HOK9.out.below hx9z).sks hcz).em ((HOV9.out.below hx9z).sks hcz) (by decide) (by decide) (by decide) (by decide) (by decide) (by decide)
  rw [← hdb]
  have d0 := cell_of (v := .slice gd.kA kA5.key.length gd.kc) hdz (k := 0) rfl
  have d1 := cell_of (v := .int .i64 kA5.seq) hdz (k := 1) rfl
  have d2 := cell_of (v := .int .i64 kA5.kind) hdz (k := 2) rfl
  have d3 := cell_of (v := .slice gd.vA kA5.val.length gd.vc) hdz (k := 3) rfl
  clear hpz hsz htz hbz hTz hdb hd13 hdz hcz HP HS12 HT12 HX72 HX12 HX13 HX11 HX10 HX9 HBW12 HBW7 HS7 HT7 HM7 HD10
  go_upto_region 8 with (fail)
  refine Fr.flow (R := MarkR wz.heap.size) (by kernel_rfl) [Is (.int .i64 0), Is (.int .i64 0), Is (.int .i64 0), Is (.int .i64 0), Is (.int .i64 0), Is (.int .i64 0), Is (.int .i64 0), Is (.int .i64 0), Is (.int .i64 0), Is (.int .i64 0), Is (.int .i64 0), Is (.bool true), Is (.bool true), Is (.int .i64 7), Is (.int .i64 7), Is (.bool true), Is (.bool true), Is (.bool true), Is (.agg #[.slice gd.kA kA5.key.length gd.kc, .int .i64 kA5.seq, .int .i64 kA5.kind, .slice gd.vA kA5.val.length gd.vc]), LitF kA5, Is (.bool true), Is (.bool true), Is (.bool true), Is (.int .i64 6), Is (.int .i64 6), Is (.bool true), Is (.bool true), Is (.bool true), Is (.pointer (some ⟨(w.heap.size + 1), 0, none⟩)), BlF wz.heap.size [97, 0], BlF wz.heap.size [97, 0], FromF wz.heap.size (w.heap.size + 1) [97, 0], LitF kB1, OneF kB1, Is (.bool true), Is (.bool true), Is (.bool true), Is (.pointer (some ⟨(w.heap.size + 1), 0, none⟩)), Is (.int .i64 3), Is (.bool true), Is (.bool true), Is (.bool true), Is (.pointer (some ⟨(w.heap.size + 1), 0, none⟩)), Is (.int .i64 15), Is (.bool true), Is (.bool true), Is (.bool true), BlF wz.heap.size [97], BlF wz.heap.size [97], Is (.int .i64 1), Is (.bool true), Is (.bool true), Is (.bool true), Is (.int .i64 1), Is (.bool true), Is (.bool true), Is (.bool true)] (by kernel_rfl) (by kernel_rfl) ?mono (fun f1 => ?obl) ?fin
  case mono =>
    simp only [List.forall_mem_cons, List.not_mem_nil, false_imp_iff, implies_true, and_true]
    exact ⟨.is _, .is _, .is _, .is _, .is _, .is _, .is _, .is _, .is _, .is _, .is _, .is _, .is _, .is _, .is _, .is _, .is _, .is _, .is _, .lit _ _, .is _, .is _, .is _, .is _, .is _, .is _, .is _, .is _, .is _, .bl _ _ _, .bl _ _ _, .from_ _ _ _, .lit _ _, .one _ _, .is _, .is _, .is _, .is _, .is _, .is _, .is _, .is _, .is _, .is _, .is _, .is _, .is _, .bl _ _ _, .bl _ _ _, .is _, .is _, .is _, .is _, .is _, .is _, .is _, .is _⟩
  case fin =>
    intro g1 u hu hg
    simp only [puts, Act.put, List.setIfInBounds_toArray, List.set_cons_zero, List.set_cons_succ]
    have eL : g1 56 = .bool true := hg 56 (by decide)
    rw [eL]
    have HU := Lib.hid hu
    clear hu hg eL d0 d1 d2 d3
    go_wp2
    go_ret
    exact ⟨rfl, HBW.out.trans (((Chg.drew wz).trans (mark_chg HU.out)).below (fun i hi => Nat.le_trans HWZ.out hi) HWZ.out)⟩
  case obl =>
    refine ⟨fun u hu hd => ?_, ?_⟩
    · go_simp
      exact ⟨(MarkR wz.heap.size).refl _, rfl⟩
    refine ⟨fun u hu hd => ?_, ?_⟩
    · simp only [Act.put, List.setIfInBounds_toArray, List.set_cons_zero, List.set_cons_succ]
      have e0 : f1 0 = .int .i64 0 := hd 0 (by kernel_rfl)
      go_simp
      refine (snum _ _).mono ?_
      rintro x9 w9 ⟨rfl, rfl⟩
      exact ⟨_, rfl, (MarkR wz.heap.size).refl _, rfl⟩
    refine ⟨fun u hu hd => ?_, ?_⟩
    · simp only [Act.put, List.setIfInBounds_toArray, List.set_cons_zero, List.set_cons_succ]
      go_simp
      exact ⟨(MarkR wz.heap.size).refl _, rfl⟩
    refine ⟨fun u hu hd => ?_, ?_⟩
    · simp only [Act.put, List.setIfInBounds_toArray, List.set_cons_zero, List.set_cons_succ]
      have e2 : f1 2 = .int .i64 0 := hd 2 (by kernel_rfl)
      go_simp
      refine (snum _ _).mono ?_
      rintro x9 w9 ⟨rfl, rfl⟩
      exact ⟨_, rfl, (MarkR wz.heap.size).refl _, rfl⟩
    refine ⟨fun u hu hd => ?_, ?_⟩
    · simp only [Act.put, List.setIfInBounds_toArray, List.set_cons_zero, List.set_cons_succ]
      have e1 : f1 1 = .int .i64 0 := hd 1 (by kernel_rfl)
      have e3 : f1 3 = .int .i64 0 := hd 3 (by kernel_rfl)
      go_simp
      exact ⟨(MarkR wz.heap.size).refl _, rfl⟩
    refine ⟨fun u hu hd => ?_, ?_⟩
    · simp only [Act.put, List.setIfInBounds_toArray, List.set_cons_zero, List.set_cons_succ]
      go_simp
      exact ⟨(MarkR wz.heap.size).refl _, rfl⟩
    refine ⟨fun u hu hd => ?_, ?_⟩
    · simp only [Act.put, List.setIfInBounds_toArray, List.set_cons_zero, List.set_cons_succ]
      have e5 : f1 5 = .int .i64 0 := hd 5 (by kernel_rfl)
      go_simp
      refine (snum _ _).mono ?_
      rintro x9 w9 ⟨rfl, rfl⟩
      exact ⟨_, rfl, (MarkR wz.heap.size).refl _, rfl⟩
    refine ⟨fun u hu hd => ?_, ?_⟩
    · simp only [Act.put, List.setIfInBounds_toArray, List.set_cons_zero, List.set_cons_succ]
      have e4 : f1 4 = .int .i64 0 := hd 4 (by kernel_rfl)
      have e6 : f1 6 = .int .i64 0 := hd 6 (by kernel_rfl)
      go_simp
      exact ⟨(MarkR wz.heap.size).refl _, rfl⟩
    refine ⟨fun u hu hd => ?_, ?_⟩
    · simp only [Act.put, List.setIfInBounds_toArray, List.set_cons_zero, List.set_cons_succ]
      go_simp
      exact ⟨(MarkR wz.heap.size).refl _, rfl⟩
    refine ⟨fun u hu hd => ?_, ?_⟩
    · simp only [Act.put, List.setIfInBounds_toArray, List.set_cons_zero, List.set_cons_succ]
      have e8 : f1 8 = .int .i64 0 := hd 8 (by kernel_rfl)
      go_simp
      refine (snum _ _).mono ?_
      rintro x9 w9 ⟨rfl, rfl⟩
      exact ⟨_, rfl, (MarkR wz.heap.size).refl _, rfl⟩
    refine ⟨fun u hu hd => ?_, ?_⟩
    · simp only [Act.put, List.setIfInBounds_toArray, List.set_cons_zero, List.set_cons_succ]
      have e7 : f1 7 = .int .i64 0 := hd 7 (by kernel_rfl)
      have e9 : f1 9 = .int .i64 0 := hd 9 (by kernel_rfl)
      go_simp
      exact ⟨(MarkR wz.heap.size).refl _, rfl⟩
    refine ⟨fun u hu hd => ?_, ?_⟩
    · simp only [Act.put, List.setIfInBounds_toArray, List.set_cons_zero, List.set_cons_succ]
      have e10 : f1 10 = .int .i64 0 := hd 10 (by kernel_rfl)
      go_simp
      exact ⟨(MarkR wz.heap.size).refl _, rfl⟩
    refine ⟨fun u hu hd => ?_, ?_⟩
    · simp only [Act.put, List.setIfInBounds_toArray, List.set_cons_zero, List.set_cons_succ]
      have e11 : f1 11 = .bool true := hd 11 (by kernel_rfl)
      go_simp
      exact ⟨(MarkR wz.heap.size).refl _, rfl⟩
    refine ⟨fun u hu hd => ?_, ?_⟩
    · simp only [Act.put, List.setIfInBounds_toArray, List.set_cons_zero, List.set_cons_succ]
      have e12 : f1 12 = .bool true := hd 12 (by kernel_rfl)
      go_simp
      exact ⟨(MarkR wz.heap.size).refl _, rfl⟩
    refine ⟨fun u hu hd => ?_, ?_⟩
    · simp only [Act.put, List.setIfInBounds_toArray, List.set_cons_zero, List.set_cons_succ]
      have e12 : f1 12 = .bool true := hd 12 (by kernel_rfl)
      have e13 : f1 13 = .int .i64 7 := hd 13 (by kernel_rfl)
      go_simp
      refine (snum _ _).mono ?_
      rintro x9 w9 ⟨rfl, rfl⟩
      exact ⟨_, rfl, (MarkR wz.heap.size).refl _, rfl⟩
    refine ⟨fun u hu hd => ?_, ?_⟩
    · simp only [Act.put, List.setIfInBounds_toArray, List.set_cons_zero, List.set_cons_succ]
      have e12 : f1 12 = .bool true := hd 12 (by kernel_rfl)
      have e14 : f1 14 = .int .i64 7 := hd 14 (by kernel_rfl)
      go_simp
      exact ⟨(MarkR wz.heap.size).refl _, rfl⟩
    refine ⟨fun u hu hd => ?_, ?_⟩
    · simp only [Act.put, List.setIfInBounds_toArray, List.set_cons_zero, List.set_cons_succ]
      have e12 : f1 12 = .bool true := hd 12 (by kernel_rfl)
      have e15 : f1 15 = .bool true := hd 15 (by kernel_rfl)
      go_simp
      exact ⟨(MarkR wz.heap.size).refl _, rfl⟩
    refine ⟨fun u hu hd => ?_, ?_⟩
    · simp only [Act.put, List.setIfInBounds_toArray, List.set_cons_zero, List.set_cons_succ]
      have e16 : f1 16 = .bool true := hd 16 (by kernel_rfl)
      go_simp
      exact ⟨(MarkR wz.heap.size).refl _, rfl⟩
    refine ⟨fun u hu hd => ?_, ?_⟩
    · simp only [Act.put, List.setIfInBounds_toArray, List.set_cons_zero, List.set_cons_succ]
      have e17 : f1 17 = .bool true := hd 17 (by kernel_rfl)
      have hu2 := hu
      have q0 := mark_cell hu2 d0
      have q1 := mark_cell hu2 d1
      have q2 := mark_cell hu2 d2
      have q3 := mark_cell hu2 d3
      go_simp
      exact ⟨(MarkR wz.heap.size).refl _, rfl⟩
    refine ⟨fun u hu hd => ?_, ?_⟩
    · simp only [Act.put, List.setIfInBounds_toArray, List.set_cons_zero, List.set_cons_succ]
      have e17 : f1 17 = .bool true := hd 17 (by kernel_rfl)
      go_simp
      refine (lit_any (e := kA5) (k := [97]) rfl rfl (by decide) (by decide) (by decide) (by decide) _).mono ?_
      rintro x9 w9 ⟨hx9, g9, rfl, hm9⟩
      exact ⟨_, rfl, mark_ext hx9, g9, rfl, hm9.wide (Nat.zero_le _) (Nat.le_refl _)⟩
    refine ⟨fun u hu hd => ?_, ?_⟩
    · simp only [Act.put, List.setIfInBounds_toArray, List.set_cons_zero, List.set_cons_succ]
      have e17 : f1 17 = .bool true := hd 17 (by kernel_rfl)
      have e18 : f1 18 = .agg #[.slice gd.kA kA5.key.length gd.kc, .int .i64 kA5.seq, .int .i64 kA5.kind, .slice gd.vA kA5.val.length gd.vc] := hd 18 (by kernel_rfl)
      obtain ⟨g9, e19, hm9⟩ := (show LitF kA5 (f1 19) u from hd 19 (by kernel_rfl))
      have hm8 : Em u 0 u.heap.size kA5 gd := (mark_em hu (show Em wz.drew 0 wz.heap.size kA5 gd from HMD.out.below (Ext.drew wz) (Nat.le_refl _))).wide (Nat.le_refl _) hu.2.2.2.1
      have HR9 := Lib.hid (rsame_any hm8 hm9 (Nat.le_refl _) (Nat.le_refl _))
      unfold Ent.at_ at e19 HR9
      clear hm8 hm9
      go_simp
      refine HR9.out.mono ?_
      rintro x9 w9 ⟨z, hz, rfl, hx9⟩
      obtain rfl : z = true := hz.2 rfl
      exact ⟨_, rfl, mark_ext hx9, rfl⟩
    refine ⟨fun u hu hd => ?_, ?_⟩
    · simp only [Act.put, List.setIfInBounds_toArray, List.set_cons_zero, List.set_cons_succ]
      have e17 : f1 17 = .bool true := hd 17 (by kernel_rfl)
      have e20 : f1 20 = .bool true := hd 20 (by kernel_rfl)
      go_simp
      exact ⟨(MarkR wz.heap.size).refl _, rfl⟩
    refine ⟨fun u hu hd => ?_, ?_⟩
    · simp only [Act.put, List.setIfInBounds_toArray, List.set_cons_zero, List.set_cons_succ]
      have e21 : f1 21 = .bool true := hd 21 (by kernel_rfl)
      go_simp
      exact ⟨(MarkR wz.heap.size).refl _, rfl⟩
    refine ⟨fun u hu hd => ?_, ?_⟩
    · simp only [Act.put, List.setIfInBounds_toArray, List.set_cons_zero, List.set_cons_succ]
      have e22 : f1 22 = .bool true := hd 22 (by kernel_rfl)
      go_simp
      exact ⟨(MarkR wz.heap.size).refl _, rfl⟩
    refine ⟨fun u hu hd => ?_, ?_⟩
    · simp only [Act.put, List.setIfInBounds_toArray, List.set_cons_zero, List.set_cons_succ]
      have e22 : f1 22 = .bool true := hd 22 (by kernel_rfl)
      have e23 : f1 23 = .int .i64 6 := hd 23 (by kernel_rfl)
      go_simp
      refine (snum _ _).mono ?_
      rintro x9 w9 ⟨rfl, rfl⟩
      exact ⟨_, rfl, (MarkR wz.heap.size).refl _, rfl⟩
    refine ⟨fun u hu hd => ?_, ?_⟩
    · simp only [Act.put, List.setIfInBounds_toArray, List.set_cons_zero, List.set_cons_succ]
      have e22 : f1 22 = .bool true := hd 22 (by kernel_rfl)
      have e24 : f1 24 = .int .i64 6 := hd 24 (by kernel_rfl)
      go_simp
      exact ⟨(MarkR wz.heap.size).refl _, rfl⟩
    refine ⟨fun u hu hd => ?_, ?_⟩
    · simp only [Act.put, List.setIfInBounds_toArray, List.set_cons_zero, List.set_cons_succ]
      have e22 : f1 22 = .bool true := hd 22 (by kernel_rfl)
      have e25 : f1 25 = .bool true := hd 25 (by kernel_rfl)
      go_simp
      exact ⟨(MarkR wz.heap.size).refl _, rfl⟩
    refine ⟨fun u hu hd => ?_, ?_⟩
    · simp only [Act.put, List.setIfInBounds_toArray, List.set_cons_zero, List.set_cons_succ]
      have e26 : f1 26 = .bool true := hd 26 (by kernel_rfl)
      go_simp
      exact ⟨(MarkR wz.heap.size).refl _, rfl⟩
    refine ⟨fun u hu hd => ?_, ?_⟩
    · simp only [Act.put, List.setIfInBounds_toArray, List.set_cons_zero, List.set_cons_succ]
      have e27 : f1 27 = .bool true := hd 27 (by kernel_rfl)
      go_simp
      exact ⟨(MarkR wz.heap.size).refl _, rfl⟩
    refine ⟨fun u hu hd => ?_, ?_⟩
    · simp only [Act.put, List.setIfInBounds_toArray, List.set_cons_zero, List.set_cons_succ]
      have e27 : f1 27 = .bool true := hd 27 (by kernel_rfl)
      go_simp
      exact ⟨mark_ext (ext_alloc _ _), _, (0, 0), rfl, hu.2.2.2.1, heap_at _ _ rfl⟩
    refine ⟨fun u hu hd => ?_, ?_⟩
    · simp only [Act.put, List.setIfInBounds_toArray, List.set_cons_zero, List.set_cons_succ]
      have e27 : f1 27 = .bool true := hd 27 (by kernel_rfl)
      obtain ⟨b9, fz9, e29, hB9, hb9⟩ := (show BlF wz.heap.size [97, 0] (f1 29) u from hd 29 (by kernel_rfl))
      have HB9 := Lib.hid hb9
      have HBB9 := Lib.hid hB9
      have hcv := conv_const (n := 2) (c := 2) hb9
      dsimp only [List.length_cons, List.length_nil] at e29
      clear hb9 hB9
      go_simp
      obtain ⟨fz8, h8⟩ := freeze_at (k := 2) HB9.out
      exact ⟨mark_freeze HB9.out HBB9.out, b9, fz8, rfl, HBB9.out, h8⟩
    refine ⟨fun u hu hd => ?_, ?_⟩
    · simp only [Act.put, List.setIfInBounds_toArray, List.set_cons_zero, List.set_cons_succ]
      have e27 : f1 27 = .bool true := hd 27 (by kernel_rfl)
      have e28 : f1 28 = .pointer (some ⟨(w.heap.size + 1), 0, none⟩) := hd 28 (by kernel_rfl)
      obtain ⟨b9, fz9, e30, hB9, hb9⟩ := (show BlF wz.heap.size [97, 0] (f1 30) u from hd 30 (by kernel_rfl))
      have HBS9 := Lib.hid (bl_bs (l := [97, 0]) (by simp) hb9)
      have HSK9 := Lib.hid (HSK.out.keep ((Chg.drew wz).trans (mark_chg hu)) (fun i hi hd => by have hi : wz.heap.size ≤ i := hi; have := hd.2; omega))
      dsimp only [List.length_cons, List.length_nil] at e30
      clear hb9 hB9
      go_simp
      refine (sfrom_raw HSK9.out HBS9.out (Nat.le_refl _) (by simp)).mono ?_
      rintro x9 w9 ⟨hx9, y9, rfl, hf9⟩
      exact ⟨_, rfl, mark_ext hx9, hf9⟩
    refine ⟨fun u hu hd => ?_, ?_⟩
    · simp only [Act.put, List.setIfInBounds_toArray, List.set_cons_zero, List.set_cons_succ]
      have e27 : f1 27 = .bool true := hd 27 (by kernel_rfl)
      go_simp
      refine (lit_any (e := kB1) (k := [98]) rfl rfl (by decide) (by decide) (by decide) (by decide) _).mono ?_
      rintro x9 w9 ⟨hx9, g9, rfl, hm9⟩
      exact ⟨_, rfl, mark_ext hx9, g9, rfl, hm9.wide (Nat.zero_le _) (Nat.le_refl _)⟩
    refine ⟨fun u hu hd => ?_, ?_⟩
    · simp only [Act.put, List.setIfInBounds_toArray, List.set_cons_zero, List.set_cons_succ]
      have e27 : f1 27 = .bool true := hd 27 (by kernel_rfl)
      obtain ⟨g9, e32, hm9⟩ := (show LitF kB1 (f1 32) u from hd 32 (by kernel_rfl))
      have HM9 := Lib.hid hm9
      unfold Ent.at_ at e32
      clear hm9
      go_simp
      exact ⟨mark_ext (ext_alloc _ _), g9, _, rfl, heap_at _ _ rfl, HM9.out.below (ext_alloc _ _) (Nat.le_refl _) |>.wide (Nat.le_refl _) (ext_alloc _ _).size⟩
    refine ⟨fun u hu hd => ?_, ?_⟩
    · simp only [Act.put, List.setIfInBounds_toArray, List.set_cons_zero, List.set_cons_succ]
      have e27 : f1 27 = .bool true := hd 27 (by kernel_rfl)
      have hf9 := (show FromF wz.heap.size (w.heap.size + 1) [97, 0] (f1 31) u from hd 31 (by kernel_rfl))
      obtain ⟨bd9, e31, hit9⟩ := FromRaw.iter hf9 (HSK.out.keep ((Chg.drew wz).trans (mark_chg hu)) (fun i hi hd => by have hi : wz.heap.size ≤ i := hi; have := hd.2; omega)) (by decide)
      obtain ⟨g9, b9, e33, hb9, hm9⟩ := (show OneF kB1 (f1 33) u from hd 33 (by kernel_rfl))
      have HG9 := Lib.hid (goes_any (most := 0) (c2 := 1) hit9 (fun A hA => hA) (rowOf_ins HSK.out.ins _ _) (one_es hb9 hm9) (Nat.le_refl _) (by simp) (by rw [rowOf_map HSK.out, HTM.out]; rfl))
      clear hf9 hit9 hb9 hm9
      go_simp
      refine HG9.out.mono ?_
      rintro x9 w9 ⟨rfl, hx9⟩
      exact ⟨_, rfl, mark_ext hx9, rfl⟩
    refine ⟨fun u hu hd => ?_, ?_⟩
    · simp only [Act.put, List.setIfInBounds_toArray, List.set_cons_zero, List.set_cons_succ]
      have e27 : f1 27 = .bool true := hd 27 (by kernel_rfl)
      have e34 : f1 34 = .bool true := hd 34 (by kernel_rfl)
      go_simp
      exact ⟨(MarkR wz.heap.size).refl _, rfl⟩
    refine ⟨fun u hu hd => ?_, ?_⟩
    · simp only [Act.put, List.setIfInBounds_toArray, List.set_cons_zero, List.set_cons_succ]
      have e35 : f1 35 = .bool true := hd 35 (by kernel_rfl)
      go_simp
      exact ⟨(MarkR wz.heap.size).refl _, rfl⟩
    refine ⟨fun u hu hd => ?_, ?_⟩
    · simp only [Act.put, List.setIfInBounds_toArray, List.set_cons_zero, List.set_cons_succ]
      have e36 : f1 36 = .bool true := hd 36 (by kernel_rfl)
      go_simp
      exact ⟨(MarkR wz.heap.size).refl _, rfl⟩
    refine ⟨fun u hu hd => ?_, ?_⟩
    · simp only [Act.put, List.setIfInBounds_toArray, List.set_cons_zero, List.set_cons_succ]
      have e36 : f1 36 = .bool true := hd 36 (by kernel_rfl)
      have e37 : f1 37 = .pointer (some ⟨(w.heap.size + 1), 0, none⟩) := hd 37 (by kernel_rfl)
      have HS9 := Lib.hid (slen_any (HSK.out.keep ((Chg.drew wz).trans (mark_chg hu)) (fun i hi hd => by have hi : wz.heap.size ≤ i := hi; have := hd.2; omega)))
      rw [HTL.out] at HS9
      go_simp
      refine HS9.out.mono ?_
      rintro x9 w9 ⟨rfl, rfl⟩
      exact ⟨_, rfl, (MarkR wz.heap.size).refl _, rfl⟩
    refine ⟨fun u hu hd => ?_, ?_⟩
    · simp only [Act.put, List.setIfInBounds_toArray, List.set_cons_zero, List.set_cons_succ]
      have e36 : f1 36 = .bool true := hd 36 (by kernel_rfl)
      have e38 : f1 38 = .int .i64 3 := hd 38 (by kernel_rfl)
      go_simp
      exact ⟨(MarkR wz.heap.size).refl _, rfl⟩
    refine ⟨fun u hu hd => ?_, ?_⟩
    · simp only [Act.put, List.setIfInBounds_toArray, List.set_cons_zero, List.set_cons_succ]
      have e36 : f1 36 = .bool true := hd 36 (by kernel_rfl)
      have e39 : f1 39 = .bool true := hd 39 (by kernel_rfl)
      go_simp
      exact ⟨(MarkR wz.heap.size).refl _, rfl⟩
    refine ⟨fun u hu hd => ?_, ?_⟩
    · simp only [Act.put, List.setIfInBounds_toArray, List.set_cons_zero, List.set_cons_succ]
      have e40 : f1 40 = .bool true := hd 40 (by kernel_rfl)
      go_simp
      exact ⟨(MarkR wz.heap.size).refl _, rfl⟩
    refine ⟨fun u hu hd => ?_, ?_⟩
    · simp only [Act.put, List.setIfInBounds_toArray, List.set_cons_zero, List.set_cons_succ]
      have e41 : f1 41 = .bool true := hd 41 (by kernel_rfl)
      go_simp
      exact ⟨(MarkR wz.heap.size).refl _, rfl⟩
    refine ⟨fun u hu hd => ?_, ?_⟩
    · simp only [Act.put, List.setIfInBounds_toArray, List.set_cons_zero, List.set_cons_succ]
      have e41 : f1 41 = .bool true := hd 41 (by kernel_rfl)
      have e42 : f1 42 = .pointer (some ⟨(w.heap.size + 1), 0, none⟩) := hd 42 (by kernel_rfl)
      have HS9 := Lib.hid (sbytes_any (HSK.out.keep ((Chg.drew wz).trans (mark_chg hu)) (fun i hi hd => by have hi : wz.heap.size ≤ i := hi; have := hd.2; omega)))
      rw [HTB.out] at HS9
      go_simp
      refine HS9.out.mono ?_
      rintro x9 w9 ⟨rfl, rfl⟩
      exact ⟨_, rfl, (MarkR wz.heap.size).refl _, rfl⟩
    refine ⟨fun u hu hd => ?_, ?_⟩
    · simp only [Act.put, List.setIfInBounds_toArray, List.set_cons_zero, List.set_cons_succ]
      have e41 : f1 41 = .bool true := hd 41 (by kernel_rfl)
      have e43 : f1 43 = .int .i64 15 := hd 43 (by kernel_rfl)
      go_simp
      exact ⟨(MarkR wz.heap.size).refl _, rfl⟩
    refine ⟨fun u hu hd => ?_, ?_⟩
    · simp only [Act.put, List.setIfInBounds_toArray, List.set_cons_zero, List.set_cons_succ]
      have e41 : f1 41 = .bool true := hd 41 (by kernel_rfl)
      have e44 : f1 44 = .bool true := hd 44 (by kernel_rfl)
      go_simp
      exact ⟨(MarkR wz.heap.size).refl _, rfl⟩
    refine ⟨fun u hu hd => ?_, ?_⟩
    · simp only [Act.put, List.setIfInBounds_toArray, List.set_cons_zero, List.set_cons_succ]
      have e45 : f1 45 = .bool true := hd 45 (by kernel_rfl)
      go_simp
      exact ⟨(MarkR wz.heap.size).refl _, rfl⟩
    refine ⟨fun u hu hd => ?_, ?_⟩
    · simp only [Act.put, List.setIfInBounds_toArray, List.set_cons_zero, List.set_cons_succ]
      have e46 : f1 46 = .bool true := hd 46 (by kernel_rfl)
      go_simp
      exact ⟨mark_ext (ext_alloc _ _), _, (0, 0), rfl, hu.2.2.2.1, heap_at _ _ rfl⟩
    refine ⟨fun u hu hd => ?_, ?_⟩
    · simp only [Act.put, List.setIfInBounds_toArray, List.set_cons_zero, List.set_cons_succ]
      have e46 : f1 46 = .bool true := hd 46 (by kernel_rfl)
      obtain ⟨b9, fz9, e47, hB9, hb9⟩ := (show BlF wz.heap.size [97] (f1 47) u from hd 47 (by kernel_rfl))
      have HB9 := Lib.hid hb9
      have HBB9 := Lib.hid hB9
      have hcv := conv_const (n := 1) (c := 1) hb9
      dsimp only [List.length_cons, List.length_nil] at e47
      clear hb9 hB9
      go_simp
      obtain ⟨fz8, h8⟩ := freeze_at (k := 1) HB9.out
      exact ⟨mark_freeze HB9.out HBB9.out, b9, fz8, rfl, HBB9.out, h8⟩
    refine ⟨fun u hu hd => ?_, ?_⟩
    · simp only [Act.put, List.setIfInBounds_toArray, List.set_cons_zero, List.set_cons_succ]
      have e46 : f1 46 = .bool true := hd 46 (by kernel_rfl)
      obtain ⟨b9, fz9, e48, hB9, hb9⟩ := (show BlF wz.heap.size [97] (f1 48) u from hd 48 (by kernel_rfl))
      have HH9 := Lib.hid (height_any (s := 5) (bl_bs (l := [97]) (by simp) hb9) (by decide) (by decide) (by decide) (fun j hj => mark_cell hu (HTAB.out j hj)) (by simp))
      rw [hgt_a5] at HH9
      dsimp only [List.length_cons, List.length_nil] at e48
      clear hb9 hB9
      go_simp
      refine HH9.out.mono ?_
      rintro x9 w9 ⟨rfl, hw9⟩
      rw [hw9]
      exact ⟨_, rfl, (MarkR wz.heap.size).refl _, rfl⟩
    refine ⟨fun u hu hd => ?_, ?_⟩
    · simp only [Act.put, List.setIfInBounds_toArray, List.set_cons_zero, List.set_cons_succ]
      have e46 : f1 46 = .bool true := hd 46 (by kernel_rfl)
      have e49 : f1 49 = .int .i64 1 := hd 49 (by kernel_rfl)
      go_simp
      exact ⟨(MarkR wz.heap.size).refl _, rfl⟩
    refine ⟨fun u hu hd => ?_, ?_⟩
    · simp only [Act.put, List.setIfInBounds_toArray, List.set_cons_zero, List.set_cons_succ]
      have e46 : f1 46 = .bool true := hd 46 (by kernel_rfl)
      have e50 : f1 50 = .bool true := hd 50 (by kernel_rfl)
      go_simp
      exact ⟨(MarkR wz.heap.size).refl _, rfl⟩
    refine ⟨fun u hu hd => ?_, ?_⟩
    · simp only [Act.put, List.setIfInBounds_toArray, List.set_cons_zero, List.set_cons_succ]
      have e51 : f1 51 = .bool true := hd 51 (by kernel_rfl)
      go_simp
      exact ⟨(MarkR wz.heap.size).refl _, rfl⟩
    refine ⟨fun u hu hd => ?_, ?_⟩
    · simp only [Act.put, List.setIfInBounds_toArray, List.set_cons_zero, List.set_cons_succ]
      have e52 : f1 52 = .bool true := hd 52 (by kernel_rfl)
      have HH9 := Lib.hid (height_any (w := u) (s := 1) (Bs.nil u 0 0) (by decide) (by decide) (by decide) (fun j hj => mark_cell hu (HTAB.out j hj)) (by simp))
      rw [hgt_n1] at HH9
      go_simp
      refine HH9.out.mono ?_
      rintro x9 w9 ⟨rfl, hw9⟩
      rw [hw9]
      exact ⟨_, rfl, (MarkR wz.heap.size).refl _, rfl⟩
    refine ⟨fun u hu hd => ?_, ?_⟩
    · simp only [Act.put, List.setIfInBounds_toArray, List.set_cons_zero, List.set_cons_succ]
      have e52 : f1 52 = .bool true := hd 52 (by kernel_rfl)
      have e53 : f1 53 = .int .i64 1 := hd 53 (by kernel_rfl)
      go_simp
      exact ⟨(MarkR wz.heap.size).refl _, rfl⟩
    refine ⟨fun u hu hd => ?_, ?_⟩
    · simp only [Act.put, List.setIfInBounds_toArray, List.set_cons_zero, List.set_cons_succ]
      have e52 : f1 52 = .bool true := hd 52 (by kernel_rfl)
      have e54 : f1 54 = .bool true := hd 54 (by kernel_rfl)
      go_simp
      exact ⟨(MarkR wz.heap.size).refl _, rfl⟩
    refine ⟨fun u hu hd => ?_, ?_⟩
    · simp only [Act.put, List.setIfInBounds_toArray, List.set_cons_zero, List.set_cons_succ]
      have e55 : f1 55 = .bool true := hd 55 (by kernel_rfl)
      go_simp
      exact ⟨(MarkR wz.heap.size).refl _, rfl⟩
    trivial
end Go.Proofs.YtepaaffebhinlaaDoor
