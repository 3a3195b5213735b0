import Derived.Test.YthhgjeeangepaaaGreatMv2
import Derived.Test.YthhgjeeangepaaaGreatMv7
import Derived.Test.YthhgjeeangepaaaGreatMv3
import Derived.Lib.SlBytesConst
import Derived.Lib.SmallJoins
import Derived.Test.YthhgjeeangepaaaGreatMv4
import Derived.Test.YthhgjeeangepaaaGreatMv6
import Derived.Test.YthhgjeeangepaaaGreatMv5
import Derived.Test.YthhgjeeangepaaaGreatMv0
namespace Go.Proofs.YthhgjeeangepaaaGreat.Fr
open Go.RowKit
structure Rel where
  r : World → World → Prop
  refl : ∀ w, r w w
  trans : ∀ {a b c}, r a b → r b c → r a c
def Mono (R : Rel) (p : Value → World → Prop) : Prop := ∀ v u u', p v u → R.r u u' → p v u'
theorem Mono.is {R : Rel} (c : Value) : Mono R (Is c) := fun _ _ _ h _ => h
theorem fact_mono {R : Rel} {φ : List (Value → World → Prop)} (h : ∀ p ∈ φ, Mono R p) (j : Nat) {v : Value} {u u' : World} (hf : fact φ j v u) (hu : R.r u u') : fact φ j v u' := by
  unfold fact at *
  by_cases hj : j < φ.length
  · have e : φ.getD j (fun _ _ => True) = φ[j] := by simp [List.getD, List.getElem?_eq_getElem hj]
    rw [e] at hf ⊢
    exact h _ (List.getElem_mem hj) _ _ _ hf hu
  · have e : φ.getD j (fun _ _ => True) = fun _ _ => True := by simp [List.getD, List.getElem?_eq_none (Nat.le_of_not_lt hj)]
    rw [e]; trivial
def Obls (R : Rel) (P : Program) (ops : Array Oper) (φ : List (Value → World → Prop)) (w0 : World) (f : Nat → Value) : Nat → List Oper → Act → Prop
  | _, [], _ => True
  | k, o :: rest, a => (∀ u, R.r w0 u → (∀ j, aft o j = true → fact φ j (f j) u) →
      if Region.wanted o (yielded ops a.tmps) = true then GivesR P ((execOp a.eval o).run P u) (fun v u' => R.r u u' ∧ fact φ k (kept o v) u') else fact φ k undef u) ∧ Obls R P ops φ w0 f (k + 1) rest (a.put o.dst (f k))
theorem Obls.at {R : Rel} {P : Program} {ops : Array Oper} {φ : List (Value → World → Prop)} {w0 : World} {f : Nat → Value} : ∀ (l : List Oper) (k : Nat) (a : Act), Obls R P ops φ w0 f k l a → ∀ (i : Nat) (o : Oper), l[i]? = some o →
    ∀ u, R.r w0 u → (∀ j, aft o j = true → fact φ j (f j) u) →
      if Region.wanted o (yielded ops (puts f k (l.take i) a).tmps) = true then GivesR P ((execOp (puts f k (l.take i) a).eval o).run P u) (fun v u' => R.r u u' ∧ fact φ (k + i) (kept o v) u') else fact φ (k + i) undef u := by
  intro l
  induction l with
  | nil => intro k a _ i o h; simp at h
  | cons o l ih =>
    intro k a h i oi hi
    cases i with
    | zero => simp at hi; subst hi; exact h.1
    | succ i =>
      have := ih (k + 1) _ h.2 i oi (by simpa using hi)
      simp only [List.take_succ_cons, puts]
      rw [show k + (i + 1) = k + 1 + i by omega]
      exact this
structure Inv (R : Rel) (ops : Array Oper) (φ : List (Value → World → Prop)) (a0 : Act) (w0 : World) (seen : Array Bool) (a : Act) (u : World) : Prop where
  ext : R.r w0 u
  size : seen.size = ops.size
  defs : a.defers = a0.defers
  tsz : a.tmps.size = a0.tmps.size
  old : ∀ s, (∀ (j : Nat) (oj : Oper), ops[j]? = some oj → seen.getD j false = true → oj.dst ≠ some s) → a.tmps[s]? = a0.tmps[s]?
  facts : ∀ (j : Nat) (oj : Oper), ops[j]? = some oj → seen.getD j false = true → fact φ j (slot a oj) u
  closed : ∀ (j : Nat) (oj : Oper), ops[j]? = some oj → seen.getD j false = true → ∀ k, aft oj k = true → seen.getD k false = true
section
variable {P : Program} {ops : Array Oper} {Q : Exit → Act → World → Prop} {φ : List (Value → World → Prop)} {a0 : Act} {w0 : World} {R : Rel}
theorem look_same {seen : Array Bool} {a : Act} {u : World} (hok : flowOk ops a0.tmps.size = true) (hI : Inv R ops φ a0 w0 seen a u) {i : Nat} {oi : Oper} (hi : ops[i]? = some oi) (hn : seen.getD i false = false)
    {t : Nat} (ht : t ∈ oi.looksAt ops) : a.tmps[t]? = (puts (held ops a) 0 (ops.toList.take i) a0).tmps[t]? := by
  by_cases hsz : t < a0.tmps.size
  · have hlen : i < ops.toList.length := by simpa using (Array.getElem?_eq_some_iff.1 hi).1
    have conv : ∀ (j : Nat) (o : Oper), (ops.toList.take i)[j]? = some o → j < i ∧ ops[j]? = some o := fun j o h => by
      rw [List.getElem?_take] at h
      split at h
      · rename_i hj; exact ⟨hj, by rw [← Array.getElem?_toList]; exact h⟩
      · cases h
    have huniq : ∀ (x y : Nat) (ox oy : Oper), (ops.toList.take i)[x]? = some ox → (ops.toList.take i)[y]? = some oy → ox.dst = some t → oy.dst = some t → x = y := fun x y ox oy hx hy h1 h2 => by
      rcases Nat.decEq x y with hne | he
      · exact absurd h1 (((flowOk_at hok (conv x ox hx).2).2.2.2 y oy t (conv y oy hy).2 h2).1 (fun e => hne e.symm))
      · exact he
    obtain ⟨h1, h2⟩ := puts_get (held ops a) (ops.toList.take i) 0 a0 t hsz huniq
    by_cases hex : ∃ (j : Nat) (oj : Oper), (ops.toList.take i)[j]? = some oj ∧ oj.dst = some t
    · obtain ⟨j, oj, hj, hd⟩ := hex
      rw [h2 j oj hj hd, Nat.zero_add]
      have hj' := (conv j oj hj).2
      have hlt := (conv j oj hj).1
      simp only [held, hj', slot, hd]
      have hts : t < a.tmps.size := by rw [hI.tsz]; exact hsz
      simp [Array.getD, hts]
    · have hex' : ∀ (j : Nat) (o : Oper), (ops.toList.take i)[j]? = some o → o.dst ≠ some t := fun j o hj hd => hex ⟨j, o, hj, hd⟩
      rw [h1 hex']
      refine hI.old t fun j oj hj hsj hd => ?_
      rcases ((flowOk_at hok hi).2.2.2 j oj t hj hd).2 ht with h | h
      · have hlt := aft_lt hok hi h
        refine hex' j oj ?_ hd
        rw [List.getElem?_take, if_pos hlt, Array.getElem?_toList]; exact hj
      · have := hI.closed j oj hj hsj i h
        rw [hn] at this; cases this
  · have e1 : a.tmps[t]? = none := Array.getElem?_eq_none (by rw [hI.tsz]; omega)
    have e2 : (puts (held ops a) 0 (ops.toList.take i) a0).tmps[t]? = none := Array.getElem?_eq_none (by rw [puts_size]; omega)
    rw [e1, e2]
theorem Inv.next {seen : Array Bool} {a : Act} {u u' : World} (hok : flowOk ops a0.tmps.size = true) (hmono : ∀ p ∈ φ, Mono R p) (hI : Inv R ops φ a0 w0 seen a u) {i : Nat} {oi : Oper} (hi : ops[i]? = some oi)
    (hs : ∀ k, aft oi k = true → seen.getD k false = true) {v : Value} (hu : R.r u u') (hf : fact φ i (kept oi v) u') : Inv R ops φ a0 w0 (seen.setIfInBounds i true) (a.put oi.dst v) u' := by
  refine ⟨R.trans hI.ext hu, by simp [hI.size], by rw [put_defers']; exact hI.defs, by rw [put_size]; exact hI.tsz, fun s h => ?_, fun j oj hj hsj => ?_, fun j oj hj hsj k hk => ?_⟩
  · have hlt : i < seen.size := by rw [hI.size]; exact (Array.getElem?_eq_some_iff.1 hi).1
    have hne : oi.dst ≠ some s := h i oi hi (by rw [set_getD, if_pos ⟨rfl, hlt⟩])
    rw [put_get, if_neg (fun h => hne h.1)]
    refine hI.old s fun j oj hj hsj => h j oj hj ?_
    rw [set_getD]
    split
    · rfl
    · exact hsj
  · rw [set_getD] at hsj
    by_cases hij : i = j
    · subst hij
      rw [hi] at hj
      injection hj with hj
      subst hj
      have e : slot (a.put oi.dst v) oi = kept oi v := by
        unfold slot kept
        cases hd : oi.dst with
        | none => rfl
        | some d =>
          have hds := (flowOk_at hok hi).2.2.1 d hd
          have hd2 : d < a.tmps.size := by rw [hI.tsz]; exact hds
          simp [Act.put, Array.getD, hd2]
      rw [e]; exact hf
    · rw [if_neg (fun h => hij h.1)] at hsj
      have e : slot (a.put oi.dst v) oj = slot a oj := by
        unfold slot
        cases hd : oj.dst with
        | none => rfl
        | some d =>
          have hne := ((flowOk_at hok hi).2.2.2 j oj d hj hd).1 (fun e => hij e.symm)
          have := put_get a oi.dst v d
          rw [if_neg (fun h => hne h.1)] at this
          show (a.put oi.dst v).tmps.getD d undef = a.tmps.getD d undef
          rw [Array.getD_eq_getD_getElem?, this, ← Array.getD_eq_getD_getElem?]
      rw [e]
      exact fact_mono hmono j (hI.facts j oj hj hsj) hu
  · rw [set_getD] at hsj ⊢
    split
    · rfl
    · rename_i hk2
      by_cases hij : i = j
      · subst hij
        rw [hi] at hj
        injection hj with hj
        subst hj
        exact hs k hk
      · rw [if_neg (fun h => hij h.1)] at hsj
        exact hI.closed j oj hj hsj k hk
theorem flow_step {seen : Array Bool} {a : Act} {u : World} {m : Nat} (hok : flowOk ops a0.tmps.size = true) (hsel : Region.noSelect ops = true) (hmono : ∀ p ∈ φ, Mono R p) (hobl : ∀ f, Obls R P ops φ w0 f 0 (ops.toList.take m) a0)
    (hI : Inv R ops φ a0 w0 seen a u) {i : Nat} (him : i < m) (hr : i ∈ Region.ready .any ops seen) : wpOp P ops Q i (fun b u' => Inv R ops φ a0 w0 (seen.setIfInBounds i true) b u') a u := by
  obtain ⟨hun, oi, hi, hall⟩ := mem_ready.1 hr
  have hlt : i < ops.size := (Array.getElem?_eq_some_iff.1 hi).1
  have hn : seen.getD i false = false := by rw [← getD_both seen (by rw [hI.size]; exact hlt)]; simpa using hun
  have hs : ∀ k, aft oi k = true → seen.getD k false = true := fun k hk => by
    unfold aft at hk
    obtain ⟨e, he, hb⟩ := Array.any_eq_true'.1 hk
    simp only [Bool.and_eq_true, beq_iff_eq] at hb
    rw [← hb.2]
    exact hall e he hb.1
  have hlook := fun {t : Nat} (ht : t ∈ oi.looksAt ops) => look_same hok hI hi hn ht
  have hfacts : ∀ j, aft oi j = true → fact φ j (held ops a j) u := fun j hj => by
    have hjl := aft_lt hok hi hj
    have hoj : ops[j]? = some ops[j] := Array.getElem?_eq_getElem (by omega)
    have := hI.facts j _ hoj (hs j hj)
    simp only [held, hoj]
    exact this
  have hO := Obls.at (ops.toList.take m) 0 a0 (hobl (held ops a)) i oi (by rw [List.getElem?_take, if_pos him, Array.getElem?_toList]; exact hi) u hI.ext hfacts
  rw [Nat.zero_add, List.take_take, Nat.min_eq_left (Nat.le_of_lt him)] at hO
  have hex : execOp (puts (held ops a) 0 (ops.toList.take i) a0).eval oi = execOp a.eval oi := by
    refine execOp_congr oi (fun cs b => Region.noSelect_spec hsel i oi cs b hi) fun x hx => ?_
    cases x with
    | tmp t =>
      have ht : t ∈ oi.looksAt ops := by
        unfold Oper.looksAt
        refine List.mem_append_left _ (List.mem_filterMap.2 ⟨.tmp t, by simpa using hx, rfl⟩)
      show Array.getD _ t undef = Array.getD _ t undef
      rw [Array.getD_eq_getD_getElem?, Array.getD_eq_getD_getElem?, hlook ht]
    | _ => rfl
  have hwt : Region.wanted oi (yielded ops (puts (held ops a) 0 (ops.toList.take i) a0).tmps) = Region.wanted oi (yielded ops a.tmps) := by
    unfold Region.wanted
    cases hg : oi.guard with
    | none => rfl
    | some gb =>
      obtain ⟨g, b⟩ := gb
      have e : yielded ops (puts (held ops a) 0 (ops.toList.take i) a0).tmps g = yielded ops a.tmps g := by
        unfold yielded
        cases hd : (ops[g]?).bind (·.dst) with
        | none => rfl
        | some d =>
          have ht : d ∈ oi.looksAt ops := by
            unfold Oper.looksAt
            rw [hg]
            refine List.mem_append_right _ ?_
            simp only [hd]
            simp
          show (match (puts (held ops a) 0 (ops.toList.take i) a0).tmps[d]? with | some (Value.bool b) => some b | _ => none) = _
          rw [← hlook ht]
          rfl
      simp only [e]
  rw [hex, hwt] at hO
  unfold wpOp
  simp only [hi]
  split
  · rename_i hw
    rw [if_pos hw] at hO
    exact .inl (gives_wp hO fun v u' h => hI.next hok hmono hi hs h.1 h.2)
  · rename_i hw
    rw [if_neg hw] at hO
    refine hI.next hok hmono hi hs (R.refl u) ?_
    have : kept oi undef = undef := by unfold kept; cases oi.dst <;> rfl
    rw [this]; exact hO
theorem all_seen {seen : Array Bool} {a : Act} {u : World} (hok : flowOk ops a0.tmps.size = true) (hI : Inv R ops φ a0 w0 seen a u) (hr : Region.ready .any ops seen = []) : ∀ i, i < ops.size → seen.getD i false = true := by
  intro i
  induction i using Nat.strongRecOn with
  | ind i ih =>
    intro hlt
    rcases h : seen.getD i false with _ | _
    · have hi : ops[i]? = some ops[i] := Array.getElem?_eq_getElem hlt
      have : i ∈ Region.ready .any ops seen := mem_ready.2 ⟨by rw [getD_both seen (by rw [hI.size]; exact hlt)]; exact h, ops[i], hi, fun e he hb => by
        have := (flowOk_at hok hi).1 e he hb
        exact ih e.on this (by omega)⟩
      rw [hr] at this; cases this
    · rfl
theorem act_is {seen : Array Bool} {a : Act} {u : World} (hok : flowOk ops a0.tmps.size = true) (hI : Inv R ops φ a0 w0 seen a u) : a = puts (held ops a) 0 ops.toList a0 := by
  have hd : a.defers = (puts (held ops a) 0 ops.toList a0).defers := by rw [puts_defers]; exact hI.defs
  have ht : a.tmps = (puts (held ops a) 0 ops.toList a0).tmps := by
    apply Array.ext_getElem?
    intro t
    by_cases hsz : t < a0.tmps.size
    · have conv : ∀ (j : Nat) (o : Oper), ops.toList[j]? = some o → ops[j]? = some o := fun j o h => by rw [← Array.getElem?_toList]; exact h
      have huniq : ∀ (x y : Nat) (ox oy : Oper), ops.toList[x]? = some ox → ops.toList[y]? = some oy → ox.dst = some t → oy.dst = some t → x = y := fun x y ox oy hx hy h1 h2 => by
        rcases Nat.decEq x y with hne | he
        · exact absurd h1 (((flowOk_at hok (conv x ox hx)).2.2.2 y oy t (conv y oy hy) h2).1 (fun e => hne e.symm))
        · exact he
      obtain ⟨h1, h2⟩ := puts_get (held ops a) ops.toList 0 a0 t hsz huniq
      by_cases hex : ∃ (j : Nat) (oj : Oper), ops.toList[j]? = some oj ∧ oj.dst = some t
      · obtain ⟨j, oj, hj, hd⟩ := hex
        rw [h2 j oj hj hd, Nat.zero_add]
        simp only [held, conv j oj hj, slot, hd]
        have hts : t < a.tmps.size := by rw [hI.tsz]; exact hsz
        simp [Array.getD, hts]
      · have hex' : ∀ (j : Nat) (o : Oper), ops.toList[j]? = some o → o.dst ≠ some t := fun j o hj hd => hex ⟨j, o, hj, hd⟩
        rw [h1 hex']
        exact hI.old t fun j oj hj _ => hex' j oj (by rw [Array.getElem?_toList]; exact hj)
    · rw [Array.getElem?_eq_none (by rw [hI.tsz]; omega), Array.getElem?_eq_none (by rw [puts_size]; omega)]
  have ext : ∀ x y : Act, x.tmps = y.tmps → x.defers = y.defers → x = y := by rintro ⟨_, _⟩ ⟨_, _⟩ rfl rfl; rfl
  exact ext _ _ ht hd
theorem flow_any (hok : flowOk ops a0.tmps.size = true) (hsel : Region.noSelect ops = true) (hmono : ∀ p ∈ φ, Mono R p) (hobl : ∀ f, Obls R P ops φ w0 f 0 ops.toList a0)
    (hfin : ∀ (g : Nat → Value) u, R.r w0 u → (∀ j, j < ops.size → fact φ j (g j) u) → Q .normal (puts g 0 ops.toList a0) u) :
    ∀ (n : Nat) (seen : Array Bool) (a : Act) (u : World), Inv R ops φ a0 w0 seen a u → left ops seen = n → wpAny P .any ops Q n seen a u := by
  have done : ∀ (seen : Array Bool) (a : Act) (u : World), Inv R ops φ a0 w0 seen a u → (∀ i, i < ops.size → seen.getD i false = true) → Q .normal a u := fun seen a u hI hall => by
    rw [act_is hok hI]
    refine hfin _ _ hI.ext fun j hj => ?_
    have hoj : ops[j]? = some ops[j] := Array.getElem?_eq_getElem hj
    simp only [held, hoj]
    exact hI.facts j _ hoj (hall j hj)
  intro n
  induction n with
  | zero =>
    intro seen a u hI hl
    have hall : ∀ i, i < ops.size → seen.getD i false = true := fun i hi => by
      have := List.countP_eq_zero.1 hl i (List.mem_range.2 hi)
      simpa using this
    refine ⟨?_, done seen a u hI hall⟩
    refine List.eq_nil_iff_forall_not_mem.2 fun i hi => ?_
    obtain ⟨hun, oi, hio, _⟩ := mem_ready.1 hi
    have hlt := (Array.getElem?_eq_some_iff.1 hio).1
    rw [getD_both seen (by rw [hI.size]; exact hlt), hall i hlt] at hun
    cases hun
  | succ n ih =>
    intro seen a u hI hl
    refine ⟨fun hr => done seen a u hI (all_seen hok hI hr), fun i hi => ?_⟩
    refine wpOp_mono (fun b u' hb => ih _ b u' hb ?_) (flow_step (m := ops.size) hok hsel hmono (fun f => by rw [List.take_of_length_le (by simp)]; exact hobl f) hI (Array.getElem?_eq_some_iff.1 (mem_ready.1 hi).2.choose_spec.1).1 hi)
    obtain ⟨hun, oi, hio, _⟩ := mem_ready.1 hi
    have hlt := (Array.getElem?_eq_some_iff.1 hio).1
    rw [getD_both seen (by rw [hI.size]; exact hlt)] at hun
    have := left_next hI.size hlt hun
    omega
theorem flow {id : Nat} {w : World} (hm : P.follows .mixedOrders = true) (φ : List (Value → World → Prop)) (hok : flowOk ops a0.tmps.size = true) (hsel : Region.noSelect ops = true) (hmono : ∀ p ∈ φ, Mono R p)
    (hobl : ∀ f, Obls R P ops φ w.drew f 0 ops.toList a0)
    (hfin : ∀ (g : Nat → Value) u, R.r w.drew u → (∀ j, j < ops.size → fact φ j (g j) u) → Q .normal (puts g 0 ops.toList a0) u) : (Code.region id ops true).wp P Q a0 w := by
  refine wp_region_any hm (flow_any hok hsel hmono hobl hfin _ _ _ _ ⟨R.refl _, by simp, rfl, rfl, fun _ _ => rfl, fun j oj hj hs => ?_, fun j oj hj hs => ?_⟩ ?_)
  · have hlt := (Array.getElem?_eq_some_iff.1 hj).1
    simp [Array.getD, hlt] at hs
  · have hlt := (Array.getElem?_eq_some_iff.1 hj).1
    simp [Array.getD, hlt] at hs
  · unfold left
    rw [List.countP_eq_length.2]
    · simp
    · intro i hi
      have hlt := List.mem_range.1 hi
      simp [Array.getD, hlt]
end
end Go.Proofs.YthhgjeeangepaaaGreat.Fr
namespace Go.Proofs.YthhgjeeangepaaaGreat
open Go.ChangeShapes Go.WideShapes Go.ChangeAt Go.RowKit Go.Lib Go.Joins
theorem freeze_chg (w : World) (g k : Nat) : Chg (fun i => i = g) w (w.freeze ⟨g, k, none⟩ 1) := by
  unfold World.freeze
  rw [if_neg (by decide)]
  exact ⟨rfl, rfl, rfl, by simp, fun i _ hne => by simp [Array.getElem?_modify, Ne.symm hne]⟩
theorem freeze_at {w : World} {g k : Nat} {C : Array Value} {t : TypeId} {fz : Nat × Nat} (h : w.heap[g]? = some (.cells C t fz)) : ∃ fz', (w.freeze ⟨g, k, none⟩ 1).heap[g]? = some (.cells C t fz') := by
  unfold World.freeze
  rw [if_neg (by decide)]
  exact ⟨_, by simp [Array.getElem?_modify, h]; rfl⟩
theorem conv_const {w : World} {g n c : Nat} {C : Array Value} {fz : Nat × Nat} (h : w.heap[g]? = some (.cells C 5 fz)) :
    (convert 26 26 (.slice (some ⟨g, 0, none⟩) n c)).run Tryz.prog w = .ok (.slice (some ⟨g, 0, none⟩) n c) (w.freeze ⟨g, C.size, none⟩ 1) := by
  have hsh : w.shape? g = some (5, C.size) := by unfold World.shape?; rw [h]
  simp [convert, run_underlying Tryz.underlying26, run_underlying Tryz.underlying5, markStringish, hsh]
def MarkR (B : Nat) : Fr.Rel where
  r u u' := u'.os = u.os ∧ u'.tape = u.tape ∧ u'.output = u.output ∧ u.heap.size ≤ u'.heap.size ∧ ∀ k, k < u.heap.size → u'.heap[k]? = u.heap[k]? ∨ (B ≤ k ∧ ∃ c fz fz', u.heap[k]? = some (.cells c 5 fz) ∧ u'.heap[k]? = some (.cells c 5 fz'))
  refl w := ⟨rfl, rfl, rfl, Nat.le_refl _, fun _ _ => .inl rfl⟩
  trans := by
    rintro a b c ⟨h1, h2, h3, h4, h5⟩ ⟨k1, k2, k3, k4, k5⟩
    refine ⟨k1.trans h1, k2.trans h2, k3.trans h3, Nat.le_trans h4 k4, fun k hk => ?_⟩
    rcases h5 k hk with h | ⟨hB, x, f, f', hx, hx'⟩
    · rcases k5 k (Nat.lt_of_lt_of_le hk h4) with h' | ⟨hB, x, f, f', hx, hx'⟩
      · exact .inl (h'.trans h)
      · exact .inr ⟨hB, x, f, f', h ▸ hx, hx'⟩
    · rcases k5 k (Nat.lt_of_lt_of_le hk h4) with h' | ⟨_, y, e, e', hy, hy'⟩
      · exact .inr ⟨hB, x, f, f', hx, h'.trans hx'⟩
      · rw [hx'] at hy
        injection hy with hy
        injection hy with q1 _ _
        subst q1
        exact .inr ⟨hB, x, f, e', hx, hy'⟩
section
variable {B : Nat} {u u' : World}
theorem mark_ext (h : Ext u u') : (MarkR B).r u u' := ⟨h.os, h.tape, h.output, h.size, fun k hk => .inl (h.block k hk)⟩
theorem mark_freeze {g k : Nat} {C : Array Value} {fz : Nat × Nat} (hg : u.heap[g]? = some (.cells C 5 fz)) (hB : B ≤ g) : (MarkR B).r u (u.freeze ⟨g, k, none⟩ 1) := by
  have hc := freeze_chg u g k
  refine ⟨hc.os, hc.tape, hc.output, hc.size, fun i hi => ?_⟩
  by_cases h : i = g
  · subst h
    obtain ⟨fz', h'⟩ := freeze_at (k := k) hg
    exact .inr ⟨hB, C, fz, fz', hg, h'⟩
  · exact .inl (hc.block i hi h)
theorem mark_heap {o : Obj} {k : Nat} (h : (MarkR B).r u u') (hk : u.heap[k]? = some o) (hn : k < B ∨ ∀ c fz, o ≠ .cells c 5 fz) : u'.heap[k]? = some o := by
  rcases h.2.2.2.2 k (Array.getElem?_eq_some_iff.1 hk).1 with h' | ⟨hB, x, f, f', hx, hx'⟩
  · exact h'.trans hk
  · rcases hn with hn | hn
    · omega
    · rw [hk] at hx; injection hx with hx; exact absurd hx (hn _ _)
theorem mark_cell {p : Addr} {v : Value} (h : (MarkR B).r u u') (hc : u.cell? p = some v) : u'.cell? p = some v := by
  rcases h.2.2.2.2 p.block (World.block_lt_of_cell? _ _ hc) with h' | ⟨hB, x, f, f', hx, hx'⟩
  · exact (World.cell?_of_block h').trans hc
  · unfold World.cell? at hc ⊢
    rw [hx] at hc
    rw [hx']
    exact hc
theorem mark_chg (h : (MarkR B).r u u') : Chg (fun i => B ≤ i) u u' := ⟨h.1, h.2.1, h.2.2.1, h.2.2.2.1, fun k hk hn => by
  rcases h.2.2.2.2 k hk with h' | ⟨hB, _⟩
  · exact h'
  · exact absurd hB hn⟩
theorem mark_bs {lo hi : Nat} {v : Value} {l : List Nat} (h : (MarkR B).r u u') (hb : Bs u lo hi v l) : Bs u' lo hi v l := by
  obtain ⟨A, c, e, h1, h2, h3, h4⟩ := hb
  refine ⟨A, c, e, h1, h2, h3, ?_⟩
  rcases h4 with h4 | ⟨b, o, e, h5, h6, h7⟩
  · exact .inl h4
  · exact .inr ⟨b, o, e, h5, h6, fun i x hx => mark_cell h (h7 i x hx)⟩
theorem mark_em {lo hi : Nat} {e : Ent} {g : Hd} (h : (MarkR B).r u u') (m : Em u lo hi e g) : Em u' lo hi e g := ⟨mark_bs h m.k, mark_bs h m.v, m.bk, m.bv, m.s1, m.s2, m.d1, m.d2⟩
end
theorem bs_mark (w : World) (l : List Nat) (hl : l.length ≤ 100) (fr : Nat × Nat) : Bs (w.alloc (.cells (bv l).toArray 5 fr)) w.heap.size (w.heap.size + 1) (.slice (some ⟨w.heap.size, 0, none⟩) l.length l.length) l := by
  refine ⟨_, _, rfl, Nat.le_refl _, by simp [maxLen]; omega, (fun h => by cases h), .inr ⟨w.heap.size, 0, rfl, Nat.le_refl _, Nat.lt_succ_self _, fun i u hu => ?_⟩⟩
  rw [cell_alloc_mark_at _ _ _ _ _ _ rfl, Nat.zero_add]
  simpa using hu
theorem bl_bs {u : World} {b : Nat} {l : List Nat} {fz : Nat × Nat} (hl : l.length ≤ 100) (h : u.heap[b]? = some (.cells (bv l).toArray 5 fz)) : Bs u 0 u.heap.size (.slice (some ⟨b, 0, none⟩) l.length l.length) l := by
  refine ⟨_, _, rfl, Nat.le_refl _, by simp [maxLen]; omega, (fun h => by cases h), .inr ⟨b, 0, rfl, Nat.zero_le _, (Array.getElem?_eq_some_iff.1 h).1, fun i x hx => ?_⟩⟩
  rw [Nat.zero_add]
  unfold World.cell?
  rw [h]
  simpa using hx
def LitF (e : Ent) (v : Value) (u : World) : Prop := ∃ g : Hd, v = e.at_ g ∧ Em u 0 u.heap.size e g
def BlF (B : Nat) (l : List Nat) (v : Value) (u : World) : Prop := ∃ (b : Nat) (fz : Nat × Nat), v = .slice (some ⟨b, 0, none⟩) l.length l.length ∧ B ≤ b ∧ u.heap[b]? = some (.cells (bv l).toArray 5 fz)
theorem Fr.Mono.lit (B : Nat) (e : Ent) : Fr.Mono (MarkR B) (LitF e) := fun _ _ _ ⟨g, h, m⟩ hu => ⟨g, h, (mark_em hu m).wide (Nat.le_refl _) hu.2.2.2.1⟩
theorem Fr.Mono.bl (C B : Nat) (l : List Nat) : Fr.Mono (MarkR C) (BlF B l) := fun _ u u' ⟨b, fz, h, hB, hb⟩ hu => by
  rcases hu.2.2.2.2 b (Array.getElem?_eq_some_iff.1 hb).1 with h' | ⟨_, x, f, f', hx, hx'⟩
  · exact ⟨b, fz, h, hB, h'.trans hb⟩
  · rw [hb] at hx
    injection hx with hx
    injection hx with q1 _ _
    subst q1
    exact ⟨b, f', h, hB, hx'⟩
theorem two_es {u : World} {b : Nat} {e e' : Ent} {g g' : Hd} (h : u.heap[b]? = some (.cells (ecells (e, g) ++ ecells (e', g')).toArray 55 (0, 0))) (hm : Em u 0 u.heap.size e g) (hm' : Em u 0 u.heap.size e' g') : Es u 0 u.heap.size (some ⟨b, 0, none⟩) [(e, g), (e', g')] := by
  refine ⟨.inr ⟨b, 0, rfl, Nat.zero_le _, (Array.getElem?_eq_some_iff.1 h).1, fun i x hx => ?_⟩, fun p hp => ?_⟩
  · rw [Nat.zero_add]
    exact cell_of h (by simpa [erow] using hx)
  · simp only [List.mem_cons, List.not_mem_nil, or_false] at hp
    rcases hp with rfl | rfl
    · exact hm
    · exact hm'
end Go.Proofs.YthhgjeeangepaaaGreat
namespace Go.Proofs.YthhgjeeangepaaaGreat.Bl
def pol : Nat := 2197175160
def sh (s : Nat) : Nat := (s / 2) ^^^ (s % 2 * pol)
def shn : Nat → Nat → Nat
  | 0, s => s
  | n + 1, s => shn n (sh s)
theorem shn_add (a b s : Nat) : shn (a + b) s = shn b (shn a s) := by
  induction a generalizing s with
  | zero => rw [Nat.zero_add]; rfl
  | succ a ih => rw [show a + 1 + b = (a + b) + 1 by omega]; exact ih _
theorem shn_succ' (n s : Nat) : shn (n + 1) s = sh (shn n s) := shn_add n 1 s
theorem xor_mod2 (a b : Nat) : (a ^^^ b) % 2 = (a % 2) ^^^ (b % 2) := by
  have h := Nat.xor_mod_two_pow (a := a) (b := b) (n := 1)
  simpa using h
theorem xor_div2 (a b : Nat) : (a ^^^ b) / 2 = (a / 2) ^^^ (b / 2) := by
  have h := Nat.xor_div_two_pow (a := a) (b := b) (n := 1)
  simpa using h
theorem bit_mul (a b p : Nat) : ((a % 2) ^^^ (b % 2)) * p = (a % 2 * p) ^^^ (b % 2 * p) := by
  rcases Nat.mod_two_eq_zero_or_one a with h | h <;> rcases Nat.mod_two_eq_zero_or_one b with k | k <;> simp [h, k]
theorem xor_swap (a b c d : Nat) : (a ^^^ b) ^^^ (c ^^^ d) = (a ^^^ c) ^^^ (b ^^^ d) := by
  rw [Nat.xor_assoc, ← Nat.xor_assoc b c d, Nat.xor_comm b c, Nat.xor_assoc c b d, ← Nat.xor_assoc]
theorem sh_xor (a b : Nat) : sh (a ^^^ b) = sh a ^^^ sh b := by
  unfold sh
  rw [xor_div2, xor_mod2, bit_mul, xor_swap]
theorem shn_xor (n a b : Nat) : shn n (a ^^^ b) = shn n a ^^^ shn n b := by
  induction n generalizing a b with
  | zero => rfl
  | succ n ih => unfold shn; rw [sh_xor, ih]
theorem xor_lt {a b : Nat} (h : a < 4294967296) (k : b < 4294967296) : a ^^^ b < 4294967296 := Nat.xor_lt_two_pow (n := 32) h k
theorem sh_lt {s : Nat} (h : s < 4294967296) : sh s < 4294967296 := by
  unfold sh
  refine xor_lt (by omega) ?_
  have : s % 2 < 2 := Nat.mod_lt _ (by omega)
  unfold pol
  omega
theorem shn_lt {n s : Nat} (h : s < 4294967296) : shn n s < 4294967296 := by
  induction n generalizing s with
  | zero => exact h
  | succ n ih => exact ih (sh_lt h)
def reg : Nat → List Nat → Nat
  | s, [] => s
  | s, c :: l => reg (shn 8 (s ^^^ c)) l
theorem reg_append (s : Nat) (l r : List Nat) : reg s (l ++ r) = reg (reg s l) r := by
  induction l generalizing s with
  | nil => rfl
  | cons c l ih => exact ih _
theorem reg_snoc (s : Nat) (l : List Nat) (c : Nat) : reg s (l ++ [c]) = shn 8 (reg s l ^^^ c) := by rw [reg_append]; rfl
theorem reg_lt {s : Nat} {l : List Nat} (h : s < 4294967296) (hl : ∀ c ∈ l, c < 256) : reg s l < 4294967296 := by
  induction l generalizing s with
  | nil => exact h
  | cons c l ih => exact ih (shn_lt (xor_lt h (by have := hl c (by simp); omega))) (fun x hx => hl x (by simp [hx]))
def ones : Nat := 4294967295
theorem ones_lt : ones < 4294967296 := by unfold ones; omega
def more (sum : Nat) (l : List Nat) : Nat := reg (sum ^^^ ones) l ^^^ ones
def crc (l : List Nat) : Nat := reg ones l ^^^ ones
theorem crc_lt {l : List Nat} (hl : ∀ c ∈ l, c < 256) : crc l < 4294967296 := xor_lt (reg_lt ones_lt hl) ones_lt
theorem more_lt {s : Nat} {l : List Nat} (h : s < 4294967296) (hl : ∀ c ∈ l, c < 256) : more s l < 4294967296 := xor_lt (reg_lt (xor_lt h ones_lt) hl) ones_lt
theorem more_zero (l : List Nat) : more 0 l = crc l := by unfold more crc; rw [Nat.zero_xor]
theorem shn4 (r : Nat) : shn 4 r = (r / 16) ^^^ shn 4 (r % 16) := by
  have h : r = (r / 16 * 16) ^^^ (r % 16) := by
    apply Nat.eq_of_testBit_eq
    intro i
    rw [Nat.testBit_xor, show r / 16 * 16 = (r / 2 ^ 4) <<< 4 by rw [Nat.shiftLeft_eq], Nat.testBit_shiftLeft, show r % 16 = r % 2 ^ 4 from rfl, Nat.testBit_mod_two_pow]
    by_cases hi : 4 ≤ i
    · have e2 : (r / 2 ^ 4).testBit (i - 4) = r.testBit i := by rw [Nat.testBit_div_two_pow]; congr 1; omega
      rw [e2]
      simp [hi, show ¬ i < 4 by omega]
    · simp [hi, show i < 4 by omega]
  have e2 : ∀ q, sh (2 * q) = q := by
    intro q; unfold sh
    rw [show 2 * q / 2 = q by omega, show 2 * q % 2 = 0 by omega, Nat.zero_mul, Nat.xor_zero]
  have e4 : shn 4 (r / 16 * 16) = r / 16 := by
    simp only [shn]
    rw [show r / 16 * 16 = 2 * (2 * (2 * (2 * (r / 16)))) by omega, e2, e2, e2, e2]
  conv => lhs; rw [h, shn_xor, e4]
theorem shn4_lt16 {n : Nat} (h : n < 16) : shn 4 n < 4294967296 := shn_lt (by omega)
end Go.Proofs.YthhgjeeangepaaaGreat.Bl
namespace Go.Proofs.YthhgjeeangepaaaGreat.Bl
def bsize (n : Nat) : Nat := (n / 8 + 1) * 8
theorem bsize_pos (n : Nat) : 8 ≤ bsize n := by unfold bsize; omega
theorem bsize_mod (n : Nat) : bsize n % 8 = 0 := by unfold bsize; omega
theorem bsize_le {n : Nat} (h : n ≤ 65536) : bsize n ≤ 65544 := by unfold bsize; omega
def way (l : List Nat) : Nat := crc (l ++ [1]) ||| 1
def kb (l : List Nat) (m i : Nat) : Nat := (crc l + i * way l) % 4294967296 % m
def kbs (l : List Nat) (m : Nat) : List Nat := [kb l m 0, kb l m 1, kb l m 2, kb l m 3, kb l m 4]
theorem kbs_length (l : List Nat) (m : Nat) : (kbs l m).length = 5 := rfl
theorem kbs_get (l : List Nat) (m i : Nat) (h : i < (kbs l m).length) : (kbs l m)[i] = kb l m i := by
  have h' : i < 5 := h
  match i, h' with
  | 0, _ => rfl
  | 1, _ => rfl
  | 2, _ => rfl
  | 3, _ => rfl
  | 4, _ => rfl
theorem kb_lt {l : List Nat} {m i : Nat} (h : 0 < m) : kb l m i < m := Nat.mod_lt _ h
theorem kbs_lt {l : List Nat} {m j : Nat} (h : 0 < m) (hj : j ∈ kbs l m) : j < m := by
  unfold kbs at hj
  simp only [List.mem_cons, List.not_mem_nil, or_false] at hj
  rcases hj with rfl | rfl | rfl | rfl | rfl <;> exact kb_lt h
theorem or_lt {a b : Nat} (h : a < 4294967296) (k : b < 4294967296) : a ||| b < 4294967296 := Nat.or_lt_two_pow (n := 32) h k
def bitOf (F : List Nat) (j : Nat) : Bool := F.getD (j / 8) 0 / 2 ^ (j % 8) % 2 == 1
def setB (F : List Nat) (j : Nat) : List Nat := F.set (j / 8) (F.getD (j / 8) 0 ||| 2 ^ (j % 8))
def addK (F l : List Nat) : List Nat := (kbs l (8 * F.length)).foldl setB F
def mk (ls : List (List Nat)) : List Nat := ls.foldl addK (List.replicate (bsize ls.length) 0)
def okF (n : Nat) : Bool := decide (n ≠ 0 ∧ n % 8 = 0 ∧ n ≤ 131072)
def mayB (F l : List Nat) : Bool := (kbs l (8 * F.length)).all (bitOf F)
theorem setB_length (F : List Nat) (j : Nat) : (setB F j).length = F.length := by simp [setB]
theorem setBs_length (js F : List Nat) : (js.foldl setB F).length = F.length := by
  induction js generalizing F with
  | nil => rfl
  | cons j js ih => rw [List.foldl_cons, ih, setB_length]
theorem addK_length (F l : List Nat) : (addK F l).length = F.length := setBs_length _ _
theorem addKs_length (ls : List (List Nat)) (F : List Nat) : (ls.foldl addK F).length = F.length := by
  induction ls generalizing F with
  | nil => rfl
  | cons l ls ih => rw [List.foldl_cons, ih, addK_length]
theorem mk_length (ls : List (List Nat)) : (mk ls).length = bsize ls.length := by unfold mk; rw [addKs_length, List.length_replicate]
theorem byte_or : ∀ x, x < 256 → ∀ k, k < 8 → x ||| 2 ^ k < 256 := by decide +kernel
theorem byte_set : ∀ x, x < 256 → ∀ k, k < 8 → (x ||| 2 ^ k) = if x / 2 ^ k % 2 = 1 then x else x + 2 ^ k := by decide +kernel
theorem byte_and : ∀ x, x < 256 → ∀ k, k < 8 → (x &&& 2 ^ k == 0) = !(x / 2 ^ k % 2 == 1) := by decide +kernel
theorem getD_lt {F : List Nat} (h : ∀ x ∈ F, x < 256) (i : Nat) : F.getD i 0 < 256 := by
  rcases Nat.lt_or_ge i F.length with hi | hi
  · rw [List.getD_eq_getElem?_getD, List.getElem?_eq_getElem hi]; exact h _ (List.getElem_mem hi)
  · rw [List.getD_eq_getElem?_getD, List.getElem?_eq_none hi]; decide
theorem setB_lt {F : List Nat} (h : ∀ x ∈ F, x < 256) (j : Nat) : ∀ x ∈ setB F j, x < 256 := by
  intro x hx
  unfold setB at hx
  rcases List.mem_or_eq_of_mem_set hx with hx | rfl
  · exact h x hx
  · exact byte_or _ (getD_lt h _) _ (Nat.mod_lt _ (by decide))
theorem setBs_lt {js F : List Nat} (h : ∀ x ∈ F, x < 256) : ∀ x ∈ js.foldl setB F, x < 256 := by
  induction js generalizing F with
  | nil => exact h
  | cons j js ih => exact ih (setB_lt h j)
theorem addK_lt {F : List Nat} (h : ∀ x ∈ F, x < 256) (l : List Nat) : ∀ x ∈ addK F l, x < 256 := setBs_lt h
theorem addKs_lt {ls : List (List Nat)} {F : List Nat} (h : ∀ x ∈ F, x < 256) : ∀ x ∈ ls.foldl addK F, x < 256 := by
  induction ls generalizing F with
  | nil => exact h
  | cons l ls ih => exact ih (addK_lt h l)
theorem zeros_lt (n : Nat) : ∀ x ∈ List.replicate n 0, x < 256 := fun x hx => by rw [List.mem_replicate] at hx; omega
theorem mk_lt (ls : List (List Nat)) : ∀ x ∈ mk ls, x < 256 := addKs_lt (zeros_lt _)
theorem testBit_bit (x k : Nat) : (x / 2 ^ k % 2 == 1) = x.testBit k := by
  rw [Nat.testBit_eq_decide_div_mod_eq]
  rfl
theorem bitOf_test (F : List Nat) (j : Nat) : bitOf F j = (F.getD (j / 8) 0).testBit (j % 8) := testBit_bit _ _
theorem bitOf_setB (F : List Nat) (i j : Nat) (hi : i < 8 * F.length) : bitOf (setB F i) j = (bitOf F j || decide (i = j)) := by
  rw [bitOf_test, bitOf_test]
  unfold setB
  have hb : i / 8 < F.length := by omega
  by_cases h : i / 8 = j / 8
  · rw [← h]
    rw [List.getD_eq_getElem?_getD, List.getElem?_set_self hb, Option.getD_some, Nat.testBit_or, Nat.testBit_two_pow]
    congr 1
    rw [decide_eq_decide]
    omega
  · rw [List.getD_eq_getElem?_getD, List.getElem?_set_ne h, ← List.getD_eq_getElem?_getD]
    have : ¬ i = j := fun e => h (by rw [e])
    simp [this]
theorem bitOf_setBs (js F : List Nat) (j : Nat) (hj : ∀ i ∈ js, i < 8 * F.length) : bitOf (js.foldl setB F) j = (bitOf F j || js.contains j) := by
  induction js generalizing F with
  | nil => simp
  | cons i js ih =>
    rw [List.foldl_cons, ih (setB F i) (fun k hk => by rw [setB_length]; exact hj k (by simp [hk])), bitOf_setB F i j (hj i (by simp)), Bool.or_assoc]
    congr 1
    rw [List.contains_cons]
    by_cases h : i = j
    · simp [h]
    · simp [h, Ne.symm h]
theorem bitOf_addK (F l : List Nat) (j : Nat) (h : 0 < F.length) : bitOf (addK F l) j = (bitOf F j || (kbs l (8 * F.length)).contains j) :=
  bitOf_setBs _ _ _ fun _ hi => kbs_lt (by omega) hi
theorem bitOf_addKs (ls : List (List Nat)) (F : List Nat) (j : Nat) (h : 0 < F.length) : bitOf (ls.foldl addK F) j = (bitOf F j || ls.any fun l => (kbs l (8 * F.length)).contains j) := by
  induction ls generalizing F with
  | nil => simp
  | cons l ls ih => rw [List.foldl_cons, ih (addK F l) (by rw [addK_length]; exact h), bitOf_addK F l j h, addK_length, List.any_cons, Bool.or_assoc]
theorem may_added {ls : List (List Nat)} {F l : List Nat} (h : 0 < F.length) (hl : l ∈ ls) : mayB (ls.foldl addK F) l = true := by
  unfold mayB
  rw [List.all_eq_true, addKs_length]
  intro j hj
  rw [bitOf_addKs ls F j h, Bool.or_eq_true]
  right
  rw [List.any_eq_true]
  exact ⟨l, hl, by simpa using hj⟩
theorem may_mk {ls : List (List Nat)} {l : List Nat} (hl : l ∈ ls) : mayB (mk ls) l = true :=
  may_added (by rw [List.length_replicate]; have := bsize_pos ls.length; omega) hl
def pop (b : Nat) : Nat := (List.range 8).countP fun k => b / 2 ^ k % 2 == 1
def cnt (F : List Nat) : Nat := (F.map pop).sum
theorem crc_more (l : List Nat) : more (crc l) [1] = crc (l ++ [1]) := by
  unfold crc more
  rw [reg_append, Nat.xor_assoc, Nat.xor_self, Nat.xor_zero]
end Go.Proofs.YthhgjeeangepaaaGreat.Bl
namespace Go.Proofs.YthhgjeeangepaaaGreat
open Bl (crc mk)
def Piece (p : List Ent) : Prop := p ≠ [] ∧ ∀ m, 1 ≤ m → m < p.length → (wr (p.take (m + 1))).length ≤ 512
def Link (p : List Ent) (e : Ent) : Prop := 512 < (wr (p ++ [e])).length
def Cuts : List (List Ent) → Prop
  | [] => True
  | p :: C => Piece p ∧ (∀ q C', C = q :: C' → ∃ e q', q = e :: q' ∧ Link p e) ∧ Cuts C
theorem piece_short {p p' : List Ent} {e : Ent} {F : List Ent} (hl : Link p e) (h' : Piece p') (hp : p ≠ []) (hlt : p.length < p'.length) (he : ∃ F', p' ++ F' = p ++ e :: F) : False := by
  obtain ⟨F', he⟩ := he
  have h1 := h'.2 p.length (by cases p with | nil => exact absurd rfl hp | cons a l => simp) hlt
  have e1 : p'.take (p.length + 1) = p ++ [e] := by
    have h2 := congrArg (List.take (p.length + 1)) he
    rw [List.take_append_of_le_length (by omega)] at h2
    rw [h2, List.take_append, List.take_of_length_le (by omega), show p.length + 1 - p.length = 1 by omega]; rfl
  rw [e1] at h1
  unfold Link at hl
  omega
theorem cut_unique : ∀ {C C' : List (List Ent)}, Cuts C → Cuts C' → C.flatten = C'.flatten → C = C'
  | [], [], _, _, _ => rfl
  | [], p :: C', _, h', e => by
    have := h'.1.1
    cases p with
    | nil => exact absurd rfl this
    | cons a l => simp at e
  | p :: C, [], h, _, e => by
    have := h.1.1
    cases p with
    | nil => exact absurd rfl this
    | cons a l => simp at e
  | p :: C, p' :: C', h, h', e => by
    have side : ∀ {p p' : List Ent} {C C' : List (List Ent)}, Cuts (p :: C) → Cuts (p' :: C') → p ++ C.flatten = p' ++ C'.flatten → p.length < p'.length → False := by
      intro p p' C C' h h' e hlt
      cases C with
      | nil =>
        have := congrArg List.length e
        simp at this; omega
      | cons q C2 =>
        obtain ⟨a, q', rfl, hl⟩ := h.2.1 q C2 rfl
        exact piece_short hl h'.1 h.1.1 hlt ⟨C'.flatten, by rw [← e]; simp [List.flatten_cons]; rfl⟩
    simp only [List.flatten_cons] at e
    have hn : p.length = p'.length := by
      rcases Nat.lt_trichotomy p.length p'.length with h1 | h1 | h1
      · exact (side h h' e h1).elim
      · exact h1
      · exact (side h' h e.symm h1).elim
    obtain ⟨e1, e2⟩ := List.append_inj e hn
    rw [e1, cut_unique h.2.2 h'.2.2 e2]
theorem cuts_snoc : ∀ {C : List (List Ent)} {q : List Ent}, Cuts C → Piece q → (∀ p, C.getLast? = some p → ∃ e q', q = e :: q' ∧ Link p e) → Cuts (C ++ [q])
  | [], q, _, hq, _ => ⟨hq, fun _ _ h => (by cases h), trivial⟩
  | p :: C, q, h, hq, hl => by
    refine ⟨h.1, fun r C' e => ?_, ?_⟩
    · cases C with
      | nil =>
        injection e with e1 _
        subst e1
        exact hl p rfl
      | cons r' C2 =>
        injection e with e1 _
        subst e1
        exact h.2.1 r' C2 rfl
    · refine cuts_snoc h.2.2 hq fun r hr => hl r ?_
      cases C with
      | nil => cases hr
      | cons r' C2 => rw [List.getLast?_cons_cons]; exact hr
theorem cuts_piece : ∀ {C : List (List Ent)}, Cuts C → ∀ p ∈ C, Piece p
  | [], _, _, hp => by cases hp
  | p :: C, h, q, hq => by
    rcases List.mem_cons.1 hq with rfl | hq
    · exact h.1
    · exact cuts_piece h.2.2 q hq
theorem tcuts_len : ∀ {C : List (List Ent)}, Cuts C → C.length ≤ C.flatten.length
  | [], _ => Nat.le_refl _
  | p :: C, h => by
    have h1 := tcuts_len h.2.2
    have h2 : 0 < p.length := List.length_pos_iff.2 h.1.1
    simp only [List.flatten_cons, List.length_append, List.length_cons]; omega
def MayT (L : List Ent) : Prop := 1 ≤ L.length ∧ L.length ≤ 4096 ∧ Rise L ∧ ∀ e ∈ L, e.may = true
def idx1 (p : List Ent) (at_ n : Nat) : List Nat := ((p.getLast?).map fun e => bytesForm e.key ++ (form e.seq.toNat ++ (form at_ ++ form n))).getD []
def idxs : Nat → List (List Ent) → List Nat
  | _, [] => []
  | a, p :: C => idx1 p a (wr p).length ++ idxs (a + (wr p).length) C
def blks (C : List (List Ent)) : List Nat := C.flatMap wr
def index (C : List (List Ent)) : List Nat := form C.length ++ idxs 0 C
def keyAt (L : List Ent) (i : Nat) : List (List Nat) := ((L[i]?).map fun e => if i = 0 ∨ (L[i - 1]?).map Ent.key ≠ some e.key then [e.key] else []).getD []
def keysTo (L : List Ent) (k : Nat) : List (List Nat) := (List.range k).flatMap (keyAt L)
def keysT (L : List Ent) : List (List Nat) := keysTo L L.length
def ahd (C : List (List Ent)) (L : List Ent) : List Nat := blks C ++ (index C ++ mk (keysT L))
def foot24 (C : List (List Ent)) (L : List Ent) : List Nat := be4 (blks C).length ++ (be4 (index C).length ++ (be4 ((blks C).length + (index C).length) ++ (be4 (mk (keysT L)).length ++ (be4 L.length ++ be4 (crc (ahd C L))))))
def tb (C : List (List Ent)) (L : List Ent) : List Nat := ahd C L ++ (foot24 C L ++ be4 (crc (foot24 C L)))
def IsT (b : List Nat) (L : List Ent) : Prop := MayT L ∧ ∃ C, C.flatten = L ∧ Cuts C ∧ tb C L = b
theorem foot24_len (C : List (List Ent)) (L : List Ent) : (foot24 C L).length = 24 := by unfold foot24; simp [be4_length]
theorem tb_len (C : List (List Ent)) (L : List Ent) : (tb C L).length = (ahd C L).length + 28 := by unfold tb; rw [List.length_append, List.length_append, foot24_len, be4_length]
theorem keysTo_succ (L : List Ent) (k : Nat) : keysTo L (k + 1) = keysTo L k ++ keyAt L k := by
  unfold keysTo; rw [List.range_succ, List.flatMap_append]; simp
theorem keyAt_mem {L : List Ent} {i : Nat} {k : List Nat} (h : k ∈ keyAt L i) : ∃ e ∈ L, e.key = k := by
  unfold keyAt at h
  cases he : L[i]? with
  | none => rw [he] at h; cases h
  | some e =>
    rw [he] at h
    simp only [Option.map_some, Option.getD_some] at h
    split at h
    · rw [List.mem_singleton] at h; exact ⟨e, List.mem_of_getElem? he, h.symm⟩
    · cases h
theorem keysTo_mem {L : List Ent} {n : Nat} {k : List Nat} (h : k ∈ keysTo L n) : ∃ e ∈ L, e.key = k := by
  unfold keysTo at h
  obtain ⟨i, _, hi⟩ := List.mem_flatMap.1 h
  exact keyAt_mem hi
theorem keyAt_len (L : List Ent) (i : Nat) : (keyAt L i).length ≤ 1 := by
  unfold keyAt
  cases L[i]? with
  | none => simp
  | some e => simp only [Option.map_some, Option.getD_some]; split <;> simp
theorem keysTo_len (L : List Ent) (k : Nat) : (keysTo L k).length ≤ k := by
  induction k with
  | zero => exact Nat.le_refl _
  | succ k ih => rw [keysTo_succ, List.length_append]; have := keyAt_len L k; omega
theorem keysTo_has {L : List Ent} : ∀ {i n : Nat} {e : Ent}, L[i]? = some e → i < n → e.key ∈ keysTo L n := by
  intro i
  induction i with
  | zero =>
    intro n e he hn
    exact List.mem_flatMap.2 ⟨0, List.mem_range.2 hn, by
      unfold keyAt
      rw [he]
      simp only [Option.map_some, Option.getD_some]
      rw [if_pos (Or.inl trivial)]
      exact List.mem_singleton.2 rfl⟩
  | succ i ih =>
    intro n e he hn
    by_cases h : (L[i]?).map Ent.key = some e.key
    · cases hi : L[i]? with
      | none => rw [hi] at h; cases h
      | some e' =>
        rw [hi] at h
        injection h with h
        rw [← h]
        exact ih hi (by omega)
    · exact List.mem_flatMap.2 ⟨i + 1, List.mem_range.2 hn, by
        unfold keyAt
        rw [he]
        simp only [Option.map_some, Option.getD_some, Nat.add_sub_cancel]
        rw [if_pos (.inr h)]
        exact List.mem_singleton.2 rfl⟩
theorem wr_pos (p : List Ent) : 4 ≤ (wr p).length := by rw [wr_len]; omega
theorem wr_most {p : List Ent} (hm : ∀ e ∈ p, e.may = true) : (wr p).length ≤ 65701 * p.length + 8 := by
  have h1 := upto_le hm p.length
  have h2 := ats_len p p.length
  rw [wr_len]; omega
theorem blks_most : ∀ {C : List (List Ent)}, Cuts C → (∀ e ∈ C.flatten, e.may = true) → (blks C).length ≤ 65709 * C.flatten.length
  | [], _, _ => Nat.le_refl _
  | p :: C, h, hm => by
    have h1 := blks_most h.2.2 (fun e he => hm e (by rw [List.flatten_cons]; exact List.mem_append_right _ he))
    have h2 := wr_most (p := p) (fun e he => hm e (by rw [List.flatten_cons]; exact List.mem_append_left _ he))
    have h3 : 0 < p.length := List.length_pos_iff.2 h.1.1
    unfold blks at h1 ⊢
    simp only [List.flatMap_cons, List.flatten_cons, List.length_append]
    omega
theorem idx1_most {p : List Ent} {a n : Nat} (hm : ∀ e ∈ p, e.may = true) (ha : a < 1000000000000) (hn : n < 1000000000000) : (idx1 p a n).length ≤ 72 := by
  unfold idx1
  cases h : p.getLast? with
  | none => simp
  | some e =>
    obtain ⟨u1, u2, u3, u4⟩ := Ent.may_u64 (hm e (List.mem_of_getLast? h))
    obtain ⟨h1, h2, h3, h4, h5⟩ := mayN_iff.1 (hm e (List.mem_of_getLast? h))
    have a1 := (bytesForm_len u1).1
    have a2 := form_len64 u2
    have a3 := form_len64 (n := a) ⟨by omega⟩
    have a4 := form_len64 (n := n) ⟨by omega⟩
    simp only [Option.map_some, Option.getD_some, List.length_append]
    omega
theorem idxs_most : ∀ {C : List (List Ent)} {a : Nat}, Cuts C → (∀ e ∈ C.flatten, e.may = true) → a + (blks C).length < 1000000000000 → (idxs a C).length ≤ 72 * C.length
  | [], _, _, _, _ => Nat.le_refl _
  | p :: C, a, h, hm, hb => by
    unfold blks at hb
    simp only [List.flatMap_cons, List.length_append] at hb
    have h1 := idxs_most (a := a + (wr p).length) h.2.2 (fun e he => hm e (by rw [List.flatten_cons]; exact List.mem_append_right _ he)) (by unfold blks; omega)
    have h2 := idx1_most (p := p) (a := a) (n := (wr p).length) (fun e he => hm e (by rw [List.flatten_cons]; exact List.mem_append_left _ he)) (by omega) (by omega)
    unfold idxs
    simp only [List.length_append, List.length_cons]
    omega
structure Few (C : List (List Ent)) (L : List Ent) : Prop where
  b : (blks C).length ≤ 269144064
  c : C.length ≤ 4096
  i : (index C).length ≤ 294922
  f : (mk (keysT L)).length ≤ 65544
  a : (ahd C L).length ≤ 300000000
theorem few {C : List (List Ent)} {L : List Ent} (h : MayT L) (hc : Cuts C) (hf : C.flatten = L) : Few C L := by
  have h1 := blks_most hc (fun e he => h.2.2.2 e (hf ▸ he))
  have h2 := tcuts_len hc
  rw [hf] at h1 h2
  have h3 := h.2.1
  have h4 := idxs_most (a := 0) hc (fun e he => h.2.2.2 e (hf ▸ he)) (by omega)
  have h5 := form_len64 (n := C.length) ⟨by omega⟩
  have h6 : (mk (keysT L)).length ≤ 65544 := by
    rw [Bl.mk_length]
    exact Bl.bsize_le (Nat.le_trans (keysTo_len L L.length) (by omega))
  have h7 : (index C).length ≤ 294922 := by unfold index; rw [List.length_append]; omega
  exact ⟨by omega, by omega, h7, h6, by unfold ahd; rw [List.length_append, List.length_append]; omega⟩
theorem kform_zero {ah : List Nat} {e : Ent} {r r' : List Nat} (h : e.may = true) (he : kform ah e ++ r = 0 :: 0 :: r') : False := by
  obtain ⟨h1, h2, h3, h4, h5⟩ := mayN_iff.1 h
  have hs := shr_le_r ah e.key
  unfold kform at he
  rw [form_lo (show shr ah e.key < 128 by omega)] at he
  simp only [List.append_assoc, List.cons_append, List.nil_append] at he
  injection he with e1 e2
  unfold bytesForm at e2
  rw [e1, List.drop_zero, form_lo (show e.key.length < 128 by omega)] at e2
  simp only [List.cons_append, List.nil_append] at e2
  injection e2 with e3 _
  omega
def tailB (L : List Ent) : List Nat := (ats L L.length).flatMap be4 ++ be4 (ats L L.length).length
theorem tailB_zero {L : List Ent} (h : 1 ≤ L.length) : ∃ r, tailB L = 0 :: 0 :: r := by
  have h1 := ats_get L L.length 0 (by omega)
  unfold tailB
  cases ha : ats L L.length with
  | nil => rw [ha] at h1; cases h1
  | cons a l =>
    rw [ha] at h1
    have h2 : a = 0 := by simpa [upto_zero] using h1
    subst h2
    exact ⟨_, rfl⟩
theorem wr_split (L : List Ent) : wr L = fromK L 0 ++ tailB L := by rw [fromK_zero]; rfl
theorem cut_at {L M : List Ent} {R R' : List Nat} (h : MayB L) (k : MayB M) (he : wr L ++ R = wr M ++ R') : ∀ n, n ≤ L.length → n ≤ M.length ∧ L.take n = M.take n ∧ fromK L n ++ (tailB L ++ R) = fromK M n ++ (tailB M ++ R') := by
  intro n
  induction n with
  | zero =>
    intro _
    refine ⟨Nat.zero_le _, rfl, ?_⟩
    rw [wr_split, wr_split, List.append_assoc, List.append_assoc] at he
    exact he
  | succ n ih =>
    intro hn
    obtain ⟨h1, h2, h3⟩ := ih (by omega)
    have hk : n < L.length := by omega
    have hah : ahOf L n = ahOf M n := by
      unfold ahOf
      split
      · rfl
      · have e1 : L[n - 1]? = (L.take n)[n - 1]? := by rw [List.getElem?_take, if_pos (by omega)]
        have e2 : M[n - 1]? = (M.take n)[n - 1]? := by rw [List.getElem?_take, if_pos (by omega)]
        rw [e1, e2, h2]
    have hm : n < M.length := by
      rcases Nat.lt_or_ge n M.length with hx | hx
      · exact hx
      · exfalso
        obtain ⟨r, hr⟩ := tailB_zero k.1
        rw [fromK_end M hx, fromK_at hk, piece_at (List.getElem?_eq_getElem hk), List.nil_append, hr, List.append_assoc] at h3
        exact kform_zero (h.2.2.2 _ (List.getElem_mem hk)) h3
    have h4 := h3
    rw [fromK_at hk, fromK_at hm, piece_at (List.getElem?_eq_getElem hk), piece_at (List.getElem?_eq_getElem hm), hah, List.append_assoc, List.append_assoc] at h4
    have s1 := stands_kform (ah := ahOf M n) (h.2.2.2 _ (List.getElem_mem hk)) (fromK L (n + 1) ++ (tailB L ++ R))
    have s2 := stands_kform (ah := ahOf M n) (k.2.2.2 _ (List.getElem_mem hm)) (fromK M (n + 1) ++ (tailB M ++ R'))
    rw [h4] at s1
    obtain ⟨e1, e2⟩ := s1.unique s2
    refine ⟨hm, ?_, e2⟩
    rw [List.take_add_one, List.take_add_one, h2, List.getElem?_eq_getElem hk, List.getElem?_eq_getElem hm, e1]
theorem wr_cut {L M : List Ent} {R R' : List Nat} (h : MayB L) (k : MayB M) (he : wr L ++ R = wr M ++ R') : L = M ∧ R = R' := by
  obtain ⟨h1, h2, _⟩ := cut_at h k he L.length (Nat.le_refl _)
  obtain ⟨k1, _, _⟩ := cut_at k h he.symm M.length (Nat.le_refl _)
  have e : L.length = M.length := by omega
  rw [List.take_length, e, List.take_length] at h2
  subst h2
  exact ⟨rfl, List.append_cancel_left he⟩
theorem kform_four {ah : List Nat} {e : Ent} (h : e.may = true) : 4 ≤ (kform ah e).length := by
  obtain ⟨u1, u2, u3, u4⟩ := Ent.may_u64 h
  have := form_pos (shr ah e.key)
  have := form_pos e.seq.toNat
  have := form_pos e.kind.toNat
  have h2 : 0 < (bytesForm (e.key.drop (shr ah e.key))).length := by
    have := form_pos (e.key.drop (shr ah e.key)).length
    unfold bytesForm; rw [List.length_append]; omega
  unfold kform
  simp only [List.length_append]
  omega
theorem upto_four {L : List Ent} (hm : ∀ e ∈ L, e.may = true) (k : Nat) (hk : k ≤ L.length) : 4 * k ≤ (upto L k).length := by
  induction k with
  | zero => exact Nat.zero_le _
  | succ k ih =>
    have := ih (by omega)
    rw [upto_succ, List.length_append, piece_at (List.getElem?_eq_getElem (show k < L.length by omega))]
    have := kform_four (ah := ahOf L k) (hm _ (List.getElem_mem (show k < L.length by omega)))
    omega
theorem piece_few {p : List Ent} (h : Piece p) (hm : ∀ e ∈ p, e.may = true) : p.length ≤ 128 := by
  rcases Nat.lt_or_ge 1 p.length with h1 | h1
  · have h2 := h.2 (p.length - 1) (by omega) (by omega)
    rw [show p.length - 1 + 1 = p.length by omega, List.take_length, wr_len] at h2
    have := upto_four hm p.length (Nat.le_refl _)
    omega
  · omega
theorem rise_part {L A B D : List Ent} (h : Rise L) (he : L = A ++ (B ++ D)) : Rise B := by
  subst he
  intro j a b ha hb
  have hj : j < B.length := (List.getElem?_eq_some_iff.1 ha).1
  have hj1 : j + 1 < B.length := (List.getElem?_eq_some_iff.1 hb).1
  refine h (A.length + j) a b ?_ ?_
  · rw [List.getElem?_append_right (by omega), show A.length + j - A.length = j by omega, List.getElem?_append_left hj]; exact ha
  · rw [List.getElem?_append_right (by omega), show A.length + j + 1 - A.length = j + 1 by omega, List.getElem?_append_left hj1]; exact hb
theorem pieces_mayB {C : List (List Ent)} (hr : Rise C.flatten) (hm : ∀ e ∈ C.flatten, e.may = true) (hc : Cuts C) : ∀ p ∈ C, MayB p := by
  intro p hp
  obtain ⟨A, B, rfl⟩ := List.append_of_mem hp
  have hmp : ∀ e ∈ p, e.may = true := fun e he => hm e (List.mem_flatten.2 ⟨p, hp, he⟩)
  have h1 := cuts_piece hc p hp
  have h2 := piece_few h1 hmp
  have h3 : 0 < p.length := List.length_pos_iff.2 h1.1
  refine ⟨by omega, by omega, ?_, hmp⟩
  exact rise_part (A := A.flatten) (D := B.flatten) hr (by simp)
theorem wr_head {p : List Ent} (h : MayB p) : ∃ r, wr p = 0 :: r := by
  have hl := h.1
  rw [wr_split, fromK_at (by omega), piece_at (List.getElem?_eq_getElem (by omega))]
  unfold kform
  have : ahOf p 0 = [] := rfl
  rw [this, shr_nil, form_lo (by omega)]
  exact ⟨_, rfl⟩
theorem blks_cut : ∀ {C C' : List (List Ent)} {a a' : Nat} {R R' : List Nat}, (∀ p ∈ C, MayB p) → (∀ p ∈ C', MayB p) → a ≠ 0 → a' ≠ 0 → blks C ++ a :: R = blks C' ++ a' :: R' → C = C' ∧ a :: R = a' :: R'
  | [], [], _, _, _, _, _, _, _, _, h => ⟨rfl, h⟩
  | [], p :: C', _, _, _, _, _, h', ha, _, h => by
    obtain ⟨r, hr⟩ := wr_head (h' p (List.mem_cons_self ..))
    unfold blks at h
    rw [List.flatMap_cons, hr] at h
    injection h with h _
    exact absurd h ha
  | p :: C, [], _, _, _, _, h', _, _, ha, h => by
    obtain ⟨r, hr⟩ := wr_head (h' p (List.mem_cons_self ..))
    unfold blks at h
    rw [List.flatMap_cons, hr] at h
    injection h with h _
    exact absurd h.symm ha
  | p :: C, p' :: C', _, _, _, _, h1, h2, ha, ha', h => by
    unfold blks at h
    rw [List.flatMap_cons, List.flatMap_cons, List.append_assoc, List.append_assoc] at h
    obtain ⟨rfl, h4⟩ := wr_cut (h1 p (List.mem_cons_self ..)) (h2 p' (List.mem_cons_self ..)) h
    obtain ⟨rfl, h3⟩ := blks_cut (fun q hq => h1 q (List.mem_cons_of_mem _ hq)) (fun q hq => h2 q (List.mem_cons_of_mem _ hq)) ha ha' h4
    exact ⟨rfl, h3⟩
theorem form_head {n : Nat} (h : n ≠ 0) : ∃ a r, form n = a :: r ∧ a ≠ 0 := by
  by_cases hn : n < 128
  · exact ⟨n, [], form_lo hn, h⟩
  · exact ⟨_, _, form_hi hn, by omega⟩
theorem tb_cut {C C' : List (List Ent)} {L L' : List Ent} {more : List Nat} (h : MayT L) (h' : MayT L') (hc : Cuts C) (hc' : Cuts C') (hf : C.flatten = L) (hf' : C'.flatten = L') (he : tb C L ++ more = tb C' L') : C = C' ∧ L = L' ∧ more = [] := by
  have hn : C.length ≠ 0 := fun e => by
    have := List.eq_nil_of_length_eq_zero e
    subst this; subst hf
    have := h.1; simp at this
  have hn' : C'.length ≠ 0 := fun e => by
    have := List.eq_nil_of_length_eq_zero e
    subst this; subst hf'
    have := h'.1; simp at this
  obtain ⟨a, r, ha, ha0⟩ := form_head hn
  obtain ⟨a', r', ha', ha0'⟩ := form_head hn'
  have hm := pieces_mayB (hf ▸ h.2.2.1) (hf ▸ h.2.2.2) hc
  have hm' := pieces_mayB (hf' ▸ h'.2.2.1) (hf' ▸ h'.2.2.2) hc'
  have he2 := he
  unfold tb ahd index at he2
  rw [ha, ha'] at he2
  simp only [List.append_assoc, List.cons_append] at he2
  obtain ⟨e1, _⟩ := blks_cut hm hm' ha0 ha0' he2
  subst e1
  have e2 : L = L' := hf.symm.trans hf'
  subst e2
  refine ⟨rfl, rfl, ?_⟩
  have := congrArg List.length he
  rw [List.length_append] at this
  exact List.eq_nil_of_length_eq_zero (by omega)
theorem IsT.unique {b : List Nat} {L M : List Ent} (h : IsT b L) (k : IsT b M) : L = M := by
  obtain ⟨h1, C, h2, h3, h4⟩ := h
  obtain ⟨k1, D, k2, k3, k4⟩ := k
  exact (tb_cut (more := []) h1 k1 h3 k3 h2 k2 (by rw [List.append_nil, h4, k4])).2.1
end Go.Proofs.YthhgjeeangepaaaGreat
namespace Go.Proofs.YthhgjeeangepaaaGreat
open Go.ChangeShapes Go.WideShapes Go.ChangeAt Go.RowKit
def Fit (L : List Ent) (n : Nat) : Prop := 1 ≤ n ∧ n ≤ L.length ∧ Piece (L.take n) ∧ ∀ e, L[n]? = some e → Link (L.take n) e
theorem piece_drop (L : List Ent) (k i : Nat) : pieceOf (L.drop (4 * k)) i = pieceOf L (4 * k + i) := by
  unfold pieceOf
  rw [List.getElem?_drop]
  have h : ahOf (L.drop (4 * k)) i = ahOf L (4 * k + i) := by
    unfold ahOf
    by_cases hi : i % 4 = 0
    · rw [if_pos hi, if_pos (by omega)]
    · rw [if_neg hi, if_neg (by omega), List.getElem?_drop, show 4 * k + (i - 1) = 4 * k + i - 1 by omega]
  rw [h]
theorem upto_drop (L : List Ent) (k : Nat) : ∀ j, upto L (4 * k + j) = upto L (4 * k) ++ upto (L.drop (4 * k)) j
  | 0 => by rw [upto_zero, List.append_nil]; rfl
  | j + 1 => by rw [show 4 * k + (j + 1) = 4 * k + j + 1 by omega, upto_succ, upto_drop L k j, upto_succ, piece_drop, List.append_assoc]
theorem piece_take {L : List Ent} {n i : Nat} (h : i < n) : pieceOf (L.take n) i = pieceOf L i := by
  unfold pieceOf
  rw [List.getElem?_take, if_pos h]
  have h2 : ahOf (L.take n) i = ahOf L i := by
    unfold ahOf
    split
    · rfl
    · rw [List.getElem?_take, if_pos (by omega)]
  rw [h2]
theorem upto_take (L : List Ent) (n : Nat) : ∀ j, j ≤ n → upto (L.take n) j = upto L j
  | 0, _ => rfl
  | j + 1, h => by rw [upto_succ, upto_succ, upto_take L n j (by omega), piece_take (by omega)]
theorem wr_take_len {L : List Ent} {n : Nat} (h : n ≤ L.length) : (wr (L.take n)).length = (upto L n).length + 4 * ((n + 3) / 4) + 4 := by
  have hl : (L.take n).length = n := by rw [List.length_take]; omega
  rw [wr_len, hl, upto_take L n n (Nat.le_refl _), ats_len]
theorem wr_part {L : List Ent} {n : Nat} (h : n < L.length) : (wr (L.take (n + 1))).length = (upto L (4 * (n / 4))).length + 4 * (n / 4) + (wr ((L.take (n + 1)).drop (4 * (n / 4)))).length := by
  have hp : (L.take (n + 1)).drop (4 * (n / 4)) = (L.drop (4 * (n / 4))).take (n + 1 - 4 * (n / 4)) := List.drop_take
  rw [hp, wr_take_len (by omega), wr_take_len (by rw [List.length_drop]; omega)]
  have h1 := congrArg List.length (upto_drop L (n / 4) (n + 1 - 4 * (n / 4)))
  rw [List.length_append, show 4 * (n / 4) + (n + 1 - 4 * (n / 4)) = n + 1 by omega] at h1
  omega
theorem part_may {L : List Ent} {n : Nat} (hr : Rise L) (hm : ∀ e ∈ L, e.may = true) (h : n < L.length) : MayB ((L.take (n + 1)).drop (4 * (n / 4))) := by
  refine ⟨by simp only [List.length_drop, List.length_take]; omega, by simp only [List.length_drop, List.length_take]; omega, ?_, fun e he => hm e (List.mem_of_mem_take (List.mem_of_mem_drop he))⟩
  refine rise_part (A := L.take (4 * (n / 4))) (D := L.drop (n + 1)) hr ?_
  have e1 : (L.take (n + 1)).take (4 * (n / 4)) = L.take (4 * (n / 4)) := by rw [List.take_take]; congr 1; omega
  rw [← e1, ← List.append_assoc, List.take_append_drop, List.take_append_drop]
def wholeN (L : List Ent) (n : Nat) : Nat := (upto L (4 * (n / 4))).length + 4 * (n / 4)
theorem wholeN_part {L : List Ent} {n : Nat} (h : n < L.length) : (wr (L.take (n + 1))).length = wholeN L n + (wr ((L.take (n + 1)).drop (n / 4 * 4))).length := by
  rw [Nat.mul_comm (n / 4) 4]
  exact wr_part h
theorem wholeN_next {L : List Ent} {n : Nat} (h : n < L.length) (h3 : n % 4 = 3) : (wr (L.take (n + 1))).length = wholeN L (n + 1) + 4 := by
  rw [wr_take_len (by omega)]
  unfold wholeN
  rw [show 4 * ((n + 1) / 4) = n + 1 by omega]
  omega
theorem wholeN_stay {L : List Ent} {n : Nat} (h3 : n % 4 ≠ 3) : wholeN L (n + 1) = wholeN L n := by
  unfold wholeN
  rw [show (n + 1) / 4 = n / 4 by omega]
theorem wr_few {L : List Ent} {n : Nat} (hm : ∀ e ∈ L, e.may = true) (h : n ≤ L.length) (hl : L.length ≤ 4096) : (wr (L.take n)).length ≤ 300000000 := by
  rw [wr_take_len h]
  have := upto_le hm n
  omega
set_option maxRecDepth 100000 in
set_option maxHeartbeats 4000000 in
theorem fit_any {w : World} {lo hi c : Nat} {A : Option Addr} {L : List (Ent × Hd)} (h : Es w lo hi A L) (hhi : hi ≤ w.heap.size) (hlc : L.length ≤ c) (hlen : L.length ≤ 4096) (h1 : 1 ≤ L.length) (hr : Rise (L.map Prod.fst)) (hm : ∀ e ∈ L.map Prod.fst, e.may = true) :
    Calls Tryz.prog 118 #[.slice A L.length c] w fun x w' => ∃ n : Nat, x = .returned (.int .i64 (n : Int)) ∧ Fit (L.map Prod.fst) n ∧ Ext w w' := by
  have HE := Lib.hid h
  have HHI := Lib.hid hhi
  have HLC := Lib.hid hlc
  obtain ⟨Ls, hLs⟩ : ∃ Ls, Ls = L.map Prod.fst := ⟨_, rfl⟩
  have HLS := Lib.hid hLs
  have HN : Hid (Ls.length = L.length) := by rw [hLs]; simp [Hid]
  rw [← hLs] at hr hm ⊢
  have HR := Lib.hid hr
  have HM := Lib.hid hm
  have HL := Lib.hid hlen
  have H1 := Lib.hid h1
  have hlI : (L.length : Int) ≤ 4096 := by omega
  clear h hhi hlc hLs hr hm hlen h1
  go_enter Tryz.func118, Tryz.ntmps118
  go_wp2_with fail
  go_loopw [3, 4, 5, 6, 9] (fun whole _ _ _ i wr => ∃ k : Nat, k ≤ L.length ∧ i = .int .i64 (k : Int) ∧ whole = .int .i64 (wholeN Ls k : Int) ∧ Hid (∀ m, 1 ≤ m → m < k → (_root_.Go.Proofs.YthhgjeeangepaaaGreat.wr (Ls.take (m + 1))).length ≤ 512) ∧ Hid (Ext w wr)) (fun _ _ _ _ i _ => L.length - (intOf i).toNat)
  case atStart => exact ⟨0, Nat.zero_le _, rfl, rfl, fun m h1 h2 => absurd h2 (by omega), Ext.refl _⟩
  case round =>
    obtain ⟨k, hk, rfl, rfl, HP, HX⟩ := hrel
    by_cases hlt : k < L.length
    rotate_left
    · have d : decide ((k : Int) < (L.length : Int)) = false := decide_eq_false (by omega)
      have dn : decide (k < L.length) = false := decide_eq_false hlt
      have hkl : k = L.length := by omega
      have HF : Hid (Fit Ls L.length) := by
        have hT : Ls.take L.length = Ls := List.take_of_length_le (by rw [HN.out]; exact Nat.le_refl _)
        refine ⟨H1.out, by rw [HN.out]; exact Nat.le_refl _, ⟨fun e => ?_, fun m m1 m2 => ?_⟩, fun e he => ?_⟩
        · have h5 := congrArg List.length e
          rw [hT, HN.out] at h5
          have := H1.out
          have h6 : L.length = 0 := h5
          omega
        · rw [hT] at m2 ⊢
          rw [HN.out] at m2
          exact HP.out m m1 (by omega)
        · rw [List.getElem?_eq_none (by rw [HN.out]; exact Nat.le_refl _)] at he; cases he
      clear hlt hk hkl
      go_wp2_with fail
      go_ret
      exact ⟨L.length, rfl, HF.out, HX.out⟩
    have d : decide ((k : Int) < (L.length : Int)) = true := decide_eq_true (by omega)
    have dn : decide (k < L.length) = true := decide_eq_true hlt
    have HLT := Lib.hid hlt
    have kI : (k : Int) ≤ 4095 := by omega
    have k0 : (0 : Int) ≤ (k : Int) := by omega
    have hkc : (k : Int) + 1 ≤ (c : Int) := by have := HLC.out; omega
    have hkcN : k + 1 ≤ c := by have := HLC.out; omega
    have hne : ¬ c = k / 4 * 4 := by omega
    obtain ⟨S, hS⟩ : ∃ S, S = (_root_.Go.Proofs.YthhgjeeangepaaaGreat.wr ((Ls.take (k + 1)).drop (k / 4 * 4))).length := ⟨_, rfl⟩
    have HT : Hid ((_root_.Go.Proofs.YthhgjeeangepaaaGreat.wr (Ls.take (k + 1))).length = wholeN Ls k + S) := by rw [hS]; exact wholeN_part (by rw [HN.out]; exact hlt)
    have hT3 : wholeN Ls k + S ≤ 300000000 := by rw [← HT.out]; exact wr_few HM.out (by rw [HN.out]; omega) (by rw [HN.out]; exact HL.out)
    have HSZ : Hid (Calls Tryz.prog 138 #[.slice (Option.map (fun x => x.add (k / 4 * 4 * 4)) A) (k + 1 - k / 4 * 4) (c - k / 4 * 4)] wr fun x w' => Ext wr w' ∧ x = .returned (.int .i64 (S : Int))) := by
      have hE := (HE.out.below HX.out HHI.out).take (k := k + 1) (by omega)
      have hE2 := hE.drop (k := k / 4 * 4) (c := c) (by rw [List.length_take]; omega) (by rw [List.length_take]; omega)
      rw [if_neg hne] at hE2
      have hb := bsize_any (c := c - k / 4 * 4) hE2 (Nat.le_trans HHI.out HX.out.size) (by rw [List.length_drop, List.length_take]; omega) (by rw [List.length_drop, List.length_take]; have := HL.out; omega)
      have e1 : ((L.take (k + 1)).drop (k / 4 * 4)).length = k + 1 - k / 4 * 4 := by rw [List.length_drop, List.length_take]; omega
      have e2 : ((L.take (k + 1)).drop (k / 4 * 4)).map Prod.fst = (Ls.take (k + 1)).drop (k / 4 * 4) := by rw [List.map_drop, List.map_take, HLS.out]
      rw [e1, e2, ← hS] at hb
      refine hb.mono fun x w' hx => ⟨hx.1, hx.2.1 ?_⟩
      rw [Nat.mul_comm (k / 4) 4]
      exact part_may HR.out HM.out (by rw [HN.out]; exact hlt)
    have hA : (wholeN Ls k : Int) ≤ 300000000 := by omega
    have hSI : (S : Int) ≤ 300000000 := by omega
    obtain ⟨a, ha⟩ : ∃ a, a = wholeN Ls k := ⟨_, rfl⟩
    rw [← ha] at hA hT3 HT ⊢
    have HA := Lib.hid ha
    have HT3 := Lib.hid hT3
    clear hlt hk hS ha hT3
    go_wp2_with fail
    refine HSZ.out.mono ?_
    rintro x w2 ⟨hx2, rfl⟩
    have HX2 : Hid (Ext w w2) := Ext.trans HX.out hx2
    clear hx2 HSZ
    by_cases hk0 : k = 0
    · have HPN : Hid (∀ m, 1 ≤ m → m < k + 1 → (_root_.Go.Proofs.YthhgjeeangepaaaGreat.wr (Ls.take (m + 1))).length ≤ 512) := fun m m1 m2 => absurd m2 (by omega)
      have e0 : decide ((0 : Int) < (k : Int)) = false := decide_eq_false (by omega)
      have e0n : decide (0 < k) = false := decide_eq_false (by omega)
      clear hk0
      by_cases h4 : k % 4 = 3
      · have e4 : (((k + 1 - k / 4 * 4 : Nat) : Int) == 4) = true := by rw [beq_iff_eq]; omega
        have e4n : (k + 1 - k / 4 * 4 == 4) = true := by rw [beq_iff_eq]; omega
        have HW : Hid (a + S = wholeN Ls (k + 1) + 4) := by rw [← HT.out]; exact wholeN_next (by rw [HN.out]; exact HLT.out) h4
        clear h4
        go_wp2_with fail
        go_roundw
        case rel => exact ⟨k + 1, HLT.out, by go_num, by have := HW.out; congr 1; omega, HPN, HX2⟩
        case measure => have := HLT.out; simp [intOf]; omega
      · have e4 : (((k + 1 - k / 4 * 4 : Nat) : Int) == 4) = false := by rw [beq_eq_false_iff_ne]; omega
        have e4n : (k + 1 - k / 4 * 4 == 4) = false := by rw [beq_eq_false_iff_ne]; omega
        have HW : Hid (a = wholeN Ls (k + 1)) := by rw [HA.out]; exact (wholeN_stay h4).symm
        clear h4
        go_wp2_with fail
        go_roundw
        case rel => exact ⟨k + 1, HLT.out, by go_num, by rw [← HW.out], HPN, HX2⟩
        case measure => have := HLT.out; simp [intOf]; omega
    have e0 : decide ((0 : Int) < (k : Int)) = true := decide_eq_true (by omega)
    have e0n : decide (0 < k) = true := decide_eq_true (by omega)
    by_cases hbig : 512 < a + S
    · have e1 : decide ((512 : Int) < (a : Int) + (S : Int)) = true := decide_eq_true (by omega)
      have e1n : decide (512 < a + S) = true := decide_eq_true hbig
      have HF : Hid (Fit Ls k) := by
        have hle : k ≤ Ls.length := by rw [HN.out]; have := HLT.out; omega
        have hl : (Ls.take k).length = k := by rw [List.length_take]; omega
        refine ⟨by omega, hle, ⟨fun e => ?_, fun m m1 m2 => ?_⟩, fun e he => ?_⟩
        · rw [e] at hl; simp at hl; omega
        · rw [hl] at m2
          rw [List.take_take, Nat.min_eq_left (by omega)]
          exact HP.out m m1 (by omega)
        · unfold Link
          obtain ⟨h9, rfl⟩ := List.getElem?_eq_some_iff.1 he
          rw [← List.take_succ_eq_append_getElem h9, HT.out]
          exact hbig
      clear hbig hk0
      go_wp2_with fail
      go_ret
      exact ⟨k, rfl, HF.out, HX2.out⟩
    · have e1 : decide ((512 : Int) < (a : Int) + (S : Int)) = false := decide_eq_false (by omega)
      have e1n : decide (512 < a + S) = false := decide_eq_false hbig
      have HPN : Hid (∀ m, 1 ≤ m → m < k + 1 → (_root_.Go.Proofs.YthhgjeeangepaaaGreat.wr (Ls.take (m + 1))).length ≤ 512) := fun m m1 m2 => by
        by_cases h5 : m < k
        · exact HP.out m m1 h5
        · rw [show m = k by omega, HT.out]; omega
      clear hbig hk0
      by_cases h4 : k % 4 = 3
      · have e4 : (((k + 1 - k / 4 * 4 : Nat) : Int) == 4) = true := by rw [beq_iff_eq]; omega
        have e4n : (k + 1 - k / 4 * 4 == 4) = true := by rw [beq_iff_eq]; omega
        have HW : Hid (a + S = wholeN Ls (k + 1) + 4) := by rw [← HT.out]; exact wholeN_next (by rw [HN.out]; exact HLT.out) h4
        clear h4
        go_wp2_with fail
        go_roundw
        case rel => exact ⟨k + 1, HLT.out, by go_num, by have := HW.out; congr 1; omega, HPN, HX2⟩
        case measure => have := HLT.out; simp [intOf]; omega
      · have e4 : (((k + 1 - k / 4 * 4 : Nat) : Int) == 4) = false := by rw [beq_eq_false_iff_ne]; omega
        have e4n : (k + 1 - k / 4 * 4 == 4) = false := by rw [beq_eq_false_iff_ne]; omega
        have HW : Hid (a = wholeN Ls (k + 1)) := by rw [HA.out]; exact (wholeN_stay h4).symm
        clear h4
        go_wp2_with fail
        go_roundw
        case rel => exact ⟨k + 1, HLT.out, by go_num, by rw [← HW.out], HPN, HX2⟩
        case measure => have := HLT.out; simp [intOf]; omega
end Go.Proofs.YthhgjeeangepaaaGreat
namespace Go.Proofs.YthhgjeeangepaaaGreat
open Go.ChangeShapes Go.WideShapes Go.ChangeAt Go.RowKit
theorem fit_exists {L : List Ent} (h : 1 ≤ L.length) : ∃ n, Fit L n := by
  have up : ∀ d n, n + d = L.length → 1 ≤ n → (∀ m, 1 ≤ m → m < n → (wr (L.take (m + 1))).length ≤ 512) → ∃ n, Fit L n := by
    intro d
    induction d with
    | zero =>
      intro n hn h1 hp
      refine ⟨n, h1, by omega, ⟨fun e => ?_, fun m m1 m2 => ?_⟩, fun e he => ?_⟩
      · have h6 : (L.take n).length = 0 := by rw [e]; rfl
        rw [List.length_take] at h6
        omega
      · rw [List.length_take] at m2
        rw [List.take_take, Nat.min_eq_left (by omega)]
        exact hp m m1 (by omega)
      · rw [List.getElem?_eq_none (by omega)] at he; cases he
    | succ d ih =>
      intro n hn h1 hp
      by_cases hb : (wr (L.take (n + 1))).length ≤ 512
      · exact ih (n + 1) (by omega) (by omega) fun m m1 m2 => by
          by_cases h5 : m < n
          · exact hp m m1 h5
          · rw [show m = n by omega]; exact hb
      · refine ⟨n, h1, by omega, ⟨fun e => ?_, fun m m1 m2 => ?_⟩, fun e he => ?_⟩
        · have h6 : (L.take n).length = 0 := by rw [e]; rfl
          rw [List.length_take] at h6
          omega
        · rw [List.length_take] at m2
          rw [List.take_take, Nat.min_eq_left (by omega)]
          exact hp m m1 (by omega)
        · obtain ⟨h9, rfl⟩ := List.getElem?_eq_some_iff.1 he
          unfold Link
          rw [← List.take_succ_eq_append_getElem h9]
          omega
  exact up (L.length - 1) 1 (by omega) (Nat.le_refl _) (fun m m1 m2 => by omega)
theorem fit_cons {L : List Ent} {n : Nat} {C : List (List Ent)} (h : Fit L n) (hc : Cuts C) (hf : C.flatten = L.drop n) : Cuts (L.take n :: C) ∧ (L.take n :: C).flatten = L := by
  refine ⟨⟨h.2.2.1, fun q C' e => ?_, hc⟩, by rw [List.flatten_cons, hf, List.take_append_drop]⟩
  subst e
  cases q with
  | nil => exact absurd rfl hc.1.1
  | cons a q' =>
    refine ⟨a, q', rfl, h.2.2.2 a ?_⟩
    have h2 := congrArg (fun l => l[0]?) hf
    simp only [List.flatten_cons, List.cons_append, List.getElem?_cons_zero, List.getElem?_drop, Nat.add_zero] at h2
    exact h2.symm
theorem cuts_exists : ∀ (d : Nat) (L : List Ent), L.length ≤ d → ∃ C, Cuts C ∧ C.flatten = L
  | _, [], _ => ⟨[], trivial, rfl⟩
  | 0, _ :: _, h => by simp at h
  | d + 1, a :: l, h => by
    obtain ⟨n, hn⟩ := fit_exists (L := a :: l) (by simp)
    obtain ⟨C, h1, h2⟩ := cuts_exists d ((a :: l).drop n) (by rw [List.length_drop]; have := hn.1; omega)
    exact ⟨_, fit_cons hn h1 h2⟩
theorem fit_head {p : List Ent} {C : List (List Ent)} {n : Nat} (hc : Cuts (p :: C)) (h : Fit (p :: C).flatten n) : n = p.length := by
  obtain ⟨D, h1, h2⟩ := cuts_exists _ ((p :: C).flatten.drop n) (Nat.le_refl _)
  obtain ⟨h3, h4⟩ := fit_cons h h1 h2
  have h5 := cut_unique h3 hc h4
  injection h5 with h5 _
  have := congrArg List.length h5
  rw [List.length_take] at this
  have := h.2.1
  omega
theorem cuts_drop : ∀ {C : List (List Ent)} (k : Nat), Cuts C → Cuts (C.drop k)
  | _, 0, h => h
  | [], _ + 1, _ => trivial
  | _ :: _, k + 1, h => cuts_drop k h.2.2
def offK (C : List (List Ent)) (k : Nat) : Nat := (C.take k).flatten.length
theorem offK_zero (C : List (List Ent)) : offK C 0 = 0 := rfl
theorem offK_succ {C : List (List Ent)} {k : Nat} {p : List Ent} (h : C[k]? = some p) : offK C (k + 1) = offK C k + p.length := by
  unfold offK
  obtain ⟨h1, rfl⟩ := List.getElem?_eq_some_iff.1 h
  rw [List.take_succ_eq_append_getElem h1, List.flatten_append, List.length_append]; simp
theorem offK_all (C : List (List Ent)) : offK C C.length = C.flatten.length := by unfold offK; rw [List.take_length]
theorem flat_split (C : List (List Ent)) (k : Nat) : C.flatten = (C.take k).flatten ++ (C.drop k).flatten := by rw [← List.flatten_append, List.take_append_drop]
theorem flat_drop (C : List (List Ent)) (k : Nat) : C.flatten.drop (offK C k) = (C.drop k).flatten := by
  rw [flat_split C k]
  unfold offK
  rw [List.drop_append_of_le_length (Nat.le_refl _), List.drop_length, List.nil_append]
theorem offK_le (C : List (List Ent)) (k : Nat) : offK C k ≤ C.flatten.length := by
  rw [flat_split C k, List.length_append]
  unfold offK
  omega
theorem offK_lt {C : List (List Ent)} (hc : Cuts C) {k : Nat} (hk : k < C.length) : offK C k < C.flatten.length := by
  have h1 := offK_succ (List.getElem?_eq_getElem hk)
  have h2 := offK_le C (k + 1)
  have h3 : 0 < (C[k]).length := List.length_pos_iff.2 (cuts_piece hc _ (List.getElem_mem hk)).1
  omega
theorem enters_pieces1 : ∀ args w, (callFunc 117 args).run Tryz.prog w = .ok (.enter 117 args) w := enters_of Tryz.func117 (by kernel_rfl) rfl
theorem pieces_any (A : Option Addr) (n c : Nat) (w : World) : Calls Tryz.prog 77 #[.slice A n c] w fun x w' => x = .returned (.func (.func 117) #[] #[.pointer (some ⟨w.heap.size, 0, none⟩)]) ∧ w' = w.alloc (.cells #[.slice A n c] 22) := by
  have hmf := mkf
  go_enter Tryz.func77, Tryz.ntmps77
  go_wp2_with fail
  go_ret
  simp
def PcOk (C : List (List Ent)) (_n₁ k : Nat) (x : Nat × Nat) (_w : World) : Prop := ∃ p, C[k]? = some p ∧ x = (offK C k, p.length)
def pcV (b o c : Nat) (x : Nat × Nat) : Array Value := #[.slice (some ⟨b, o + x.1 * 4, none⟩) x.2 (c - x.1)]
def PcC (pb lo hi : Nat) (A : Option Addr) (L : List (Ent × Hd)) (c : Nat) (w : World) : Prop := w.cell? ⟨pb, 0, none⟩ = some (.slice A L.length c) ∧ Es w lo hi A L ∧ hi ≤ w.heap.size
theorem pc_tail (b o r cc m : Nat) (h : m ≤ r) (hc : r ≤ cc) : ∃ A2, (∀ w, (Instr.slice 22 (.slice (some ⟨b, o, none⟩) r cc) (some (.int .i64 (m : Int))) none none).run Tryz.prog w = .ok (.slice A2 (r - m) (cc - m)) w) ∧ (m < r → A2 = some ⟨b, o + m * 4, none⟩) := by
  refine ⟨if cc = m then some ⟨b, o, none⟩ else (some (⟨b, o, none⟩ : Addr)).map (·.add (m * 4)), fun w => ?_, fun hm => ?_⟩
  · have he : Tryz.prog.underlying 22 = some (.slice (Tryz.prog.elem 22)) := by kernel_rfl
    rw [run_slice_l w 22 (some ⟨b, o, none⟩) r cc he .i64 (m : Int) (by omega) (by omega), esize w]
    simp [Result.andThen, sliced]
  · rw [if_neg (by omega)]
    show some (Addr.add _ _) = _
    rw [addr_add]
set_option maxRecDepth 100000 in
set_option maxHeartbeats 8000000 in
theorem pieces_iter {w : World} {pb lo hi c b o : Nat} {L : List (Ent × Hd)} {C : List (List Ent)} (hcu : Cuts C) (hf : C.flatten = L.map Prod.fst) (hc : L.length ≤ c) (hl : L.length ≤ 4096) (hr : Rise (L.map Prod.fst)) (hm : ∀ e ∈ L.map Prod.fst, e.may = true) :
    Iter Tryz.prog 117 #[.pointer (some ⟨pb, 0, none⟩)] C.length (pcV b o c) (PcOk C) (PcC pb lo hi (some ⟨b, o, none⟩) L c) w := by
  intro mm lab J Jx W hx hC hJ hJx h0 hY
  have HCU := Lib.hid hcu
  have HFL := Lib.hid hf
  have HCC := Lib.hid hc
  have HL := Lib.hid hl
  have HRM := Lib.hid (And.intro hr hm)
  have HC := Lib.hid hC
  have HJ := Lib.hid hJ
  have HJ0 := Lib.hid (h0 W (Ext.refl _))
  have HY := Lib.hid hY
  obtain ⟨n, hn⟩ : ∃ n, n = L.length := ⟨_, rfl⟩
  have HN := Lib.hid hn
  have HLF : Hid (C.flatten.length = n) := by rw [hf, hn]; exact List.length_map ..
  clear hcu hf hc hl hr hm hC hJ hJx h0 hY hx
  have HC2 : Hid (∀ n₁ k A, J n₁ k A → A.cell? ⟨pb, 0, none⟩ = some (.slice (some ⟨b, o, none⟩) n c)) := fun n₁ k A h => by rw [HN.out]; exact (HC.out n₁ k A h).1
  clear hn
  refine (callsIn_wide (n := 6)).1 ?_
  refine callsIn_of_wp Tryz.func117 rfl trivial ?_ rfl
  simp only [Tryz.ntmps117, List.size_toArray, List.length_cons, List.length_nil, Nat.reduceAdd, Nat.reduceSub, Array.replicate_succ, Array.replicate_zero, List.push_toArray, List.append_toArray, List.nil_append, List.cons_append]
  have c0 := HC2.out _ _ _ HJ0.out
  gi_wp2
  clear c0
  gi_loopw [3, 4] (fun x _ wr => ∃ (k off : Nat) (A2 : Option Addr), off = offK C k ∧ k ≤ C.length ∧ x = .slice A2 (n - off) (c - off) ∧ Hid (off < n → A2 = some ⟨b, o + off * 4, none⟩) ∧ Hid (J W.heap.size k wr) ∧ Hid (Step W.heap.size W.heap.size W wr))
    (fun x _ _ => match x with | .slice _ r _ => r | _ => 0)
  case atStart => exact ⟨0, 0, some ⟨b, o, none⟩, (offK_zero C).symm, Nat.zero_le _, rfl, fun _ => rfl, HJ0, Step.refl _ _ _⟩
  case round =>
    obtain ⟨k, off, A2, ho, hk, rfl, HA2, HJK, HST⟩ := hrel
    have HO := Lib.hid (And.intro ho hk)
    clear ho hk
    obtain ⟨r, hr⟩ : ∃ r, r = n - off := ⟨_, rfl⟩
    obtain ⟨cc, hcc⟩ : ∃ cc, cc = c - off := ⟨_, rfl⟩
    have HRC : Hid (r = n - off ∧ cc = c - off) := ⟨hr, hcc⟩
    rw [← hr, ← hcc]
    clear hr hcc
    by_cases hlt : off < n
    · have d : decide ((0 : Int) < (r : Int)) = true := decide_eq_true (by have := HRC.out; omega)
      have dn : decide (0 < r) = true := decide_eq_true (by have := HRC.out; omega)
      have HLT := Lib.hid hlt
      rw [HA2.out hlt]
      have hkC : k < C.length := by
        rcases Nat.lt_or_ge k C.length with h | h
        · exact h
        · have h1 : k = C.length := by have := HO.out.2; omega
          have h2 := offK_all C
          rw [← h1, HLF.out, ← HO.out.1] at h2
          omega
      have HKC := Lib.hid hkC
      obtain ⟨p, hp⟩ : ∃ p, C[k]? = some p := ⟨_, List.getElem?_eq_getElem hkC⟩
      have HP := Lib.hid hp
      have HFIT : Hid (∀ u, Ext wr u → Calls Tryz.prog 118 #[.slice (some ⟨b, o + off * 4, none⟩) r cc] u fun x w' => x = .returned (.int .i64 (p.length : Int)) ∧ Ext u w') := fun u hu => by
        have hju := HJ.out _ _ _ _ (Nat.le_refl _) HJK.out (Chg.of_ext hu)
        have hE := (HC.out _ _ _ hju).2
        have hE2 := hE.1.drop (k := off) (c := c) (by rw [← HN.out]; omega) HCC.out
        rw [if_neg (by have := HCC.out; have := HN.out; omega)] at hE2
        have e0 : (some (⟨b, o, none⟩ : Addr)).map (·.add (off * 4)) = some ⟨b, o + off * 4, none⟩ := by show some (Addr.add _ _) = _; rw [addr_add]
        rw [e0] at hE2
        have e1 : (L.drop off).length = r := by rw [List.length_drop, ← HN.out]; exact HRC.out.1.symm
        have e2 : (L.drop off).map Prod.fst = (C.drop k).flatten := by rw [List.map_drop, ← HFL.out, HO.out.1, flat_drop]
        have hsub : ∃ P, L.map Prod.fst = P ++ ((C.drop k).flatten ++ []) := ⟨(C.take k).flatten, by rw [List.append_nil, ← HFL.out]; exact flat_split C k⟩
        have h := fit_any (c := cc) hE2 hE.2 (by rw [e1]; have := HRC.out; have := HCC.out; have := HN.out; omega) (by rw [e1]; have := HRC.out; have := HL.out; have := HN.out; omega) (by rw [e1]; have := HRC.out; omega) (by rw [e2]; obtain ⟨P, hP⟩ := hsub; exact rise_part HRM.out.1 hP) (fun e he => HRM.out.2 e (by rw [e2] at he; obtain ⟨P, hP⟩ := hsub; rw [hP]; simp [he]))
        rw [e1, e2] at h
        refine h.mono ?_
        rintro x w' ⟨m, rfl, hm, hx⟩
        refine ⟨?_, hx⟩
        have hd : C.drop k = p :: C.drop (k + 1) := by obtain ⟨h8, rfl⟩ := List.getElem?_eq_some_iff.1 HP.out; exact List.drop_eq_getElem_cons h8
        rw [hd] at hm
        have hcd := cuts_drop k HCU.out
        rw [hd] at hcd
        rw [fit_head hcd hm]
      have hoff := offK_succ hp
      have hole := offK_le C (k + 1)
      obtain ⟨m, hm⟩ : ∃ m, m = p.length := ⟨_, rfl⟩
      rw [← hm] at HFIT hoff
      have hm1 : 1 ≤ m := by rw [hm]; exact List.length_pos_iff.2 (cuts_piece HCU.out _ (List.mem_of_getElem? hp)).1
      have HMM : Hid (1 ≤ m ∧ off + m = offK C (k + 1) ∧ off + m ≤ n ∧ n ≤ c ∧ n ≤ 4096) := ⟨hm1, by rw [hoff, HO.out.1], by have := HLF.out; have := HO.out.1; omega, by rw [HN.out]; exact HCC.out, by rw [HN.out]; exact HL.out⟩
      have HME := Lib.hid hm
      clear hlt hkC hoff hole hm hm1 hp
      refine wpIn_wide.2 ?_
      go_wp2_with fail
      refine (HFIT.out wr (Ext.refl _)).mono ?_
      rintro x u ⟨rfl, hu⟩
      have HXU : Hid (Ext wr u) := hu
      have hj1 := HJ.out _ _ _ _ (Nat.le_refl _) HJK.out (Chg.of_ext hu)
      clear hu HFIT
      obtain ⟨fn, tmps, assign, body, hy, hR⟩ := HY.out W.heap.size k (off, m) u (Nat.le_refl _) (Nat.le_trans HST.out.size HXU.out.size) hj1 HKC.out ⟨p, HP.out, by rw [HO.out.1, ← HME.out]⟩
      dsimp only [pcV] at hy
      rw [← HRC.out.2] at hy
      obtain ⟨A3, hA3, hA4⟩ := pc_tail b (o + off * 4) r cc m (by have := HRC.out; have := HMM.out; omega) (by have := HRC.out; have := HMM.out; omega)
      have HA4 := Lib.hid hA4
      have mI : (m : Int) ≤ (cc : Int) := by have := HRC.out; have := HMM.out; omega
      have mN : m ≤ cc := by have := HRC.out; have := HMM.out; omega
      have HR := Lib.hid (roundIn_any (m' := 5) hR)
      clear hR hj1 hA4
      go_upto_region 3 with (fail)
      refine (wpIn_wide (n := 6)).1 ?_
      gi_wp2
      refine RoundIn.mono HR.out ?_
      rintro e W3 ⟨hst, (⟨rfl, hj⟩ | ⟨rfl, hjx⟩)⟩
      · have HST3 := Lib.hid ((HST.out.trans (Step.of_chg (S := fun _ => False) (Chg.of_ext HXU.out) HST.out.size (fun _ _ _ h => h))).trans hst)
        have HJ3 := Lib.hid hj
        clear hst hj hy
        gi_wp2
        go_wp2_with fail
        refine ⟨⟨k + 1, off + m, A3, HMM.out.2.1, HKC.out, ?_, fun h => ?_, HJ3, HST3⟩, ?_⟩
        · rw [HRC.out.1, HRC.out.2, Nat.sub_sub, Nat.sub_sub]
        · rw [HA4.out (by have := HRC.out; omega), Nat.add_mul, Nat.add_assoc]
        · have := HRC.out; have := HMM.out; have := HLT.out
          simp
          try omega
      · have HX3 := Lib.hid hjx
        clear hst hjx hy
        gi_wp2
        go_wp2_with fail
        refine bodyPost_ret (results_none rfl _ _ _) rfl ?_
        exact ⟨⟨_, rfl⟩, .inr HX3.out⟩
    · have d : decide ((0 : Int) < (r : Int)) = false := decide_eq_false (by have := HRC.out; omega)
      have dn : decide (0 < r) = false := decide_eq_false (by have := HRC.out; omega)
      have HLT := Lib.hid hlt
      clear hlt
      gi_wp2
      refine ⟨rfl, _, results_none rfl _ _ _, ⟨_, rfl⟩, .inl ⟨W.heap.size, Nat.le_refl _, ?_⟩⟩
      have h1 : k = C.length := by
        rcases Nat.lt_or_ge k C.length with h | h
        · have h2 := offK_lt HCU.out h
          rw [HLF.out, ← HO.out.1] at h2
          exact absurd h2 HLT.out
        · have := HO.out.2; omega
      rw [← h1]
      exact HJK.out
end Go.Proofs.YthhgjeeangepaaaGreat
