/- Flow Cflow Ient Ibytes Wtake Rnum Rmore, joined. -/
import Derived.Test.YtgflhbpmkcggnaaMa2
import Derived.Test.YtgflhbpmkcggnaaMa1
import Derived.Lib.Bytealg
import Derived.Lib.BytesEntry
import Derived.Laws.Externs
import Derived.Lib.Walk
import Derived.RegionTactic
import Derived.Deep.DeepCutAuto

/- A region that draws its order, by facts: each operation, whenever it comes up, gives a value of which a fact holds that stays true in later worlds; so behind all of them all facts hold, whatever the order was. -/
namespace Go.Proofs.Ytgflhbpmkcggnaa
open Go.RowKit

/-- A fact that later worlds keep. -/
def Mono (p : Value → World → Prop) : Prop := ∀ v u u', p v u → Ext u u' → p v u'
/-- The value is this one. -/
def Is (c : Value) : Value → World → Prop := fun v _ => v = c
theorem Mono.is (c : Value) : Mono (Is c) := fun _ _ _ h _ => h
/-- The j-th of the facts. -/
def fact (φ : List (Value → World → Prop)) (j : Nat) (v : Value) (u : World) : Prop := (φ.getD j fun _ _ => True) v u
theorem fact_mono {φ : List (Value → World → Prop)} (h : ∀ p ∈ φ, Mono p) (j : Nat) {v : Value} {u u' : World} (hf : fact φ j v u) (hu : Ext u u') : fact φ j v u' := by
  unfold fact at *
  by_cases hj : j < φ.length
  · have e : φ.getD j (fun _ _ => True) = φ[j] := by simp [List.getD, List.getElem?_eq_getElem hj]
    rw [e] at hf ⊢
    exact h _ (List.getElem_mem hj) _ _ _ hf hu
  · have e : φ.getD j (fun _ _ => True) = fun _ _ => True := by simp [List.getD, List.getElem?_eq_none (Nat.le_of_not_lt hj)]
    rw [e]; trivial

/-- Operation o must come behind the j-th. -/
def aft (o : Oper) (j : Nat) : Bool := o.after.any fun e => Region.binds .any e && e.on == j
/-- What a run gives. -/
def GivesR (P : Program) (r : Result Next) (R : Value → World → Prop) : Prop := match r with
  | .ok (.value v) u' => R v u'
  | .ok .skip u' => R undef u'
  | .ok (.enter f args) u' => Calls P f args u' fun e w => ∃ v, e = .returned v ∧ R v w
  | _ => False
/-- What is kept of an operation's value. -/
def kept (o : Oper) (v : Value) : Value := match o.dst with | some _ => v | none => undef
/-- Each operation gives its fact. -/
def Obls (P : Program) (ops : Array Oper) (φ : List (Value → World → Prop)) (w0 : World) (f : Nat → Value) : Nat → List Oper → Act → Prop
  | _, [], _ => True
  | k, o :: rest, a => (∀ u, Ext w0 u → (∀ j, aft o j = true → fact φ j (f j) u) →
      if Region.wanted o (yielded ops a.tmps) = true then GivesR P ((execOp a.eval o).run P u) (fun v u' => Ext u u' ∧ fact φ k (kept o v) u') else fact φ k undef u) ∧ Obls P ops φ w0 f (k + 1) rest (a.put o.dst (f k))
/-- The values laid into their slots. -/
def puts (g : Nat → Value) : Nat → List Oper → Act → Act
  | _, [], a => a
  | k, o :: rest, a => puts g (k + 1) rest (a.put o.dst (g k))

/-- What the theorem asks of a region, to be reckoned. -/
def flowOk (ops : Array Oper) (size : Nat) : Bool :=
  (List.range ops.size).all fun i => match ops[i]? with
    | none => false
    | some oi => oi.after.all (fun e => !Region.binds .any e || decide (e.on < i)) &&
      (match oi.guard with | some (g, _) => aft oi g | none => true) &&
      (match oi.dst with | some d => decide (d < size) | none => true) &&
      (List.range ops.size).all fun j => match ops[j]? with
        | none => false
        | some oj => match oj.dst with
          | none => true
          | some d => (j == i || oi.dst != some d) && (!(oi.looksAt ops).contains d || aft oi j || aft oj i)

theorem flowOk_at {ops : Array Oper} {size i : Nat} {oi : Oper} (h : flowOk ops size = true) (hi : ops[i]? = some oi) :
    (∀ e ∈ oi.after, Region.binds .any e = true → e.on < i) ∧ (∀ g b, oi.guard = some (g, b) → aft oi g = true) ∧ (∀ d, oi.dst = some d → d < size) ∧
    ∀ j oj d, ops[j]? = some oj → oj.dst = some d → (j ≠ i → oi.dst ≠ some d) ∧ (d ∈ oi.looksAt ops → aft oi j = true ∨ aft oj i = true) := by
  have hlt : i < ops.size := (Array.getElem?_eq_some_iff.1 hi).1
  unfold flowOk at h
  rw [List.all_eq_true] at h
  have h1 := h i (List.mem_range.2 hlt)
  simp only [hi, Bool.and_eq_true] at h1
  obtain ⟨⟨⟨ha, hb⟩, hc⟩, hd⟩ := h1
  refine ⟨fun e he hbind => ?_, fun g b hg => ?_, fun d hd' => ?_, fun j oj d hj hjd => ?_⟩
  · have := (Array.all_eq_true_iff_forall_mem.1 ha) e he
    simpa [hbind] using this
  · simpa [hg] using hb
  · simpa [hd'] using hc
  · rw [List.all_eq_true] at hd
    have h2 := hd j (List.mem_range.2 (Array.getElem?_eq_some_iff.1 hj).1)
    simp only [hj, hjd, Bool.and_eq_true, Bool.or_eq_true, beq_iff_eq, bne_iff_ne, ne_eq, Bool.not_eq_true'] at h2
    obtain ⟨x, y⟩ := h2
    refine ⟨fun hne => x.resolve_left hne, fun hm => ?_⟩
    rcases y with (y | y) | y
    · have : (oi.looksAt ops).contains d = true := by simpa using hm
      rw [y] at this; cases this
    · exact .inl y
    · exact .inr y

/-- The value in an operation's slot. -/
def slot (a : Act) (o : Oper) : Value := match o.dst with | some d => a.tmps.getD d undef | none => undef

theorem put_get (a : Act) (dst : Option Tmp) (v : Value) (s : Nat) : (a.put dst v).tmps[s]? = if dst = some s ∧ s < a.tmps.size then some v else a.tmps[s]? := by
  cases dst with
  | none => simp [Act.put]
  | some d =>
    simp only [Act.put, Array.getElem?_setIfInBounds]
    by_cases h : d = s
    · subst h
      by_cases h2 : d < a.tmps.size <;> simp [h2]
    · simp [h]
theorem put_size (a : Act) (dst : Option Tmp) (v : Value) : (a.put dst v).tmps.size = a.tmps.size := by cases dst <;> simp [Act.put]
theorem put_defers' (a : Act) (dst : Option Tmp) (v : Value) : (a.put dst v).defers = a.defers := by cases dst <;> rfl

/-- The slots behind some of the operations, by index. -/
theorem puts_get (g : Nat → Value) : ∀ (l : List Oper) (k : Nat) (a : Act) (s : Nat), s < a.tmps.size → (∀ (i j : Nat) (oi oj : Oper), l[i]? = some oi → l[j]? = some oj → oi.dst = some s → oj.dst = some s → i = j) →
    ((∀ (j : Nat) (o : Oper), l[j]? = some o → o.dst ≠ some s) → (puts g k l a).tmps[s]? = a.tmps[s]?) ∧ (∀ (j : Nat) (o : Oper), l[j]? = some o → o.dst = some s → (puts g k l a).tmps[s]? = some (g (k + j))) := by
  intro l
  induction l with
  | nil => intro k a s _ _; exact ⟨fun _ => rfl, fun j o h => by simp at h⟩
  | cons o l ih =>
    intro k a s hs hu
    have hu' : ∀ (i j : Nat) (oi oj : Oper), l[i]? = some oi → l[j]? = some oj → oi.dst = some s → oj.dst = some s → i = j := fun i j oi oj hi hj h1 h2 => by
      have := hu (i + 1) (j + 1) oi oj (by simpa using hi) (by simpa using hj) h1 h2; omega
    obtain ⟨h1, h2⟩ := ih (k + 1) (a.put o.dst (g k)) s (by rw [put_size]; exact hs) hu'
    refine ⟨fun hn => ?_, fun j oj hj hd => ?_⟩
    · show (puts g (k + 1) l (a.put o.dst (g k))).tmps[s]? = _
      rw [h1 (fun j oj hj => hn (j + 1) oj (by simpa using hj)), put_get, if_neg (fun h => hn 0 o (by simp) h.1)]
    · show (puts g (k + 1) l (a.put o.dst (g k))).tmps[s]? = _
      cases j with
      | zero =>
        simp at hj; subst hj
        have hno : ∀ (j : Nat) (oj : Oper), l[j]? = some oj → oj.dst ≠ some s := fun j oj hj h => by
          have := hu 0 (j + 1) o oj (by simp) (by simpa using hj) hd h; omega
        rw [h1 hno, put_get, if_pos ⟨hd, hs⟩]; rfl
      | succ j =>
        have := h2 j oj (by simpa using hj) hd
        rw [this, show k + 1 + j = k + (j + 1) by omega]
theorem puts_size (g : Nat → Value) : ∀ (l : List Oper) (k : Nat) (a : Act), (puts g k l a).tmps.size = a.tmps.size := by
  intro l
  induction l with
  | nil => intro k a; rfl
  | cons o l ih => intro k a; exact (ih _ _).trans (put_size _ _ _)
theorem puts_defers (g : Nat → Value) : ∀ (l : List Oper) (k : Nat) (a : Act), (puts g k l a).defers = a.defers := by
  intro l
  induction l with
  | nil => intro k a; rfl
  | cons o l ih => intro k a; exact (ih _ _).trans (put_defers' _ _ _)

theorem Obls.at {P : Program} {ops : Array Oper} {φ : List (Value → World → Prop)} {w0 : World} {f : Nat → Value} : ∀ (l : List Oper) (k : Nat) (a : Act), Obls P ops φ w0 f k l a → ∀ (i : Nat) (o : Oper), l[i]? = some o →
    ∀ u, Ext w0 u → (∀ j, aft o j = true → fact φ j (f j) u) →
      if Region.wanted o (yielded ops (puts f k (l.take i) a).tmps) = true then GivesR P ((execOp (puts f k (l.take i) a).eval o).run P u) (fun v u' => Ext u u' ∧ fact φ (k + i) (kept o v) u') else fact φ (k + i) undef u := by
  intro l
  induction l with
  | nil => intro k a _ i o h; simp at h
  | cons o l ih =>
    intro k a h i oi hi
    cases i with
    | zero => simp at hi; subst hi; exact h.1
    | succ i =>
      have := ih (k + 1) _ h.2 i oi (by simpa using hi)
      simp only [List.take_succ_cons, puts]
      rw [show k + (i + 1) = k + 1 + i by omega]
      exact this

structure Inv (ops : Array Oper) (φ : List (Value → World → Prop)) (a0 : Act) (w0 : World) (seen : Array Bool) (a : Act) (u : World) : Prop where
  ext : Ext w0 u
  size : seen.size = ops.size
  defs : a.defers = a0.defers
  tsz : a.tmps.size = a0.tmps.size
  old : ∀ s, (∀ (j : Nat) (oj : Oper), ops[j]? = some oj → seen.getD j false = true → oj.dst ≠ some s) → a.tmps[s]? = a0.tmps[s]?
  facts : ∀ (j : Nat) (oj : Oper), ops[j]? = some oj → seen.getD j false = true → fact φ j (slot a oj) u
  closed : ∀ (j : Nat) (oj : Oper), ops[j]? = some oj → seen.getD j false = true → ∀ k, aft oj k = true → seen.getD k false = true

theorem aft_lt {ops : Array Oper} {size i k : Nat} {oi : Oper} (h : flowOk ops size = true) (hi : ops[i]? = some oi) (hk : aft oi k = true) : k < i := by
  unfold aft at hk
  obtain ⟨e, he, hb⟩ := Array.any_eq_true'.1 hk
  simp only [Bool.and_eq_true, beq_iff_eq] at hb
  rw [← hb.2]
  exact (flowOk_at h hi).1 e he hb.1

section
variable {P : Program} {ops : Array Oper} {Q : Exit → Act → World → Prop} {φ : List (Value → World → Prop)} {a0 : Act} {w0 : World}

/-- What stands in the slots of operation i's fact. -/
def held (ops : Array Oper) (a : Act) (j : Nat) : Value := match ops[j]? with | some oj => slot a oj | none => undef

theorem look_same {seen : Array Bool} {a : Act} {u : World} (hok : flowOk ops a0.tmps.size = true) (hI : Inv ops φ a0 w0 seen a u) {i : Nat} {oi : Oper} (hi : ops[i]? = some oi) (hn : seen.getD i false = false)
    {t : Nat} (ht : t ∈ oi.looksAt ops) : a.tmps[t]? = (puts (held ops a) 0 (ops.toList.take i) a0).tmps[t]? := by
  by_cases hsz : t < a0.tmps.size
  · have hlen : i < ops.toList.length := by simpa using (Array.getElem?_eq_some_iff.1 hi).1
    have conv : ∀ (j : Nat) (o : Oper), (ops.toList.take i)[j]? = some o → j < i ∧ ops[j]? = some o := fun j o h => by
      rw [List.getElem?_take] at h
      split at h
      · rename_i hj; exact ⟨hj, by rw [← Array.getElem?_toList]; exact h⟩
      · cases h
    have huniq : ∀ (x y : Nat) (ox oy : Oper), (ops.toList.take i)[x]? = some ox → (ops.toList.take i)[y]? = some oy → ox.dst = some t → oy.dst = some t → x = y := fun x y ox oy hx hy h1 h2 => by
      rcases Nat.decEq x y with hne | he
      · exact absurd h1 (((flowOk_at hok (conv x ox hx).2).2.2.2 y oy t (conv y oy hy).2 h2).1 (fun e => hne e.symm))
      · exact he
    obtain ⟨h1, h2⟩ := puts_get (held ops a) (ops.toList.take i) 0 a0 t hsz huniq
    by_cases hex : ∃ (j : Nat) (oj : Oper), (ops.toList.take i)[j]? = some oj ∧ oj.dst = some t
    · obtain ⟨j, oj, hj, hd⟩ := hex
      rw [h2 j oj hj hd, Nat.zero_add]
      have hj' := (conv j oj hj).2
      have hlt := (conv j oj hj).1
      simp only [held, hj', slot, hd]
      have hts : t < a.tmps.size := by rw [hI.tsz]; exact hsz
      simp [Array.getD, hts]
    · have hex' : ∀ (j : Nat) (o : Oper), (ops.toList.take i)[j]? = some o → o.dst ≠ some t := fun j o hj hd => hex ⟨j, o, hj, hd⟩
      rw [h1 hex']
      refine hI.old t fun j oj hj hsj hd => ?_
      rcases ((flowOk_at hok hi).2.2.2 j oj t hj hd).2 ht with h | h
      · have hlt := aft_lt hok hi h
        refine hex' j oj ?_ hd
        rw [List.getElem?_take, if_pos hlt, Array.getElem?_toList]; exact hj
      · have := hI.closed j oj hj hsj i h
        rw [hn] at this; cases this
  · have e1 : a.tmps[t]? = none := Array.getElem?_eq_none (by rw [hI.tsz]; omega)
    have e2 : (puts (held ops a) 0 (ops.toList.take i) a0).tmps[t]? = none := Array.getElem?_eq_none (by rw [puts_size]; omega)
    rw [e1, e2]

theorem set_getD (seen : Array Bool) (i j : Nat) : (seen.setIfInBounds i true).getD j false = if i = j ∧ j < seen.size then true else seen.getD j false := by
  by_cases h : i = j
  · subst h
    by_cases h2 : i < seen.size <;> simp [Array.getD, h2]
  · rw [if_neg (fun e => h e.1), Array.getD_eq_getD_getElem?, Array.getD_eq_getD_getElem?, Array.getElem?_setIfInBounds_ne h]

theorem Inv.next {seen : Array Bool} {a : Act} {u u' : World} (hok : flowOk ops a0.tmps.size = true) (hmono : ∀ p ∈ φ, Mono p) (hI : Inv ops φ a0 w0 seen a u) {i : Nat} {oi : Oper} (hi : ops[i]? = some oi)
    (hs : ∀ k, aft oi k = true → seen.getD k false = true) {v : Value} (hu : Ext u u') (hf : fact φ i (kept oi v) u') : Inv ops φ a0 w0 (seen.setIfInBounds i true) (a.put oi.dst v) u' := by
  refine ⟨hI.ext.trans hu, by simp [hI.size], by rw [put_defers']; exact hI.defs, by rw [put_size]; exact hI.tsz, fun s h => ?_, fun j oj hj hsj => ?_, fun j oj hj hsj k hk => ?_⟩
  · have hlt : i < seen.size := by rw [hI.size]; exact (Array.getElem?_eq_some_iff.1 hi).1
    have hne : oi.dst ≠ some s := h i oi hi (by rw [set_getD, if_pos ⟨rfl, hlt⟩])
    rw [put_get, if_neg (fun h => hne h.1)]
    refine hI.old s fun j oj hj hsj => h j oj hj ?_
    rw [set_getD]
    split
    · rfl
    · exact hsj
  · rw [set_getD] at hsj
    by_cases hij : i = j
    · subst hij
      rw [hi] at hj
      injection hj with hj
      subst hj
      have e : slot (a.put oi.dst v) oi = kept oi v := by
        unfold slot kept
        cases hd : oi.dst with
        | none => rfl
        | some d =>
          have hds := (flowOk_at hok hi).2.2.1 d hd
          have hd2 : d < a.tmps.size := by rw [hI.tsz]; exact hds
          simp [Act.put, Array.getD, hd2]
      rw [e]; exact hf
    · rw [if_neg (fun h => hij h.1)] at hsj
      have e : slot (a.put oi.dst v) oj = slot a oj := by
        unfold slot
        cases hd : oj.dst with
        | none => rfl
        | some d =>
          have hne := ((flowOk_at hok hi).2.2.2 j oj d hj hd).1 (fun e => hij e.symm)
          have := put_get a oi.dst v d
          rw [if_neg (fun h => hne h.1)] at this
          show (a.put oi.dst v).tmps.getD d undef = a.tmps.getD d undef
          rw [Array.getD_eq_getD_getElem?, this, ← Array.getD_eq_getD_getElem?]
      rw [e]
      exact fact_mono hmono j (hI.facts j oj hj hsj) hu
  · rw [set_getD] at hsj ⊢
    split
    · rfl
    · rename_i hk2
      by_cases hij : i = j
      · subst hij
        rw [hi] at hj
        injection hj with hj
        subst hj
        exact hs k hk
      · rw [if_neg (fun h => hij h.1)] at hsj
        exact hI.closed j oj hj hsj k hk

theorem getD_both (seen : Array Bool) {i : Nat} (h : i < seen.size) : seen.getD i true = seen.getD i false := by simp [Array.getD, h]

theorem gives_wp {o : Oper} {a : Act} {u : World} {R : Value → World → Prop} {K : Act → World → Prop} (h : GivesR P ((execOp a.eval o).run P u) R) (hK : ∀ v u', R v u' → K (a.put o.dst v) u') : o.wp P a u K Q := by
  unfold Oper.wp
  generalize (execOp a.eval o).run P u = r at h
  cases r with
  | ok n w' =>
    cases n <;> simp only [GivesR, Oper.upon] at h ⊢ <;> first | exact hK _ _ h | exact h.elim | exact Calls.mono h (fun e w'' he => by obtain ⟨v, rfl, hv⟩ := he; exact hK _ _ hv)
  | halt x w' => exact h.elim

theorem flow_step {seen : Array Bool} {a : Act} {u : World} {m : Nat} (hok : flowOk ops a0.tmps.size = true) (hsel : Region.noSelect ops = true) (hmono : ∀ p ∈ φ, Mono p) (hobl : ∀ f, Obls P ops φ w0 f 0 (ops.toList.take m) a0)
    (hI : Inv ops φ a0 w0 seen a u) {i : Nat} (him : i < m) (hr : i ∈ Region.ready .any ops seen) : wpOp P ops Q i (fun b u' => Inv ops φ a0 w0 (seen.setIfInBounds i true) b u') a u := by
  obtain ⟨hun, oi, hi, hall⟩ := mem_ready.1 hr
  have hlt : i < ops.size := (Array.getElem?_eq_some_iff.1 hi).1
  have hn : seen.getD i false = false := by rw [← getD_both seen (by rw [hI.size]; exact hlt)]; simpa using hun
  have hs : ∀ k, aft oi k = true → seen.getD k false = true := fun k hk => by
    unfold aft at hk
    obtain ⟨e, he, hb⟩ := Array.any_eq_true'.1 hk
    simp only [Bool.and_eq_true, beq_iff_eq] at hb
    rw [← hb.2]
    exact hall e he hb.1
  have hlook := fun {t : Nat} (ht : t ∈ oi.looksAt ops) => look_same hok hI hi hn ht
  have hfacts : ∀ j, aft oi j = true → fact φ j (held ops a j) u := fun j hj => by
    have hjl := aft_lt hok hi hj
    have hoj : ops[j]? = some ops[j] := Array.getElem?_eq_getElem (by omega)
    have := hI.facts j _ hoj (hs j hj)
    simp only [held, hoj]
    exact this
  have hO := Obls.at (ops.toList.take m) 0 a0 (hobl (held ops a)) i oi (by rw [List.getElem?_take, if_pos him, Array.getElem?_toList]; exact hi) u hI.ext hfacts
  rw [Nat.zero_add, List.take_take, Nat.min_eq_left (Nat.le_of_lt him)] at hO
  have hex : execOp (puts (held ops a) 0 (ops.toList.take i) a0).eval oi = execOp a.eval oi := by
    refine execOp_congr oi (fun cs b => Region.noSelect_spec hsel i oi cs b hi) fun x hx => ?_
    cases x with
    | tmp t =>
      have ht : t ∈ oi.looksAt ops := by
        unfold Oper.looksAt
        refine List.mem_append_left _ (List.mem_filterMap.2 ⟨.tmp t, by simpa using hx, rfl⟩)
      show Array.getD _ t undef = Array.getD _ t undef
      rw [Array.getD_eq_getD_getElem?, Array.getD_eq_getD_getElem?, hlook ht]
    | _ => rfl
  have hwt : Region.wanted oi (yielded ops (puts (held ops a) 0 (ops.toList.take i) a0).tmps) = Region.wanted oi (yielded ops a.tmps) := by
    unfold Region.wanted
    cases hg : oi.guard with
    | none => rfl
    | some gb =>
      obtain ⟨g, b⟩ := gb
      have e : yielded ops (puts (held ops a) 0 (ops.toList.take i) a0).tmps g = yielded ops a.tmps g := by
        unfold yielded
        cases hd : (ops[g]?).bind (·.dst) with
        | none => rfl
        | some d =>
          have ht : d ∈ oi.looksAt ops := by
            unfold Oper.looksAt
            rw [hg]
            refine List.mem_append_right _ ?_
            simp only [hd]
            simp
          show (match (puts (held ops a) 0 (ops.toList.take i) a0).tmps[d]? with | some (Value.bool b) => some b | _ => none) = _
          rw [← hlook ht]
          rfl
      simp only [e]
  rw [hex, hwt] at hO
  unfold wpOp
  simp only [hi]
  split
  · rename_i hw
    rw [if_pos hw] at hO
    exact .inl (gives_wp hO fun v u' h => hI.next hok hmono hi hs h.1 h.2)
  · rename_i hw
    rw [if_neg hw] at hO
    refine hI.next hok hmono hi hs (Ext.refl u) ?_
    have : kept oi undef = undef := by unfold kept; cases oi.dst <;> rfl
    rw [this]; exact hO

/-- How many have not come up. -/
def left (ops : Array Oper) (seen : Array Bool) : Nat := (List.range ops.size).countP fun i => !seen.getD i false
theorem left_next {seen : Array Bool} (hs : seen.size = ops.size) {i : Nat} (hi : i < ops.size) (hn : seen.getD i false = false) : left ops (seen.setIfInBounds i true) + 1 = left ops seen := by
  unfold left
  have key : ∀ n, i < n → n ≤ ops.size → (List.range n).countP (fun j => !(seen.setIfInBounds i true).getD j false) + 1 = (List.range n).countP fun j => !seen.getD j false := by
    intro n
    induction n with
    | zero => intro h; omega
    | succ n ih =>
      intro h1 h2
      rw [List.range_succ, List.countP_append, List.countP_append]
      by_cases h : i = n
      · subst h
        have e : (List.range i).countP (fun j => !(seen.setIfInBounds i true).getD j false) = (List.range i).countP fun j => !seen.getD j false := by
          apply List.countP_congr
          intro j hj
          rw [set_getD, if_neg (by simp at hj; omega)]
        rw [e]
        have e2 : (seen.setIfInBounds i true).getD i false = true := by rw [set_getD, if_pos ⟨rfl, by omega⟩]
        simp only [List.countP_cons, List.countP_nil, e2, hn]
        simp
      · have := ih (by omega) (by omega)
        have e : (!(seen.setIfInBounds i true).getD n false) = !seen.getD n false := by rw [set_getD, if_neg (by omega)]
        simp only [List.countP_cons, List.countP_nil, e]
        omega
  exact key ops.size hi (Nat.le_refl _)

theorem all_seen {seen : Array Bool} {a : Act} {u : World} (hok : flowOk ops a0.tmps.size = true) (hI : Inv ops φ a0 w0 seen a u) (hr : Region.ready .any ops seen = []) : ∀ i, i < ops.size → seen.getD i false = true := by
  intro i
  induction i using Nat.strongRecOn with
  | ind i ih =>
    intro hlt
    rcases h : seen.getD i false with _ | _
    · have hi : ops[i]? = some ops[i] := Array.getElem?_eq_getElem hlt
      have : i ∈ Region.ready .any ops seen := mem_ready.2 ⟨by rw [getD_both seen (by rw [hI.size]; exact hlt)]; exact h, ops[i], hi, fun e he hb => by
        have := (flowOk_at hok hi).1 e he hb
        exact ih e.on this (by omega)⟩
      rw [hr] at this; cases this
    · rfl

theorem act_is {seen : Array Bool} {a : Act} {u : World} (hok : flowOk ops a0.tmps.size = true) (hI : Inv ops φ a0 w0 seen a u) : a = puts (held ops a) 0 ops.toList a0 := by
  have hd : a.defers = (puts (held ops a) 0 ops.toList a0).defers := by rw [puts_defers]; exact hI.defs
  have ht : a.tmps = (puts (held ops a) 0 ops.toList a0).tmps := by
    apply Array.ext_getElem?
    intro t
    by_cases hsz : t < a0.tmps.size
    · have conv : ∀ (j : Nat) (o : Oper), ops.toList[j]? = some o → ops[j]? = some o := fun j o h => by rw [← Array.getElem?_toList]; exact h
      have huniq : ∀ (x y : Nat) (ox oy : Oper), ops.toList[x]? = some ox → ops.toList[y]? = some oy → ox.dst = some t → oy.dst = some t → x = y := fun x y ox oy hx hy h1 h2 => by
        rcases Nat.decEq x y with hne | he
        · exact absurd h1 (((flowOk_at hok (conv x ox hx)).2.2.2 y oy t (conv y oy hy) h2).1 (fun e => hne e.symm))
        · exact he
      obtain ⟨h1, h2⟩ := puts_get (held ops a) ops.toList 0 a0 t hsz huniq
      by_cases hex : ∃ (j : Nat) (oj : Oper), ops.toList[j]? = some oj ∧ oj.dst = some t
      · obtain ⟨j, oj, hj, hd⟩ := hex
        rw [h2 j oj hj hd, Nat.zero_add]
        simp only [held, conv j oj hj, slot, hd]
        have hts : t < a.tmps.size := by rw [hI.tsz]; exact hsz
        simp [Array.getD, hts]
      · have hex' : ∀ (j : Nat) (o : Oper), ops.toList[j]? = some o → o.dst ≠ some t := fun j o hj hd => hex ⟨j, o, hj, hd⟩
        rw [h1 hex']
        exact hI.old t fun j oj hj _ => hex' j oj (by rw [Array.getElem?_toList]; exact hj)
    · rw [Array.getElem?_eq_none (by rw [hI.tsz]; omega), Array.getElem?_eq_none (by rw [puts_size]; omega)]
  have ext : ∀ x y : Act, x.tmps = y.tmps → x.defers = y.defers → x = y := by rintro ⟨_, _⟩ ⟨_, _⟩ rfl rfl; rfl
  exact ext _ _ ht hd

theorem flow_any (hok : flowOk ops a0.tmps.size = true) (hsel : Region.noSelect ops = true) (hmono : ∀ p ∈ φ, Mono p) (hobl : ∀ f, Obls P ops φ w0 f 0 ops.toList a0)
    (hfin : ∀ (g : Nat → Value) u, Ext w0 u → (∀ j, j < ops.size → fact φ j (g j) u) → Q .normal (puts g 0 ops.toList a0) u) :
    ∀ (n : Nat) (seen : Array Bool) (a : Act) (u : World), Inv ops φ a0 w0 seen a u → left ops seen = n → wpAny P .any ops Q n seen a u := by
  have done : ∀ (seen : Array Bool) (a : Act) (u : World), Inv ops φ a0 w0 seen a u → (∀ i, i < ops.size → seen.getD i false = true) → Q .normal a u := fun seen a u hI hall => by
    rw [act_is hok hI]
    refine hfin _ _ hI.ext fun j hj => ?_
    have hoj : ops[j]? = some ops[j] := Array.getElem?_eq_getElem hj
    simp only [held, hoj]
    exact hI.facts j _ hoj (hall j hj)
  intro n
  induction n with
  | zero =>
    intro seen a u hI hl
    have hall : ∀ i, i < ops.size → seen.getD i false = true := fun i hi => by
      have := List.countP_eq_zero.1 hl i (List.mem_range.2 hi)
      simpa using this
    refine ⟨?_, done seen a u hI hall⟩
    refine List.eq_nil_iff_forall_not_mem.2 fun i hi => ?_
    obtain ⟨hun, oi, hio, _⟩ := mem_ready.1 hi
    have hlt := (Array.getElem?_eq_some_iff.1 hio).1
    rw [getD_both seen (by rw [hI.size]; exact hlt), hall i hlt] at hun
    cases hun
  | succ n ih =>
    intro seen a u hI hl
    refine ⟨fun hr => done seen a u hI (all_seen hok hI hr), fun i hi => ?_⟩
    refine wpOp_mono (fun b u' hb => ih _ b u' hb ?_) (flow_step (m := ops.size) hok hsel hmono (fun f => by rw [List.take_of_length_le (by simp)]; exact hobl f) hI (Array.getElem?_eq_some_iff.1 (mem_ready.1 hi).2.choose_spec.1).1 hi)
    obtain ⟨hun, oi, hio, _⟩ := mem_ready.1 hi
    have hlt := (Array.getElem?_eq_some_iff.1 hio).1
    rw [getD_both seen (by rw [hI.size]; exact hlt)] at hun
    have := left_next hI.size hlt hun
    omega

/-- A region that draws its order, by facts. -/
theorem flow {id : Nat} {w : World} (hm : P.follows .mixedOrders = true) (φ : List (Value → World → Prop)) (hok : flowOk ops a0.tmps.size = true) (hsel : Region.noSelect ops = true) (hmono : ∀ p ∈ φ, Mono p)
    (hobl : ∀ f, Obls P ops φ w.drew f 0 ops.toList a0)
    (hfin : ∀ (g : Nat → Value) u, Ext w.drew u → (∀ j, j < ops.size → fact φ j (g j) u) → Q .normal (puts g 0 ops.toList a0) u) : (Code.region id ops true).wp P Q a0 w := by
  refine wp_region_any hm (flow_any hok hsel hmono hobl hfin _ _ _ _ ⟨Ext.refl _, by simp, rfl, rfl, fun _ _ => rfl, fun j oj hj hs => ?_, fun j oj hj hs => ?_⟩ ?_)
  · have hlt := (Array.getElem?_eq_some_iff.1 hj).1
    simp [Array.getD, hlt] at hs
  · have hlt := (Array.getElem?_eq_some_iff.1 hj).1
    simp [Array.getD, hlt] at hs
  · unfold left
    rw [List.countP_eq_length.2]
    · simp
    · intro i hi
      have hlt := List.mem_range.1 hi
      simp [Array.getD, hlt]

theorem inv_start {w : World} : Inv ops φ a0 w (Array.replicate ops.size false) a0 w := by
  refine ⟨Ext.refl _, by simp, rfl, rfl, fun _ _ => rfl, fun j oj hj hs => ?_, fun j oj hj hs => ?_⟩
  · have hlt := (Array.getElem?_eq_some_iff.1 hj).1
    simp [Array.getD, hlt] at hs
  · have hlt := (Array.getElem?_eq_some_iff.1 hj).1
    simp [Array.getD, hlt] at hs
theorem left_start : left ops (Array.replicate ops.size false) = ops.size := by
  unfold left
  rw [List.countP_eq_length.2]
  · simp
  · intro i hi
    have hlt := List.mem_range.1 hi
    simp [Array.getD, hlt]

/-- Just before the last operation: what stands in the slots. -/
theorem act_before {seen : Array Bool} {a : Act} {u : World} {m : Nat} (hok : flowOk ops a0.tmps.size = true) (hI : Inv ops φ a0 w0 seen a u) (hm : m + 1 = ops.size) (hn : seen.getD m false = false) : a = puts (held ops a) 0 (ops.toList.take m) a0 := by
  have hd : a.defers = (puts (held ops a) 0 (ops.toList.take m) a0).defers := by rw [puts_defers]; exact hI.defs
  have conv : ∀ (j : Nat) (o : Oper), (ops.toList.take m)[j]? = some o → j < m ∧ ops[j]? = some o := fun j o h => by
    rw [List.getElem?_take] at h
    split at h
    · rename_i hj; exact ⟨hj, by rw [← Array.getElem?_toList]; exact h⟩
    · cases h
  have ht : a.tmps = (puts (held ops a) 0 (ops.toList.take m) a0).tmps := by
    apply Array.ext_getElem?
    intro t
    by_cases hsz : t < a0.tmps.size
    · have huniq : ∀ (x y : Nat) (ox oy : Oper), (ops.toList.take m)[x]? = some ox → (ops.toList.take m)[y]? = some oy → ox.dst = some t → oy.dst = some t → x = y := fun x y ox oy hx hy h1 h2 => by
        rcases Nat.decEq x y with hne | he
        · exact absurd h1 (((flowOk_at hok (conv x ox hx).2).2.2.2 y oy t (conv y oy hy).2 h2).1 (fun e => hne e.symm))
        · exact he
      obtain ⟨h1, h2⟩ := puts_get (held ops a) (ops.toList.take m) 0 a0 t hsz huniq
      by_cases hex : ∃ (j : Nat) (oj : Oper), (ops.toList.take m)[j]? = some oj ∧ oj.dst = some t
      · obtain ⟨j, oj, hj, hd⟩ := hex
        rw [h2 j oj hj hd, Nat.zero_add]
        simp only [held, (conv j oj hj).2, slot, hd]
        have hts : t < a.tmps.size := by rw [hI.tsz]; exact hsz
        simp [Array.getD, hts]
      · have hex' : ∀ (j : Nat) (o : Oper), (ops.toList.take m)[j]? = some o → o.dst ≠ some t := fun j o hj hd => hex ⟨j, o, hj, hd⟩
        rw [h1 hex']
        refine hI.old t fun j oj hj hs => ?_
        have hjm : j ≠ m := fun e => by subst e; rw [hn] at hs; cases hs
        have hlt := (Array.getElem?_eq_some_iff.1 hj).1
        exact hex' j oj (by rw [List.getElem?_take, if_pos (by omega), Array.getElem?_toList]; exact hj)
    · rw [Array.getElem?_eq_none (by rw [hI.tsz]; omega), Array.getElem?_eq_none (by rw [puts_size]; omega)]
  have ext : ∀ x y : Act, x.tmps = y.tmps → x.defers = y.defers → x = y := by rintro ⟨_, _⟩ ⟨_, _⟩ rfl rfl; rfl
  exact ext _ _ ht hd

/-- A region whose last operation waits for all others: that one may do what it likes. -/
theorem flow_last_any {m : Nat} {ol : Oper} (hok : flowOk ops a0.tmps.size = true) (hsel : Region.noSelect ops = true) (hm : m + 1 = ops.size) (hol : ops[m]? = some ol) (hall : (List.range m).all (aft ol) = true) (hmono : ∀ p ∈ φ, Mono p)
    (hobl : ∀ f, Obls P ops φ w0 f 0 (ops.toList.take m) a0)
    (hfin : ∀ (g : Nat → Value) u, Ext w0 u → (∀ j, j < m → fact φ j (g j) u) → if Region.wanted ol (yielded ops (puts g 0 (ops.toList.take m) a0).tmps) = true then ol.wp P (puts g 0 (ops.toList.take m) a0) u (fun b u' => Q .normal b u') Q else Q .normal ((puts g 0 (ops.toList.take m) a0).put ol.dst undef) u) :
    ∀ (n : Nat) (seen : Array Bool) (a : Act) (u : World), Inv ops φ a0 w0 seen a u → seen.getD m false = false → left ops seen = n → wpAny P .any ops Q n seen a u := by
  intro n
  induction n with
  | zero =>
    intro seen a u hI hn hl
    have := List.countP_eq_zero.1 hl m (List.mem_range.2 (by omega))
    rw [hn] at this; simp at this
  | succ n ih =>
    intro seen a u hI hn hl
    refine ⟨fun hr => ?_, fun i hi => ?_⟩
    · have := all_seen hok hI hr m (by omega)
      rw [hn] at this; cases this
    · obtain ⟨hun, oi, hio, hed⟩ := mem_ready.1 hi
      have hlt := (Array.getElem?_eq_some_iff.1 hio).1
      rw [getD_both seen (by rw [hI.size]; exact hlt)] at hun
      have hleft := left_next hI.size hlt hun
      by_cases him : i = m
      · subst him
        rw [hol] at hio
        injection hio with hio
        subst hio
        have hseen : ∀ j, j < i → seen.getD j false = true := fun j hj => by
          have h1 := (List.all_eq_true.1 hall) j (List.mem_range.2 hj)
          unfold aft at h1
          obtain ⟨e, he, hb⟩ := Array.any_eq_true'.1 h1
          simp only [Bool.and_eq_true, beq_iff_eq] at hb
          rw [← hb.2]
          exact hed e he hb.1
        have hn0 : n = 0 := by
          have h0 : left ops (seen.setIfInBounds i true) = 0 := by
            unfold left
            rw [List.countP_eq_zero]
            intro j hj
            have hjl := List.mem_range.1 hj
            have : (seen.setIfInBounds i true).getD j false = true := by
              rw [set_getD]
              by_cases e : i = j
              · rw [if_pos ⟨e, by rw [hI.size]; exact hjl⟩]
              · rw [if_neg (fun h => e h.1)]; exact hseen j (by omega)
            simp [this]
          omega
        subst hn0
        have hre : Region.ready .any ops (seen.setIfInBounds i true) = [] := by
          refine List.eq_nil_iff_forall_not_mem.2 fun j hj => ?_
          obtain ⟨hj1, oj, hj2, _⟩ := mem_ready.1 hj
          have hjl := (Array.getElem?_eq_some_iff.1 hj2).1
          rw [getD_both _ (by simp [hI.size]; exact hjl), set_getD] at hj1
          by_cases e : i = j
          · rw [if_pos ⟨e, by rw [hI.size]; exact hjl⟩] at hj1; cases hj1
          · rw [if_neg (fun h => e h.1), hseen j (by omega)] at hj1; cases hj1
        have hA := act_before hok hI hm hn
        have hF := hfin (held ops a) u hI.ext fun j hj => by
          have hoj : ops[j]? = some ops[j] := Array.getElem?_eq_getElem (by omega)
          simp only [held, hoj]
          exact hI.facts j _ hoj (hseen j hj)
        rw [← hA] at hF
        unfold wpOp
        simp only [hol]
        split
        · rename_i hw
          rw [if_pos hw] at hF
          exact .inl (Oper.wp_mono (fun b u' h => ⟨hre, h⟩) hF)
        · rename_i hw
          rw [if_neg hw] at hF
          exact ⟨hre, hF⟩
      · refine wpOp_mono (fun b u' hb => ih _ b u' hb ?_ (by omega)) (flow_step hok hsel hmono hobl hI (by omega) hi)
        rw [set_getD, if_neg (fun h => him h.1)]; exact hn

theorem flow_last {id : Nat} {w : World} (hm0 : P.follows .mixedOrders = true) (φ : List (Value → World → Prop)) (m : Nat) (ol : Oper) (hok : flowOk ops a0.tmps.size = true) (hsel : Region.noSelect ops = true) (hm : m + 1 = ops.size) (hol : ops.toList[m]? = some ol) (hall : (List.range m).all (aft ol) = true) (hmono : ∀ p ∈ φ, Mono p)
    (hobl : ∀ f, Obls P ops φ w.drew f 0 (ops.toList.take m) a0)
    (hfin : ∀ (g : Nat → Value) u, Ext w.drew u → (∀ j, j < m → fact φ j (g j) u) → if Region.wanted ol (yielded ops (puts g 0 (ops.toList.take m) a0).tmps) = true then ol.wp P (puts g 0 (ops.toList.take m) a0) u (fun b u' => Q .normal b u') Q else Q .normal ((puts g 0 (ops.toList.take m) a0).put ol.dst undef) u) :
    (Code.region id ops true).wp P Q a0 w := by
  refine wp_region_any hm0 ?_
  have h := flow_last_any hok hsel hm (by rw [← Array.getElem?_toList]; exact hol) hall hmono hobl hfin ops.size _ a0 w.drew inv_start ?_ left_start
  · exact h
  · simp [Array.getD]
end
end Go.Proofs.Ytgflhbpmkcggnaa

/- Facts for regions that draw their order: rows of slices of bytes; parts of a slice of bytes. -/
namespace Go.Proofs.Ytgflhbpmkcggnaa
open Go.ChangeShapes Go.WideShapes Go.ChangeAt Go.RowKit

theorem below_new (w : World) (o : Obj) : Below w.heap.size w (w.alloc o) := (Below.refl _ _).alloc (Nat.le_refl _) o
/-- A literal of slices of bytes. -/
theorem rows_lit (w : World) (vs : List Value) (ls : List (List Nat)) (hlen : vs.length = ls.length) (h : ∀ (i : Nat) (v : Value) (l : List Nat), vs[i]? = some v → ls[i]? = some l → ∃ lo hi, Bs w lo hi v l ∧ hi ≤ w.heap.size) :
    Rows2 (w.alloc (.cells vs.toArray 29)) 0 (w.heap.size + 1) (some ⟨w.heap.size, 0, none⟩) vs ls := by
  refine ⟨.inr ⟨w.heap.size, 0, rfl, Nat.zero_le _, by omega, fun i u hu => ?_⟩, hlen, fun i u r hu hr => ?_⟩
  · rw [World.cell?_alloc_at _ _ _ _ rfl, Nat.zero_add]
    simpa using hu
  · obtain ⟨lo, hi, hb, hh⟩ := h i u r hu hr
    exact (hb.alloc hh _).wide (Nat.zero_le _) (by omega)
/-- A row of n slices of bytes, wherever it was laid. -/
def Rws (n : Nat) (ls : List (List Nat)) (v : Value) (u : World) : Prop := ls.length = n ∧ ∃ g h, v = .slice (some ⟨g, 0, none⟩) n n ∧ h ≤ u.heap.size ∧ ∃ vs, Rows2 u 0 h (some ⟨g, 0, none⟩) vs ls
theorem Mono.rws (n : Nat) (ls : List (List Nat)) : Mono (Rws n ls) := fun _ _ _ ⟨hn, g, h, e, hh, x, hr⟩ hu => ⟨hn, g, h, e, Nat.le_trans hh hu.size, x, hr.below hu hh⟩
theorem rws_lit (w : World) (vs : List Value) (ls : List (List Nat)) (n : Nat) (hn : ls.length = n) (hlen : vs.length = ls.length) (h : ∀ (i : Nat) (v : Value) (l : List Nat), vs[i]? = some v → ls[i]? = some l → ∃ lo hi, Bs w lo hi v l ∧ hi ≤ w.heap.size) :
    Rws n ls (.slice (some ⟨w.heap.size, 0, none⟩) n n) (w.alloc (.cells vs.toArray 29)) := ⟨hn, w.heap.size, w.heap.size + 1, rfl, by simp, vs, rows_lit w vs ls hlen h⟩

theorem Bs.len {w : World} {lo hi : Nat} {A : Option Addr} {n c : Nat} {l : List Nat} (h : Bs w lo hi (.slice A n c) l) : l.length = n ∧ n ≤ c ∧ c ≤ maxLen := by
  obtain ⟨A', c', he, a1, a2, _, _⟩ := h
  injection he with x1 x2 x3
  subst x2 x3
  exact ⟨rfl, a1, a2⟩
/-- b[:k]. -/
theorem Bs.head {w : World} {lo hi : Nat} {A : Option Addr} {n c : Nat} {l : List Nat} (h : Bs w lo hi (.slice A n c) l) {k : Nat} (hk : k ≤ n) : Bs w lo hi (.slice A k c) (l.take k) := by
  obtain ⟨A', c', he, a1, a2, a3, a4⟩ := h
  injection he with x1 x2 x3
  subst x1 x2 x3
  refine ⟨A, c, by rw [List.length_take, Nat.min_eq_left hk], by rw [List.length_take]; omega, a2, a3, ?_⟩
  unfold By
  rw [bv_take]
  exact Sl.take a4 k
/-- b[k:j]: the same value in every world. -/
theorem cut_run (A : Option Addr) (n c k j : Nat) (hkj : k ≤ j) (hjn : j ≤ n) (hc : n ≤ c) : ∃ A2, (∀ (W : World) (lo hi : Nat) (l : List Nat), Bs W lo hi (.slice A n c) l → Bs W lo hi (.slice A2 (j - k) (c - k)) ((l.drop k).take (j - k))) ∧
    (∀ w, (Instr.slice 29 (.slice A n c) (some (.int .i64 (k : Int))) (some (.int .i64 (j : Int))) none).run Try.prog w = .ok (.slice A2 (j - k) (c - k)) w) ∧
    (j = n → ∀ w, (Instr.slice 29 (.slice A n c) (some (.int .i64 (k : Int))) none none).run Try.prog w = .ok (.slice A2 (j - k) (c - k)) w) := by
  obtain ⟨i0, hi, _, hz1, _⟩ := info_parts t5info
  have he : Try.prog.underlying 29 = some (.slice (Try.prog.elem 29)) := by kernel_rfl
  have hs : ∀ w, (sizeOf (Try.prog.elem 29)).run Try.prog w = .ok 1 w := fun w => by
    have e : Try.prog.elem 29 = 5 := by kernel_rfl
    rw [e]
    simp [Go.sizeOf, typeInfo, hi, hz1]
  refine ⟨if c = k then A else A.map (·.add k), fun W lo hi' l h => ?_, fun w => ?_, fun hj w => ?_⟩
  · obtain ⟨A', c', he, a1, a2, a3, a4⟩ := h
    injection he with x1 x2 x3
    subst x1 x2 x3
    have h2 := By.drop (k := k) (cap := c) a4 (by omega) (by omega)
    have hl : ((l.drop k).take (j - k)).length = j - k := by simp; omega
    refine ⟨(if c = k then A else A.map (·.add k)), c - k, by rw [hl], by rw [hl]; omega, by omega, fun hn => ?_, ?_⟩
    · split at hn
      · have := a3 hn; omega
      · cases A with
        | none => have := a3 rfl; omega
        | some a => simp at hn
    · unfold By
      rw [bv_take]
      exact Sl.take h2 _
  · rw [run_slice_lh w 29 A n c he .i64 .i64 (k : Int) (j : Int) (by omega) (by omega) (by omega), hs]
    simp [Result.andThen, sliced]
  · subst hj
    rw [run_slice_l w 29 A j c he .i64 (k : Int) (by omega) (by omega), hs]
    simp [Result.andThen, sliced]
end Go.Proofs.Ytgflhbpmkcggnaa

/- Entries in memory, and what May, Compare, Same answer of them. -/
namespace Go.Proofs.Ytgflhbpmkcggnaa
open Go.ChangeShapes Go.WideShapes Go.ChangeAt Go.RowKit

/-- Where an entry's two rows of bytes lie. -/
structure Hd where
  kA : Option Addr
  kc : Nat
  vA : Option Addr
  vc : Nat
/-- The entry as a value. -/
def Ent.at_ (e : Ent) (h : Hd) : Value := .agg #[.slice h.kA e.key.length h.kc, .int .i64 e.seq, .int .i64 e.kind, .slice h.vA e.val.length h.vc]
/-- What an entry is in memory: its bytes lie in blocks of the interval. -/
structure Em (w : World) (lo hi : Nat) (e : Ent) (h : Hd) : Prop where
  k : Bs w lo hi (.slice h.kA e.key.length h.kc) e.key
  v : Bs w lo hi (.slice h.vA e.val.length h.vc) e.val
  bk : ∀ x ∈ e.key, x < 256
  bv : ∀ x ∈ e.val, x < 256
  s1 : -9223372036854775808 ≤ e.seq
  s2 : e.seq ≤ 9223372036854775807
  d1 : -9223372036854775808 ≤ e.kind
  d2 : e.kind ≤ 9223372036854775807
theorem Em.below {w w' : World} {lo hi B : Nat} {e : Ent} {h : Hd} (m : Em w lo hi e h) (hb : Below B w w') (hB : hi ≤ B) : Em w' lo hi e h := ⟨m.k.below hb hB, m.v.below hb hB, m.bk, m.bv, m.s1, m.s2, m.d1, m.d2⟩
theorem Em.wide {w : World} {lo hi lo' hi' : Nat} {e : Ent} {h : Hd} (m : Em w lo hi e h) (h1 : lo' ≤ lo) (h2 : hi ≤ hi') : Em w lo' hi' e h := ⟨m.k.wide h1 h2, m.v.wide h1 h2, m.bk, m.bv, m.s1, m.s2, m.d1, m.d2⟩

set_option maxHeartbeats 1000000 in
theorem may_any (kA vA : Option Addr) (kn kc vn vc : Nat) (s d : Int) (w : World) : Calls Try.prog 29 #[.agg #[.slice kA kn kc, .int .i64 s, .int .i64 d, .slice vA vn vc]] w fun e w' => e = .returned (.bool (mayN kn s d vn)) ∧ Below w.heap.size w w' := by
  obtain ⟨m, hm⟩ : ∃ m, m = mayN kn s d vn := ⟨_, rfl⟩
  rw [← hm]
  have HX : Hid (Ext w (w.alloc (.cells #[.slice kA kn kc, .int .i64 s, .int .i64 d, .slice vA vn vc] 48))) := ext_alloc _ _
  by_cases h1 : kn < 1
  · obtain rfl : m = false := by rw [hm]; simp [mayN]; omega
    have d1 : decide ((kn : Int) < 1) = true := by simp; omega
    clear hm
    go_enter Try.func29, Try.ntmps29
    go_wp2_with fail
    go_ret
    exact ⟨rfl, HX.out⟩
  have d1 : decide ((kn : Int) < 1) = false := by simp; omega
  by_cases h2 : 32 < kn
  · obtain rfl : m = false := by rw [hm]; simp [mayN]; omega
    have d2 : decide ((32 : Int) < (kn : Int)) = true := by simp; omega
    clear hm
    go_enter Try.func29, Try.ntmps29
    go_wp2_with fail
    go_ret
    exact ⟨rfl, HX.out⟩
  have d2 : decide ((32 : Int) < (kn : Int)) = false := by simp; omega
  by_cases h3 : s < 1
  · obtain rfl : m = false := by rw [hm]; simp [mayN]; omega
    have d3 : decide (s < 1) = true := by simp; omega
    clear hm
    go_enter Try.func29, Try.ntmps29
    go_wp2_with fail
    go_ret
    exact ⟨rfl, HX.out⟩
  have d3 : decide (s < 1) = false := by simp; omega
  by_cases h4 : 2147483647 < s
  · obtain rfl : m = false := by rw [hm]; simp [mayN]; omega
    have d4 : decide ((2147483647 : Int) < s) = true := by simp; omega
    clear hm
    go_enter Try.func29, Try.ntmps29
    go_wp2_with fail
    go_ret
    exact ⟨rfl, HX.out⟩
  have d4 : decide ((2147483647 : Int) < s) = false := by simp; omega
  by_cases h5 : d = 1
  · subst h5
    obtain rfl : m = decide ((vn : Int) ≤ 65536) := by
      rw [hm, Bool.eq_iff_iff, mayN_iff, decide_eq_true_eq]; omega
    clear hm h1 h2 h3 h4
    go_enter Try.func29, Try.ntmps29
    go_wp2_with fail
    go_ret
    exact ⟨rfl, HX.out⟩
  have d5 : (d == 1) = false := by simpa using h5
  by_cases h6 : d = 2
  · subst h6
    obtain rfl : m = ((vn : Int) == 0) := by
      rw [hm, Bool.eq_iff_iff, mayN_iff, beq_iff_eq]; omega
    clear hm h1 h2 h3 h4
    go_enter Try.func29, Try.ntmps29
    go_wp2_with fail
    go_ret
    exact ⟨rfl, HX.out⟩
  have d6 : (d == 2) = false := by simpa using h6
  obtain rfl : m = false := by
    rw [hm, Bool.eq_false_iff, ne_eq, mayN_iff]; omega
  clear hm h1 h2 h3 h4
  go_enter Try.func29, Try.ntmps29
  go_wp2_with fail
  go_ret
  exact ⟨rfl, HX.out⟩

/-- What the model's comparing of bytes answers. -/
theorem cmpL_is (a b : List Nat) (ha : ∀ x ∈ a, x < 256) (hb : ∀ x ∈ b, x < 256) : Lib.compareBytes (a.map fun n => UInt8.ofNat n) (b.map fun n => UInt8.ofNat n) = cmpK a b := by
  induction a generalizing b with
  | nil => cases b <;> simp [Lib.compareBytes, cmpK]
  | cons x l ih =>
    cases b with
    | nil => simp [Lib.compareBytes, cmpK]
    | cons y r =>
      have hx := ha x (by simp)
      have hy := hb y (by simp)
      have h1 := ih r (fun z hz => ha z (by simp [hz])) (fun z hz => hb z (by simp [hz]))
      simp only [List.map_cons, Lib.compareBytes, cmpK, h1]
      have e1 : (UInt8.ofNat x < UInt8.ofNat y) ↔ x < y := by rw [UInt8.lt_iff_toNat_lt]; simp [Nat.mod_eq_of_lt hx, Nat.mod_eq_of_lt hy]
      have e2 : (UInt8.ofNat y < UInt8.ofNat x) ↔ y < x := by rw [UInt8.lt_iff_toNat_lt]; simp [Nat.mod_eq_of_lt hx, Nat.mod_eq_of_lt hy]
      simp [e1, e2]

/-- A key that may be compared: its cells, and bytes all. -/
theorem run_bytesOf {w : World} {lo hi : Nat} {v : Value} {l : List Nat} (h : Bs w lo hi v l) : (Extern.Bytes.bytesOf v).run Try.prog w = .ok ⟨(l.map fun n => UInt8.ofNat n).toArray⟩ w := by
  obtain ⟨A, c, rfl, _, _, hnil, hby⟩ := h
  cases A with
  | none =>
    have hl : l = [] := by
      rcases hby with h | ⟨b, o, he, _⟩
      · simpa [bv] using h
      · cases he
    subst hl
    simp [Extern.Bytes.bytesOf]; rfl
  | some a =>
    have hl := Lib.run_loadBytesX (P := Try.prog) (w := w) (l.map fun n : Nat => (n : Int)) a .empty (fun j x hj => by
      rcases hby with h | ⟨b, o, he, _, _, hc⟩
      · have : l = [] := by simpa [bv] using h
        subst this; simp at hj
      · injection he with he
        subst he
        rw [addr_add]
        exact hc j _ (by unfold bv; rw [List.getElem?_map] at hj ⊢; cases hq : l[j]? with
          | none => rw [hq] at hj; simp at hj
          | some y => rw [hq] at hj; simp at hj; subst hj; rfl))
    simp only [Extern.Bytes.bytesOf]
    rw [List.length_map] at hl
    rw [hl]
    simp [Lib.bytesOf]
theorem run_keys {w : World} {lo hi lo2 hi2 : Nat} {u v : Value} {a b : List Nat} (hu : Bs w lo hi u a) (hv : Bs w lo2 hi2 v b) (ha : ∀ x ∈ a, x < 256) (hb : ∀ x ∈ b, x < 256) :
    (Extern.BytealgCompare.compare #[u, v]).run Try.prog w = .ok (.int .i64 (cmpK a b)) w := by
  change Sem.run Try.prog (do pure (goInt (Extern.BytealgCompare.cmp (← Extern.Bytes.bytesOf u) (← Extern.Bytes.bytesOf v)))) w = _
  simp only [Sem.run_bind, run_bytesOf hu, run_bytesOf hv, Sem.run_pure, Result.andThen]
  rw [Lib.cmp_eq]
  rw [cmpL_is a b ha hb]
  rfl
theorem bcmp_any {w : World} {lo hi lo2 hi2 : Nat} {u v : Value} {a b : List Nat} (hu : Bs w lo hi u a) (hv : Bs w lo2 hi2 v b) (ha : ∀ x ∈ a, x < 256) (hb : ∀ x ∈ b, x < 256) :
    Calls Try.prog 99 #[u, v] w fun e w' => e = .returned (.int .i64 (cmpK a b)) ∧ w' = w := by
  have hcf : (callFunc 111 #[u, v]).run Try.prog w = .ok (.value (.int .i64 (cmpK a b))) w := by
    rw [run_callFunc_extern Try.func111 (by kernel_rfl) (by kernel_rfl) (by kernel_rfl) (e := Extern.BytealgCompare.compare) (by kernel_rfl), run_keys hu hv ha hb]
    rfl
  clear hu hv ha hb
  go_enter Try.func99, Try.ntmps99
  go_wp2_with fail
  go_ret
  exact ⟨rfl, rfl⟩
theorem keys_any {w : World} {lo hi lo2 hi2 : Nat} {u v : Value} {a b : List Nat} (hu : Bs w lo hi u a) (hv : Bs w lo2 hi2 v b) (ha : ∀ x ∈ a, x < 256) (hb : ∀ x ∈ b, x < 256) :
    Calls Try.prog 90 #[u, v] w fun e w' => e = .returned (.int .i64 (cmpK a b)) ∧ w' = w := by
  have HR := Lib.hid (bcmp_any hu hv ha hb)
  clear hu hv ha hb
  go_enter Try.func90, Try.ntmps90
  go_wp2_with fail
  refine Calls.mono HR.out ?_
  rintro e w' ⟨rfl, rfl⟩
  go_wp2
  go_ret
  exact ⟨rfl, rfl⟩
theorem nan_any (s : Int) (w : World) : Calls Try.prog 100 #[.int .i64 s] w fun e w' => e = .returned (.bool false) ∧ w' = w := by
  have d : (s != s) = false := by simp
  go_enter Try.func100, Try.ntmps100
  go_wp2
  go_ret
  exact ⟨rfl, rfl⟩
theorem icmp_any (s t : Int) (w : World) : Calls Try.prog 91 #[.int .i64 s, .int .i64 t] w fun e w' => e = .returned (.int .i64 (cmpS t s)) ∧ w' = w := by
  obtain ⟨c, hc⟩ : ∃ c, c = cmpS t s := ⟨_, rfl⟩
  rw [← hc]
  rcases Int.lt_trichotomy s t with h | h | h
  · obtain rfl : c = -1 := by rw [hc]; unfold cmpS; rw [if_pos h]
    have d : decide (s < t) = true := by simp [h]
    clear hc h
    go_enter Try.func91, Try.ntmps91
    go_wp2_with (go_at_call 100; refine (nan_any _ _).mono ?_; rintro e w' ⟨rfl, rfl⟩)
    go_ret
    exact ⟨rfl, rfl⟩
  · subst h
    obtain rfl : c = 0 := by rw [hc]; unfold cmpS; rw [if_neg (by omega), if_neg (by omega)]
    have d : decide (s < s) = false := by simp
    clear hc
    go_enter Try.func91, Try.ntmps91
    go_wp2_with (go_at_call 100; refine (nan_any _ _).mono ?_; rintro e w' ⟨rfl, rfl⟩)
    go_ret
    exact ⟨rfl, rfl⟩
  · obtain rfl : c = 1 := by rw [hc]; unfold cmpS; rw [if_neg (by omega), if_pos h]
    have d : decide (s < t) = false := by simp; omega
    have d2 : decide (t < s) = true := by simp [h]
    clear hc h
    go_enter Try.func91, Try.ntmps91
    go_wp2_with (go_at_call 100; refine (nan_any _ _).mono ?_; rintro e w' ⟨rfl, rfl⟩)
    go_ret
    exact ⟨rfl, rfl⟩

theorem tx_same {a b : List Nat} (ha : ∀ x ∈ a, x < 256) (hb : ∀ x ∈ b, x < 256) : ((tx a).toList == (tx b).toList) = decide (a = b) := by
  by_cases h : a = b
  · subst h; simp
  · rw [decide_eq_false h]
    have hne : tx a ≠ tx b := fun he => h (tx_inj ha hb he)
    rw [Bool.eq_false_iff]
    intro he
    rw [beq_iff_eq, ByteArray.toList_eq, ByteArray.toList_eq] at he
    exact hne (by
      have h1 : (tx a).data = (tx b).data := Array.ext' he
      cases h2 : tx a; cases h3 : tx b
      rw [h2, h3] at h1
      simp at h1; rw [h1])
theorem equal_any {w : World} {lo hi lo2 hi2 : Nat} {u v : Value} {a b : List Nat} (hu : Bs w lo hi u a) (hv : Bs w lo2 hi2 v b) (ha : ∀ x ∈ a, x < 256) (hb : ∀ x ∈ b, x < 256) :
    Calls Try.prog 73 #[u, v] w fun e w' => e = .returned (.bool (decide (a = b))) ∧ w' = w := by
  have ht := tx_same ha hb
  obtain ⟨z, hz⟩ : ∃ z, z = decide (a = b) := ⟨_, rfl⟩
  rw [← hz] at ht ⊢
  obtain ⟨A, c, rfl, _, _, _, hy⟩ := hu
  obtain ⟨A2, c2, rfl, _, _, _, hy2⟩ := hv
  have c1 := run_text (P := Try.prog) w 29 5 Try.underlying29 Try.underlying5 hy a.length c rfl 9 Try.underlying9
  have c2 := run_text (P := Try.prog) w 29 5 Try.underlying29 Try.underlying5 hy2 b.length c2 rfl 9 Try.underlying9
  clear hz hy hy2 ha hb
  go_enter Try.func73, Try.ntmps73
  go_wp2_with fail
  go_ret
  exact ⟨rfl, rfl⟩
set_option maxHeartbeats 1000000 in
theorem compare_any {w : World} {lo hi lo2 hi2 : Nat} {a b : Ent} {g h : Hd} (hu : Em w lo hi a g) (hv : Em w lo2 hi2 b h) (h1 : hi ≤ w.heap.size) (h2 : hi2 ≤ w.heap.size) :
    Calls Try.prog 72 #[a.at_ g, b.at_ h] w fun e w' => e = .returned (.int .i64 (cmpE a b)) ∧ Ext w w' := by
  obtain ⟨z, hz⟩ : ∃ z, z = cmpE a b := ⟨_, rfl⟩
  rw [← hz]
  unfold Ent.at_
  obtain ⟨w1, hw1⟩ : ∃ w1, w1 = (w.alloc (.cells #[.slice g.kA a.key.length g.kc, .int .i64 a.seq, .int .i64 a.kind, .slice g.vA a.val.length g.vc] 48)).alloc (.cells #[.slice h.kA b.key.length h.kc, .int .i64 b.seq, .int .i64 b.kind, .slice h.vA b.val.length h.vc] 48) := ⟨_, rfl⟩
  have HX : Hid (Ext w w1) := by rw [hw1]; exact Ext.trans (ext_alloc _ _) (ext_alloc _ _)
  have HK := Lib.hid (keys_any (hu.k.below HX.out h1) (hv.k.below HX.out h2) hu.bk hv.bk)
  have HS := Lib.hid (icmp_any b.seq a.seq)
  have HR := Lib.hid (cmpK_range a.key b.key)
  clear hu hv h1 h2
  obtain ⟨k, hk⟩ : ∃ k, k = cmpK a.key b.key := ⟨_, rfl⟩
  have hz2 : z = if k = 0 then cmpS a.seq b.seq else k := by rw [hz, hk]; rfl
  clear hz
  rw [← hk] at HK
  by_cases h0 : k = 0
  · rw [if_pos h0] at hz2
    have d : (k != 0) = false := by simp [h0]
    subst hw1
    clear hk h0
    go_enter Try.func72, Try.ntmps72
    go_wp2_with fail
    refine Calls.mono HK.out ?_
    rintro e w' ⟨rfl, rfl⟩
    go_wp2_with fail
    refine (HS.out _).mono ?_
    rintro e w' ⟨rfl, rfl⟩
    go_wp2_with fail
    go_ret
    subst hz2
    exact ⟨rfl, HX.out⟩
  · rw [if_neg h0] at hz2
    have d : (k != 0) = true := by simp [h0]
    subst hw1
    clear hk h0
    go_enter Try.func72, Try.ntmps72
    go_wp2_with fail
    refine Calls.mono HK.out ?_
    rintro e w' ⟨rfl, rfl⟩
    go_wp2_with fail
    go_ret
    subst hz2
    exact ⟨rfl, HX.out⟩

theorem Ent.ext {a b : Ent} (h1 : a.key = b.key) (h2 : a.seq = b.seq) (h3 : a.kind = b.kind) (h4 : a.val = b.val) : a = b := by cases a; cases b; simp_all
set_option maxHeartbeats 1000000 in
theorem same_any {w : World} {lo hi lo2 hi2 : Nat} {a b : Ent} {g h : Hd} (hu : Em w lo hi a g) (hv : Em w lo2 hi2 b h) (h1 : hi ≤ w.heap.size) (h2 : hi2 ≤ w.heap.size) :
    Calls Try.prog 46 #[a.at_ g, b.at_ h] w fun e w' => ∃ z : Bool, (z = true ↔ a = b) ∧ e = .returned (.bool z) ∧ Ext w w' := by
  obtain ⟨w1, hw1⟩ : ∃ w1, w1 = (w.alloc (.cells #[.slice g.kA a.key.length g.kc, .int .i64 a.seq, .int .i64 a.kind, .slice g.vA a.val.length g.vc] 48)).alloc (.cells #[.slice h.kA b.key.length h.kc, .int .i64 b.seq, .int .i64 b.kind, .slice h.vA b.val.length h.vc] 48) := ⟨_, rfl⟩
  have HX : Hid (Ext w w1) := by rw [hw1]; exact Ext.trans (ext_alloc _ _) (ext_alloc _ _)
  have c1 : w1.cell? ⟨w.heap.size, 2, none⟩ = some (.int .i64 a.kind) := by rw [hw1]; exact cell_new (cell_of (heap_at _ _ rfl) rfl) _
  have c2 : w1.cell? ⟨w.heap.size + 1, 2, none⟩ = some (.int .i64 b.kind) := by rw [hw1]; exact cell_of (heap_at _ _ (by simp)) rfl
  have c3 : w1.cell? ⟨w.heap.size, 3, none⟩ = some (.slice g.vA a.val.length g.vc) := by rw [hw1]; exact cell_new (cell_of (heap_at _ _ rfl) rfl) _
  have c4 : w1.cell? ⟨w.heap.size + 1, 3, none⟩ = some (.slice h.vA b.val.length h.vc) := by rw [hw1]; exact cell_of (heap_at _ _ (by simp)) rfl
  have HC := Lib.hid (compare_any (hu.below HX.out h1) (hv.below HX.out h2) (Nat.le_trans h1 HX.out.size) (Nat.le_trans h2 HX.out.size))
  have HE : Hid (∀ u, Ext w1 u → Calls Try.prog 73 #[.slice g.vA a.val.length g.vc, .slice h.vA b.val.length h.vc] u fun e w' => e = .returned (.bool (decide (a.val = b.val))) ∧ w' = u) :=
    fun u hx => equal_any (hu.v.below (HX.out.trans hx |>.mono (Nat.le_refl _)) h1) (hv.v.below (Ext.trans HX.out hx) h2) hu.bv hv.bv
  clear hu hv h1 h2
  unfold Ent.at_ at HC ⊢
  have HF : Hid (cmpE a b = 0 → a.kind = b.kind → a.val = b.val → a = b) := fun h1 h2 h3 => Ent.ext (cmpE_zero.1 h1).1 (cmpE_zero.1 h1).2 h2 h3
  have HG : Hid (a = b → cmpE a b = 0) := fun h => cmpE_zero.2 ⟨by rw [h], by rw [h]⟩
  by_cases h0 : cmpE a b = 0
  · have d : (cmpE a b == 0) = true := by simp [h0]
    by_cases hk : a.kind = b.kind
    · have d2 : (a.kind == b.kind) = true := by simp [hk]
      have HFF : Hid (∀ z, z = decide (a.val = b.val) → (z = true ↔ a = b)) := fun z hz => by
        rw [hz, decide_eq_true_eq]; exact ⟨fun h => HF.out h0 hk h, fun h => by rw [h]⟩
      obtain ⟨z, hz⟩ : ∃ z, z = decide (a.val = b.val) := ⟨_, rfl⟩
      have HZ := Lib.hid (HFF.out z hz)
      rw [← hz] at HE
      clear h0 hk HF HG HFF hz
      go_enter Try.func46, Try.ntmps46
      rw [hw1] at HC c1 c2 c3 c4 HE HX
      go_wp2_with fail
      refine Calls.mono HC.out ?_
      rintro e w2 ⟨rfl, hx2⟩
      have HX2 := Lib.hid hx2
      have q1 := ext_cell hx2 c1
      have q2 := ext_cell hx2 c2
      have q3 := ext_cell hx2 c3
      have q4 := ext_cell hx2 c4
      clear hx2 c1 c2 c3 c4
      go_wp2_with fail
      refine (HE.out _ HX2.out).mono ?_
      rintro e w3 ⟨rfl, rfl⟩
      go_wp2_with fail
      go_ret
      exact ⟨z, HZ.out, by cases z <;> rfl, Ext.trans HX.out HX2.out⟩
    · have d2 : (a.kind == b.kind) = false := by simp [hk]
      have HZ : Hid (false = true ↔ a = b) := ⟨fun h => (by cases h), fun h => absurd (by rw [h]) hk⟩
      clear h0 hk HF HG HE
      go_enter Try.func46, Try.ntmps46
      rw [hw1] at HC c1 c2 c3 c4 HX
      go_wp2_with fail
      refine Calls.mono HC.out ?_
      rintro e w2 ⟨rfl, hx2⟩
      have HX2 := Lib.hid hx2
      have q1 := ext_cell hx2 c1
      have q2 := ext_cell hx2 c2
      clear hx2 c1 c2 c3 c4
      go_wp2_with fail
      go_ret
      exact ⟨false, HZ.out, rfl, Ext.trans HX.out HX2.out⟩
  · have d : (cmpE a b == 0) = false := by simp [h0]
    have HZ : Hid (false = true ↔ a = b) := ⟨fun h => (by cases h), fun h => absurd (HG.out h) h0⟩
    clear h0 HF HG HE
    go_enter Try.func46, Try.ntmps46
    rw [hw1] at HC HX
    go_wp2_with fail
    refine Calls.mono HC.out ?_
    rintro e w2 ⟨rfl, hx2⟩
    have HX2 := Lib.hid hx2
    clear hx2 c1 c2 c3 c4
    go_wp2_with fail
    go_ret
    exact ⟨false, HZ.out, rfl, Ext.trans HX.out HX2.out⟩
end Go.Proofs.Ytgflhbpmkcggnaa

/- ikey's Bytes and Size. -/
namespace Go.Proofs.Ytgflhbpmkcggnaa
open Go.ChangeShapes Go.WideShapes Go.ChangeAt Go.RowKit

/-- Bytes in a row of the call's own, from block B on. -/
def Own (B : Nat) (l : List Nat) (v : Value) (u : World) : Prop := u.ownsRow B 5 1 v l.length (bv l)
theorem Mono.own (B : Nat) (l : List Nat) : Mono (Own B l) := fun _ _ _ h hu => own_below h hu (Nat.le_refl _)
theorem Own.below {B : Nat} {l : List Nat} {v : Value} {u u' : World} (h : Own B l v u) (hu : Ext u u') : Own B l v u' := own_below h hu (Nat.le_refl _)
theorem Own.bs {B : Nat} {l : List Nat} {v : Value} {u : World} (h : Own B l v u) : Bs u 0 u.heap.size v l := (Bs.of_own h).wide (Nat.zero_le _) (Nat.le_refl _)
theorem Own.slice {B : Nat} {l : List Nat} {v : Value} {u : World} (h : Own B l v u) : ∃ A c, v = .slice A l.length c := by
  obtain ⟨A, c, e, _⟩ := h.bs
  exact ⟨A, c, e⟩
theorem Own.base {B B' : Nat} {l : List Nat} {v : Value} {u : World} (h : Own B l v u) (hB : B' ≤ B) : Own B' l v u := ownsRow_base h hB

/-- 'append(s, x...)': bytes to bytes. -/
theorem wpList_addbytes {ops : Array Oper} {rest : List Oper} {o : Oper} {a : Act} {Q : Exit → Act → World → Prop} {wr : World} (hgd : o.guard = none) (s x : Operand)
    (ho : o.op = .call { callee := .builtin .append, args := #[s, x], argTypes := #[29, 29] }) (B : Nat) (v : Value) (l : List Nat) (hs : a.eval s = v) (hown : Own B l v wr)
    (lo hi : Nat) (u : Value) (r : List Nat) (hx : a.eval x = u) (hu : Bs wr lo hi u r) (hlen : l.length + r.length ≤ 1099511627776) (hB : B ≤ wr.heap.size)
    (h : ∀ A' c' w', Own B (l ++ r) (.slice A' (l ++ r).length c') w' → (∀ w0, Below B w0 wr → Below B w0 w') → wpList Try.prog ops Q rest (a.put o.dst (.slice A' (l ++ r).length c')) w') :
    wpList Try.prog ops Q (o :: rest) a wr := by
  obtain ⟨i0, hi0, ix0, ix1, ix2⟩ := info_parts t5info
  obtain ⟨A, c, rfl, h1, h2, hnil, hby⟩ := hu
  refine wpList_addall hgd s x 29 ho B 5 i0 (.int .u8 0) 1 Try.underlying29 hi0 ix0 ix1 ix2 rfl v l.length (bv l) hs hown lo hi A r.length c (bv r) hx hnil (by rw [bv_length]) hby (bv_one r) (by unfold maxLen; omega) (by omega) hB (fun v' w' ho' hb => ?_)
  have hown' : Own B (l ++ r) v' w' := by unfold Own; rw [List.length_append, bv_append]; exact ho'
  obtain ⟨A', c', rfl⟩ := hown'.slice
  exact h A' c' w' hown' hb

/-- What Bytes answers. -/
def BytesAns (w : World) (e : Ent) (x : Ending) (w' : World) : Prop :=
  Ext w w' ∧ ((e.may = true ∧ ∃ A c, x = .returned (.tuple #[.slice A e.form.length c, .int .i64 0]) ∧ Own w.heap.size e.form (.slice A e.form.length c) w') ∨ (e.may = false ∧ x = .returned (.tuple #[.slice none 0 0, .int .i64 2])))

set_option maxRecDepth 100000 in
set_option maxHeartbeats 4000000 in
theorem ebytes_any {w : World} {lo hi : Nat} {e : Ent} {g : Hd} (hm : Em w lo hi e g) (hhi : hi ≤ w.heap.size) : Calls Try.prog 80 #[e.at_ g] w (BytesAns w e) := by
  obtain ⟨w1, hw1⟩ : ∃ w1, w1 = w.alloc (.cells #[.slice g.kA e.key.length g.kc, .int .i64 e.seq, .int .i64 e.kind, .slice g.vA e.val.length g.vc] 48) := ⟨_, rfl⟩
  have HX : Hid (Ext w w1) := by rw [hw1]; exact ext_alloc _ _
  have c0 : w1.cell? ⟨w.heap.size, 0, none⟩ = some (.slice g.kA e.key.length g.kc) := by rw [hw1]; exact cell_of (heap_at _ _ rfl) rfl
  have c1 : w1.cell? ⟨w.heap.size, 1, none⟩ = some (.int .i64 e.seq) := by rw [hw1]; exact cell_of (heap_at _ _ rfl) rfl
  have c2 : w1.cell? ⟨w.heap.size, 2, none⟩ = some (.int .i64 e.kind) := by rw [hw1]; exact cell_of (heap_at _ _ rfl) rfl
  have c3 : w1.cell? ⟨w.heap.size, 3, none⟩ = some (.slice g.vA e.val.length g.vc) := by rw [hw1]; exact cell_of (heap_at _ _ rfl) rfl
  have HM := Lib.hid (may_any g.kA g.vA e.key.length g.kc e.val.length g.vc e.seq e.kind w1)
  have HE1 := Lib.hid (hm.below HX.out hhi)
  have HHI : Hid (hi ≤ w1.heap.size) := Nat.le_trans hhi HX.out.size
  have HSZ : Hid (w.heap.size ≤ w1.heap.size) := HX.out.size
  clear hm hhi
  cases hmay : mayN e.key.length e.seq e.kind e.val.length with
  | false =>
    rw [hmay] at HM
    have HMAY : Hid (e.may = false) := hmay
    clear hmay c0 c1 c2 c3
    unfold Ent.at_
    go_enter Try.func80, Try.ntmps80
    rw [hw1] at HM HX
    go_wp2_with fail
    refine Calls.mono HM.out ?_
    rintro x w2 ⟨rfl, hb⟩
    have HX2 := Lib.hid (Ext.trans HX.out hb)
    clear hb
    go_wp2_with fail
    go_ret2
    exact ⟨HX2.out, .inr ⟨HMAY.out, rfl⟩⟩
  | true =>
    rw [hmay] at HM
    have HMAY : Hid (e.may = true) := hmay
    have HU := Lib.hid (Ent.may_u64 HMAY.out)
    obtain ⟨_, hkn, hs1, hs2, hd⟩ := mayN_iff.1 hmay
    obtain ⟨n, hn⟩ : ∃ n : Nat, e.seq = (n : Int) := ⟨e.seq.toNat, by omega⟩
    obtain ⟨d, hdn⟩ : ∃ d : Nat, e.kind = (d : Int) := ⟨e.kind.toNat, by omega⟩
    have hn64 : U64 n := ⟨by omega⟩
    have hd64 : U64 d := ⟨by omega⟩
    have q1 : IntKind.u64.wrap (n : Int) = (n : Int) := by rw [IntKind.wrap_u64]; omega
    have q2 : IntKind.u64.wrap (d : Int) = (d : Int) := by rw [IntKind.wrap_u64]; omega
    have hform : e.form = [bytesForm e.key, form n, form d].flatten ++ (if d = 1 then bytesForm e.val else []) := by
      unfold Ent.form
      rw [hn, hdn]
      have : ((d : Int) = 1) ↔ d = 1 := by omega
      by_cases h : d = 1 <;> simp [this, h]
    have hkl : e.key.length ≤ 1000000000000 := by omega
    have hvl : e.val.length ≤ 65536 := by omega
    have hd12 : d = 1 ∨ d = 2 := by omega
    have hfl : [bytesForm e.key, form n, form d].flatten.length ≤ 70 := by
      have a1 := (bytesForm_len HU.out.1).1
      have a2 := form_len64 hn64
      have a3 := form_len64 hd64
      simp only [List.flatten_cons, List.flatten_nil, List.append_nil, List.length_append]
      omega
    obtain ⟨F3, hF3⟩ : ∃ F, F = [bytesForm e.key, form n, form d].flatten := ⟨_, rfl⟩
    rw [← hF3] at hform hfl
    have HF3 := Lib.hid hF3
    have HVL := Lib.hid hvl
    have HN := Lib.hid hn64
    have HD := Lib.hid hd64
    have HF := Lib.hid hform
    have HKL := Lib.hid hkl
    have HFL := Lib.hid hfl
    clear hF3 hmay hn64 hd64 hform hkl hvl hfl hkn hs1 hs2 hd
    rw [hn] at c1 HM
    rw [hdn] at c2 HM
    unfold Ent.at_
    rw [hn, hdn]
    rw [hn, hdn] at hw1
    clear hn hdn
    go_enter Try.func80, Try.ntmps80
    go_wp2_with fail
    rw [← hw1]
    refine Calls.mono HM.out ?_
    rintro x w2 ⟨rfl, hb⟩
    have HX2 : Hid (Ext w1 w2) := hb
    have b0 := ext_cell hb c0
    have b1 := ext_cell hb c1
    have b2 := ext_cell hb c2
    have b3 := ext_cell hb c3
    clear hb c0 c1 c2 c3 hw1
    go_upto_region 3 with (fail)
    refine flow (by kernel_rfl) [Is (.pointer (some ⟨w.heap.size, 0, none⟩)), Is (.slice g.kA e.key.length g.kc), Own w.heap.size (bytesForm e.key), Is (.pointer (some ⟨w.heap.size, 1, none⟩)), Is (.int .i64 (n : Int)), Is (.int .u64 (n : Int)), Own w.heap.size (form n), Is (.pointer (some ⟨w.heap.size, 2, none⟩)), Is (.int .i64 (d : Int)), Is (.int .u64 (d : Int)), Own w.heap.size (form d), Rws 3 [bytesForm e.key, form n, form d], Own w.heap.size F3, Own w.heap.size F3] (by kernel_rfl) (by kernel_rfl) ?mono (fun f => ?obl) ?fin
    case mono =>
      simp only [List.forall_mem_cons, List.not_mem_nil, false_imp_iff, implies_true, and_true]
      exact ⟨.is _, .is _, .own _ _, .is _, .is _, .is _, .own _ _, .is _, .is _, .is _, .own _ _, .rws _ _, .own _ _, .own _ _⟩
    case fin =>
      intro g1 u hu hg
      simp only [puts, Act.put, List.setIfInBounds_toArray, List.set_cons_zero, List.set_cons_succ]
      have h13 : Own w.heap.size F3 (g1 13) u := hg 13 (by decide)
      have b2 := ext_cell hu b2
      have b3 := ext_cell hu b3
      obtain ⟨v, hv⟩ : ∃ v, v = g1 13 := ⟨_, rfl⟩
      rw [← hv] at h13 ⊢
      have HO := Lib.hid h13
      obtain ⟨A, c, rfl⟩ := h13.slice
      have HXU : Hid (Ext w u) := Ext.trans HX.out (Ext.trans HX2.out (Ext.trans (Ext.drew w2) hu))
      have HEU := Lib.hid (HE1.out.below (Ext.trans HX2.out (Ext.trans (Ext.drew w2) hu)) HHI.out)
      have HHU : Hid (hi ≤ u.heap.size) := Nat.le_trans HHI.out (Ext.trans HX2.out (Ext.trans (Ext.drew w2) hu)).size
      clear h13 hv b0 b1 hg
      rcases hd12 with rfl | rfl
      · rw [if_pos rfl] at HF
        have b2 : u.cell? ⟨w.heap.size, 2, none⟩ = some (.int .i64 1) := b2
        go_wp2_with fail
        refine (bytes_any _ lo hi e.val _ HEU.out.v HHU.out (Nat.le_trans HVL.out (by decide))).mono ?_
        rintro x w3 ⟨v3, rfl, hown, hb3⟩
        have HX3 : Hid (Ext u w3) := hb3
        have HO3 : Hid (Own u.heap.size (bytesForm e.val) v3 w3) := hown
        have HO4 := Lib.hid (HO.out.below hb3)
        have HL4 : Hid ((bytesForm e.val).length ≤ 65546) := by have := (bytesForm_len HU.out.2.2.2).1; have := HVL.out; unfold Hid; omega
        obtain ⟨A3, c3, rfl⟩ := HO3.out.slice
        clear hown hb3
        go_wp2_with (at_builtin; refine wpList_addbytes rfl (.tmp 24) (.tmp 27) rfl w.heap.size _ _ rfl HO4.out _ _ _ _ rfl HO3.out.bs (by have := HFL.out; have := HL4.out; omega) (Nat.le_trans HXU.out.size HX3.out.size) ?_)
        intro A5 c5 w5 ho5 hb5
        rw [← HF.out] at ho5
        have HO5 := Lib.hid ho5
        have HX5 : Hid (Ext w w5) := hb5 w (Ext.trans HXU.out HX3.out)
        have hfl : F3.length + (bytesForm e.val).length = e.form.length := by rw [HF.out, List.length_append]
        rw [hfl] at HO5 ⊢
        clear ho5 hb5 hfl
        go_wp2_with fail
        go_ret2
        exact ⟨HX5.out, .inl ⟨HMAY.out, _, _, rfl, HO5.out⟩⟩
      · rw [if_neg (by decide), List.append_nil] at HF
        have b2 : u.cell? ⟨w.heap.size, 2, none⟩ = some (.int .i64 2) := b2
        rw [← HF.out] at HO ⊢
        go_wp2_with fail
        go_ret2
        exact ⟨HXU.out, .inl ⟨HMAY.out, _, _, rfl, HO.out⟩⟩
    case obl =>
      refine ⟨fun u hu hd => ?_, ?_⟩
      · go_simp
        exact ⟨Ext.refl _, rfl⟩
      refine ⟨fun u hu hd => ?_, ?_⟩
      · simp only [Act.put, List.setIfInBounds_toArray, List.set_cons_zero, List.set_cons_succ]
        have e0 : f 0 = (.pointer (some ⟨w.heap.size, 0, none⟩)) := hd 0 (by kernel_rfl)
        have q := ext_cell hu b0
        go_simp
        exact ⟨Ext.refl _, rfl⟩
      refine ⟨fun u hu hd => ?_, ?_⟩
      · simp only [Act.put, List.setIfInBounds_toArray, List.set_cons_zero, List.set_cons_succ]
        have e1 : f 1 = (.slice g.kA e.key.length g.kc) := hd 1 (by kernel_rfl)
        go_simp
        refine (bytes_any _ lo hi e.key u (HE1.out.k.below (Ext.trans HX2.out (Ext.trans (Ext.drew w2) hu)) HHI.out) (Nat.le_trans HHI.out (Ext.trans HX2.out (Ext.trans (Ext.drew w2) hu)).size) HKL.out).mono ?_
        rintro x w9 ⟨v, rfl, hown, hb9⟩
        exact ⟨v, rfl, hb9, ownsRow_base hown (Nat.le_trans HSZ.out (Ext.trans HX2.out (Ext.trans (Ext.drew w2) hu)).size)⟩
      refine ⟨fun u hu hd => ?_, ?_⟩
      · simp only [Act.put, List.setIfInBounds_toArray, List.set_cons_zero, List.set_cons_succ]
        go_simp
        exact ⟨Ext.refl _, rfl⟩
      refine ⟨fun u hu hd => ?_, ?_⟩
      · simp only [Act.put, List.setIfInBounds_toArray, List.set_cons_zero, List.set_cons_succ]
        have e3 : f 3 = (.pointer (some ⟨w.heap.size, 1, none⟩)) := hd 3 (by kernel_rfl)
        have q := ext_cell hu b1
        go_simp
        exact ⟨Ext.refl _, rfl⟩
      refine ⟨fun u hu hd => ?_, ?_⟩
      · simp only [Act.put, List.setIfInBounds_toArray, List.set_cons_zero, List.set_cons_succ]
        have e4 : f 4 = (.int .i64 (n : Int)) := hd 4 (by kernel_rfl)
        go_simp
        exact ⟨Ext.refl _, rfl⟩
      refine ⟨fun u hu hd => ?_, ?_⟩
      · simp only [Act.put, List.setIfInBounds_toArray, List.set_cons_zero, List.set_cons_succ]
        have e5 : f 5 = (.int .u64 (n : Int)) := hd 5 (by kernel_rfl)
        go_simp
        refine (number_any n HN.out u).mono ?_
        rintro x w9 ⟨v, rfl, hown, hb9⟩
        exact ⟨v, rfl, hb9, ownsRow_base hown (Nat.le_trans HSZ.out (Ext.trans HX2.out (Ext.trans (Ext.drew w2) hu)).size)⟩
      refine ⟨fun u hu hd => ?_, ?_⟩
      · simp only [Act.put, List.setIfInBounds_toArray, List.set_cons_zero, List.set_cons_succ]
        go_simp
        exact ⟨Ext.refl _, rfl⟩
      refine ⟨fun u hu hd => ?_, ?_⟩
      · simp only [Act.put, List.setIfInBounds_toArray, List.set_cons_zero, List.set_cons_succ]
        have e7 : f 7 = (.pointer (some ⟨w.heap.size, 2, none⟩)) := hd 7 (by kernel_rfl)
        have q := ext_cell hu b2
        go_simp
        exact ⟨Ext.refl _, rfl⟩
      refine ⟨fun u hu hd => ?_, ?_⟩
      · simp only [Act.put, List.setIfInBounds_toArray, List.set_cons_zero, List.set_cons_succ]
        have e8 : f 8 = (.int .i64 (d : Int)) := hd 8 (by kernel_rfl)
        go_simp
        exact ⟨Ext.refl _, rfl⟩
      refine ⟨fun u hu hd => ?_, ?_⟩
      · simp only [Act.put, List.setIfInBounds_toArray, List.set_cons_zero, List.set_cons_succ]
        have e9 : f 9 = (.int .u64 (d : Int)) := hd 9 (by kernel_rfl)
        go_simp
        refine (number_any d HD.out u).mono ?_
        rintro x w9 ⟨v, rfl, hown, hb9⟩
        exact ⟨v, rfl, hb9, ownsRow_base hown (Nat.le_trans HSZ.out (Ext.trans HX2.out (Ext.trans (Ext.drew w2) hu)).size)⟩
      refine ⟨fun u hu hd => ?_, ?_⟩
      · simp only [Act.put, List.setIfInBounds_toArray, List.set_cons_zero, List.set_cons_succ]
        have h2 : Own w.heap.size (bytesForm e.key) (f 2) u := hd 2 (by kernel_rfl)
        have h6 : Own w.heap.size (form n) (f 6) u := hd 6 (by kernel_rfl)
        have h10 : Own w.heap.size (form d) (f 10) u := hd 10 (by kernel_rfl)
        have hx0 := Lib.hid h2.bs
        have hx1 := Lib.hid h6.bs
        have hx2 := Lib.hid h10.bs
        obtain ⟨v2, e2⟩ : ∃ v, v = f 2 := ⟨_, rfl⟩
        obtain ⟨v6, e6⟩ : ∃ v, v = f 6 := ⟨_, rfl⟩
        obtain ⟨v10, e10⟩ : ∃ v, v = f 10 := ⟨_, rfl⟩
        rw [← e2] at hx0 h2 ⊢
        rw [← e6] at hx1 h6 ⊢
        rw [← e10] at hx2 h10 ⊢
        obtain ⟨A2, c2, rfl⟩ := h2.slice
        obtain ⟨A6, c6, rfl⟩ := h6.slice
        obtain ⟨A10, c10, rfl⟩ := h10.slice
        have hr := Lib.hid (rws_lit u [.slice A2 (bytesForm e.key).length c2, .slice A6 (form n).length c6, .slice A10 (form d).length c10] [bytesForm e.key, form n, form d] 3 rfl rfl (fun i v l hv hl => by
          match i with
          | 0 => simp at hv hl; subst hv hl; exact ⟨_, _, hx0.out, Nat.le_refl _⟩
          | 1 => simp at hv hl; subst hv hl; exact ⟨_, _, hx1.out, Nat.le_refl _⟩
          | 2 => simp at hv hl; subst hv hl; exact ⟨_, _, hx2.out, Nat.le_refl _⟩
          | i + 3 => simp at hv))
        clear h2 h6 h10 e2 e6 e10
        go_simp
        exact ⟨below_new _ _, hr.out⟩
      refine ⟨fun u hu hd => ?_, ?_⟩
      · simp only [Act.put, List.setIfInBounds_toArray, List.set_cons_zero, List.set_cons_succ]
        obtain ⟨hn, g1, h, e11, hh, x, hr⟩ := (show Rws 3 [bytesForm e.key, form n, form d] (f 11) u from hd 11 (by kernel_rfl))
        have HR := Lib.hid hr
        clear hr hn
        go_simp
        refine (join_any (some ⟨g1, 0, none⟩) 3 0 h x _ u HR.out hh (by simp [maxLen]) (by simp) (by rw [← HF3.out]; have := HFL.out; omega) 3 rfl).mono ?_
        rintro x w9 ⟨v, rfl, hown, hb9⟩
        rw [← HF3.out] at hown
        exact ⟨v, rfl, hb9, ownsRow_base hown (Nat.le_trans HSZ.out (Ext.trans HX2.out (Ext.trans (Ext.drew w2) hu)).size)⟩
      refine ⟨fun u hu hd => ?_, ?_⟩
      · simp only [Act.put, List.setIfInBounds_toArray, List.set_cons_zero, List.set_cons_succ]
        have H12 := Lib.hid (show Own w.heap.size F3 (f 12) u from hd 12 (by kernel_rfl))
        go_simp
        exact ⟨Ext.refl _, H12.out⟩
      trivial

end Go.Proofs.Ytgflhbpmkcggnaa

/- Lists of numbers: wire.Take and wire.Put at uint64. -/
namespace Go.Proofs.Ytgflhbpmkcggnaa
open Go.ChangeShapes Go.WideShapes Go.ChangeAt Go.RowKit

/-- Numbers that stand here one behind the other. -/
def AllNum : List Nat → List Nat → List Nat → Prop
  | l, [], rest => l = rest
  | l, x :: xs, rest => ∃ mid, Begins l x mid ∧ AllNum mid xs rest
theorem AllNum.snoc : ∀ {xs l mid : List Nat} {x : Nat} {rest : List Nat}, AllNum l xs mid → Begins mid x rest → AllNum l (xs ++ [x]) rest
  | [], l, mid, x, rest, h, hb => by
    have : l = mid := h
    subst this
    exact ⟨rest, hb, rfl⟩
  | y :: ys, l, mid, x, rest, ⟨m, h1, h2⟩, hb => ⟨m, h1, AllNum.snoc h2 hb⟩
theorem AllNum.len : ∀ {xs l rest : List Nat}, AllNum l xs rest → xs.length + rest.length ≤ l.length
  | [], l, rest, h => by
    have : l = rest := h
    subst this
    simp
  | x :: xs, l, rest, ⟨m, h1, h2⟩ => by
    have := AllNum.len h2
    have h3 := congrArg List.length h1.eq
    have h4 : 0 < (form x).length := by
      by_cases h : x < 128
      · rw [form_lo h]; simp
      · rw [form_hi h]; simp
    simp at h3
    simp only [List.length_cons]
    omega

def uv (l : List Nat) : List Value := l.map fun n : Nat => Value.int .u64 (n : Int)
theorem t22info : (Try.prog.info? 59).map (fun i => (i.zero, i.size, i.bytes)) = some (some (.int .u64 0), 1, 8) := by kernel_rfl

/-- A list that stands here, in new memory from block B on. -/
def OkList (B : Nat) (most : Int) (l : List Nat) (v : Value) (rest : List Nat) (w : World) : Prop :=
  ∃ xs mid : List Nat, Begins l xs.length mid ∧ (xs.length : Int) ≤ most ∧ AllNum mid xs rest ∧ w.ownsRow B 59 1 v xs.length (uv xs)
def ErrList (most : Int) (l : List Nat) (n : Int) : Prop := ErrCount most l n ∨ (n = 4 ∧ ∃ m mid, Begins l m mid ∧ (m : Int) ≤ most ∧ ∃ xs rest, xs.length < m ∧ AllNum mid xs rest ∧ NoNum rest)

theorem holds_list (B : Nat) (most : Int) (l : List Nat) (B' : Nat) (h : B' ≤ B) : Holds2 (OkList B most l) B' := by
  rintro v rest w b o u ⟨xs, mid, h1, h2, h3, h4⟩ hb
  exact ⟨xs, mid, h1, h2, h3, ownsRow_setCell_below h4 (by simpa using Nat.lt_of_lt_of_le hb h) u⟩

theorem own_grown {w w' : World} {B : Nat} {e : TypeId} {v : Value} {n : Nat} {xs : List Value} {r : Nat} (h : w.ownsRow B e 1 v n xs) (hg : w.grownBy w' (some r)) (hr : r < B) : w'.ownsRow B e 1 v n xs := by
  refine h.kept hg ?_
  cases hb : v.ownBlock with
  | none => exact .inl rfl
  | some k =>
    right
    have := (h.lt k hb).1
    intro he
    injection he with he
    omega

theorem grownBy_trans {a b c : World} {r : Nat} (h : a.grownBy b (some r)) (k : b.grownBy c (some r)) : a.grownBy c (some r) :=
  ⟨k.os.trans h.os, k.tape.trans h.tape, k.output.trans h.output, Nat.le_trans h.size k.size, fun i hi hne => (k.block i (Nat.lt_of_lt_of_le hi h.size) hne).trans (h.block i hi hne)⟩
theorem grownBy_below {a b c : World} {r : Nat} (h : a.grownBy b (some r)) (k : Below a.heap.size b c) : a.grownBy c (some r) :=
  ⟨k.os.trans h.os, k.tape.trans h.tape, k.output.trans h.output, Nat.le_trans h.size k.size, fun i hi hne => (k.block i hi).trans (h.block i hi hne)⟩

theorem fnil (w : World) : (binOp .eql 136 (.func (.func 94) #[] #[]) .nilFunc).run Try.prog w = .ok (.bool false) w := by kernel_rfl

/-- The form of a list of numbers. -/
def listForm (xs : List Nat) : List Nat := form xs.length ++ (xs.map form).flatten

theorem allnum_forms : ∀ (xs rest : List Nat), (∀ x ∈ xs, U64 x) → AllNum ((xs.map form).flatten ++ rest) xs rest
  | [], rest, _ => by simp [AllNum]
  | x :: xs, rest, h => ⟨(xs.map form).flatten ++ rest, ⟨h x (by simp), by simp⟩, allnum_forms xs rest fun y hy => h y (by simp [hy])⟩
theorem AllNum.forms : ∀ {xs l rest : List Nat}, AllNum l xs rest → l = (xs.map form).flatten ++ rest ∧ ∀ x ∈ xs, U64 x
  | [], l, rest, h => ⟨by simpa using (show l = rest from h), by simp⟩
  | x :: xs, l, rest, ⟨m, h1, h2⟩ => by
    obtain ⟨h3, h4⟩ := AllNum.forms h2
    refine ⟨by rw [h1.eq, h3]; simp, fun y hy => ?_⟩
    rcases List.mem_cons.1 hy with rfl | hy
    · exact h1.n64
    · exact h4 y hy
end Go.Proofs.Ytgflhbpmkcggnaa

/- The reference's writers answer the same forms. -/
namespace Go.Proofs.Ytgflhbpmkcggnaa
open Go.ChangeShapes Go.WideShapes Go.ChangeAt Go.RowKit

theorem wq {m : Nat} (h : U64 m) : IntKind.u64.wrap ((m : Int) / 128) = (m : Int) / 128 := by have := h.lt; rw [IntKind.wrap_u64]; omega
theorem wr128 (m : Nat) : IntKind.u64.wrap ((m : Int) % 128) = (m : Int) % 128 := by rw [IntKind.wrap_u64]; omega
theorem form_pos (n : Nat) : 0 < (form n).length := by
  by_cases h : n < 128
  · rw [form_lo h]; simp
  · rw [form_hi h]; simp

set_option maxHeartbeats 400000 in
theorem digits_any (n : Nat) (h1 : U64 n) (w : World) : Calls Try.prog 56 #[.int .u64 n] w fun e w' => e = .returned (.int .i64 ((form n).length : Int)) ∧ w = w' := by
  have h10 := form_len64 h1
  obtain ⟨F, hF⟩ : ∃ F, F = (form n).length := ⟨_, rfl⟩
  rw [← hF] at h10 ⊢
  have HF := Lib.hid hF
  clear hF
  go_enter Try.func56, Try.ntmps56
  go_wp2_with fail
  go_loop [0, 3] (fun x c => ∃ (m k : Nat), U64 m ∧ x = .int .u64 (m : Int) ∧ c = .int .i64 (k : Int) ∧ k + (form m).length = F + 1) (fun x _ => (intOf x).toNat)
  case atStart => exact ⟨n, 1, h1, rfl, rfl, by rw [HF.out]; omega⟩
  case round =>
    obtain ⟨m, k, hm64, rfl, rfl, hk⟩ := hrel
    have hq := wq hm64
    have hp := form_pos m
    have HK := Lib.hid hk
    have hk10 : (k : Int) ≤ 10 := by omega
    clear hk
    by_cases hlt : m < 128
    · have hd : decide ((0 : Int) < (m : Int) / 128) = false := by simp; omega
      have hd2 : decide (0 < m / 128) = false := by simp; omega
      have hfin : (k : Int) = (F : Int) := by have := HK.out; rw [form_lo hlt] at this; simp at this; omega
      have HN := Lib.hid hfin
      clear hfin hp hlt
      go_wp2_with fail
      go_ret
      exact ⟨by rw [HN.out]; rfl, rfl⟩
    · have hd : decide ((0 : Int) < (m : Int) / 128) = true := by simp; omega
      have hd2 : decide (0 < m / 128) = true := by simp; omega
      have hrel : k + 1 + (form (m / 128)).length = F + 1 := by have := HK.out; rw [form_hi hlt] at this; simp at this; omega
      have HN := Lib.hid hrel
      clear hrel hp
      go_wp2_with fail
      go_round
      case rel => exact ⟨m / 128, k + 1, hm64.div _, by go_num, by go_num, HN.out⟩
      case measure => simp [intOf]; omega

theorem drop_form (n : Nat) : ∀ (k m : Nat), k < (form n).length → (form n).drop k = form m → (form n)[k]? = some (if m < 128 then m else m % 128 + 128) ∧ (¬ m < 128 → (form n).drop (k + 1) = form (m / 128)) ∧ (m < 128 ↔ k + 1 = (form n).length) := by
  intro k m hk h
  have h0 : ((form n).drop k)[0]? = (form n)[k]? := by rw [List.getElem?_drop]; simp
  have hl : ((form n).drop k).length = (form n).length - k := by simp
  have hd : (form n).drop (k + 1) = ((form n).drop k).drop 1 := by rw [List.drop_drop]
  by_cases hm : m < 128
  · rw [h, form_lo hm] at h0 hl
    refine ⟨by rw [← h0, if_pos hm]; rfl, fun h => absurd hm h, fun _ => ?_, fun _ => hm⟩
    simp at hl; omega
  · have hp := form_pos (m / 128)
    rw [h, form_hi hm] at h0 hl hd
    refine ⟨by rw [← h0, if_neg hm]; rfl, fun _ => by rw [hd]; rfl, fun h => absurd h hm, fun h => ?_⟩
    simp at hl; omega

theorem take_set {xs : List Value} {L : List Nat} {k u : Nat} (hk : k < L.length) (hx : k < xs.length) (ht : xs.take k = bv (L.take k)) (hg : L[k]? = some u) {v : Value} (hv : v = .int .u8 (u : Int) := by rfl) :
    (xs.set k v).take (k + 1) = bv (L.take (k + 1)) := by
  subst hv
  rw [List.getElem?_eq_getElem hk] at hg
  injection hg with hg
  rw [List.take_succ_eq_append_getElem (by simpa using hx), List.take_succ_eq_append_getElem hk, bv_append, ← ht, hg, List.take_set, List.set_eq_of_length_le (by simp; omega)]
  simp [bv]

set_option maxHeartbeats 1000000 in
theorem rnumber_any (n : Nat) (h1 : U64 n) (w : World) : Calls Try.prog 34 #[.int .u64 n] w (NewBy w (form n)) := by
  obtain ⟨i0, hi0, hz0, hz1, hz2⟩ := info_parts t5info
  have h10 := form_len64 h1
  have HD := Lib.hid (digits_any n h1 w)
  have HDF := Lib.hid (drop_form n)
  have hstart : (form n).drop 0 = form n := by simp
  obtain ⟨w1, hrun, hown, hg⟩ := run_make_full (P := Try.prog) w w.heap.size 29 5 i0 (.int .u8 0) 1 Try.underlying29 hi0 hz0 hz1 .i64 .i64 (form n).length (by rw [hz2]; omega) (by unfold maxLen; omega) (Nat.le_refl _)
  have hb1 : Below w.heap.size w w1 := (Below.refl _ _).grown hg (Nat.le_refl _) (by intro k hk; cases hk)
  obtain ⟨L, hL⟩ : ∃ L, L = form n := ⟨_, rfl⟩
  rw [← hL] at HD HDF hrun hown h10 hstart ⊢
  have HS := Lib.hid (show L.drop 0 = form n by rw [hL]; simp)
  have hx0 : ∃ xs : List Value, w1.ownsRow w.heap.size 5 1 (.slice (some ⟨w.heap.size, 0, none⟩) L.length L.length) L.length xs ∧ xs.take 0 = bv (L.take 0) := ⟨_, hown, by simp [bv]⟩
  have HX := Lib.hid hx0
  have HB1 := Lib.hid hb1
  have H1 := Lib.hid h1
  have h10I : (L.length : Int) ≤ 10 := by omega
  clear hL hown hg hx0 hb1 hi0 hz0 hz1 hz2 hstart h10
  go_enter Try.func34, Try.ntmps34
  go_wp2_with fail
  refine Calls.mono HD.out ?_
  rintro e w2 ⟨rfl, rfl⟩
  go_wp2_with fail
  go_loopw [0, 4] (fun x i wr => ∃ (m k : Nat) (xs : List Value), U64 m ∧ k ≤ L.length ∧ x = .int .u64 (m : Int) ∧ i = .int .i64 (k : Int) ∧ (k < L.length → L.drop k = form m) ∧ wr.ownsRow w.heap.size 5 1 (.slice (some ⟨w.heap.size, 0, none⟩) L.length L.length) L.length xs ∧ xs.take k = bv (L.take k) ∧ Below w.heap.size w wr) (fun _ i _ => L.length - (intOf i).toNat)
  case atStart =>
    obtain ⟨xs, h1, h2⟩ := HX.out
    exact ⟨n, 0, xs, H1.out, Nat.zero_le _, rfl, rfl, fun _ => HS.out, h1, h2, HB1.out⟩
  case round =>
    obtain ⟨m, k, xs, hm64, hk, rfl, rfl, hdr, hown, htk, hb⟩ := hrel
    have hq := wq hm64
    by_cases hlt : k < L.length
    · obtain ⟨hget, hnext, hlast⟩ := HDF.out k m hlt (hdr hlt)
      have hd : decide (k < L.length) = true := by simp [hlt]
      have hxl : xs.length = L.length := by have := hown.1; omega
      have hk1 : k < xs.length := by omega
      have hcell : wr.cell? ⟨w.heap.size, k, none⟩ = some xs[k] := by rw [hown.cellAt k (by omega), List.getElem?_eq_getElem hk1]
      have hfz := hown.frozenAt k
      have hm3 := wr128 m
      generalize xs[k] = x0 at hcell
      have HO := Lib.hid hown
      have HT := Lib.hid htk
      have HB := Lib.hid hb
      have HG := Lib.hid hget
      have HN := Lib.hid hnext
      clear hown htk hb hget hnext hdr
      by_cases hm : m < 128
      · have hkl := hlast.1 hm
        have HKL := Lib.hid hkl
        have hd2 : decide ((k : Int) < (L.length : Int) - 1) = false := by simp; omega
        clear hlast hkl
        have hst := (HO.out.stored k (.int .u8 ((m : Int) % 128))).1
        have hrel : (wr.setCell ⟨w.heap.size, k, none⟩ (.int .u8 ((m : Int) % 128))).ownsRow w.heap.size 5 1 (.slice (some ⟨w.heap.size, 0, none⟩) L.length L.length) L.length (xs.set k (.int .u8 ((m : Int) % 128))) ∧ (xs.set k (.int .u8 ((m : Int) % 128))).take (k + 1) = bv (L.take (k + 1)) ∧ Below w.heap.size w (wr.setCell ⟨w.heap.size, k, none⟩ (.int .u8 ((m : Int) % 128))) := by
          refine ⟨hst, ?_, HB.out.setCell (Nat.le_refl _) _⟩
          have hg := HG.out
          rw [if_pos hm] at hg
          exact take_set hlt hk1 HT.out hg (by rw [show (m : Int) % 128 = (m : Int) by omega])
        have HR := Lib.hid hrel
        clear hst hrel
        go_wp2_with fail
        refine ⟨⟨m / 128, k + 1, _, hm64.div _, by omega, by go_num, by go_num, fun h => by have := HKL.out; omega, HR.out⟩, by simp [intOf]; omega⟩
      · have hkl : k + 1 < L.length := by
          rcases Nat.lt_or_ge (k + 1) L.length with h | h
          · exact h
          · exact absurd (hlast.2 (by omega)) hm
        have hd2 : decide ((k : Int) < (L.length : Int) - 1) = true := by simp; omega
        have hst := (((HO.out.stored k (.int .u8 ((m : Int) % 128))).1).stored k (.int .u8 ((m : Int) % 128 + 128))).1
        have hrel : ((wr.setCell ⟨w.heap.size, k, none⟩ (.int .u8 ((m : Int) % 128))).setCell ⟨w.heap.size, k, none⟩ (.int .u8 ((m : Int) % 128 + 128))).ownsRow w.heap.size 5 1 (.slice (some ⟨w.heap.size, 0, none⟩) L.length L.length) L.length (xs.set k (.int .u8 ((m : Int) % 128 + 128))) ∧ (xs.set k (.int .u8 ((m : Int) % 128 + 128))).take (k + 1) = bv (L.take (k + 1)) ∧
            Below w.heap.size w ((wr.setCell ⟨w.heap.size, k, none⟩ (.int .u8 ((m : Int) % 128))).setCell ⟨w.heap.size, k, none⟩ (.int .u8 ((m : Int) % 128 + 128))) := by
          refine ⟨by simpa using hst, ?_, (HB.out.setCell (Nat.le_refl _) _).setCell (Nat.le_refl _) _⟩
          have hg := HG.out
          rw [if_neg hm] at hg
          exact take_set hlt hk1 HT.out hg
        have HR := Lib.hid hrel
        clear hst hrel hlast
        go_wp2_with fail
        refine ⟨⟨m / 128, k + 1, _, hm64.div _, by omega, by go_num, by go_num, fun _ => HN.out hm, HR.out⟩, by simp [intOf]; omega⟩
    · obtain rfl : k = L.length := by omega
      have hd : decide (L.length < L.length) = false := by simp
      have hxs : xs = bv L := by
        have h1 := hown.1
        rw [List.take_length, List.take_of_length_le (by omega)] at htk
        exact htk
      subst hxs
      have HR : Hid (NewBy w L (.returned (.slice (some ⟨w.heap.size, 0, none⟩) L.length L.length)) wr) := ⟨_, rfl, hown, hb⟩
      clear hown htk hdr hb
      go_wp2_with fail
      go_ret
      exact HR.out
end Go.Proofs.Ytgflhbpmkcggnaa

/- The reference's Signed, Flag, Bytes. -/
namespace Go.Proofs.Ytgflhbpmkcggnaa
open Go.ChangeShapes Go.WideShapes Go.ChangeAt Go.RowKit

set_option maxHeartbeats 400000 in
theorem rbytes_any (v : Value) (lo hi : Nat) (l : List Nat) (w : World) (h : Bs w lo hi v l) (hhi : hi ≤ w.heap.size) (hl : l.length ≤ 1000000000000) :
    Calls Try.prog 35 #[v] w (NewBy w (bytesForm l)) := by
  obtain ⟨i0, hi0, hz0, hz1, hz2⟩ := info_parts t5info
  have HI := Lib.hid hi0
  have h64 : U64 l.length := ⟨by omega⟩
  have hf := form_len64 h64
  have HL := Lib.hid hl
  have H := Lib.hid h
  have hlI : ((l.length : Nat) : Int) ≤ 1000000000000 := by omega
  obtain ⟨A, c, rfl, h1, h2, hnil, hby⟩ := h
  have HN := Lib.hid hnil
  clear hl h1 h2 hby hi0 hnil
  go_enter Try.func35, Try.ntmps35
  go_wp2_with fail
  refine (rnumber_any _ h64 _).mono ?_
  rintro e w1 ⟨v1, rfl, hown, hb⟩
  have hz := hb.size
  have g2 := Lib.hid (show Bs w1 lo hi (.slice A l.length c) l from H.out.below hb hhi)
  go_wp2_with (at_builtin; refine wpList_addall rfl (.tmp 6) (.tmp 7) 29 rfl w.heap.size 5 i0 (.int .u8 0) 1 Try.underlying29 HI.out hz0 hz1 hz2 rfl _ _ _ rfl hown lo hi A l.length c (bv l) rfl HN.out ?c2 ?c3 (bv_one l) ?c4 ?c5 ?c6 ?_)
  case c2 => exact bv_length l
  case c3 =>
    obtain ⟨A', c', he, _, _, _, h4⟩ := g2.out
    injection he with he1
    subst he1
    exact h4
  case c4 => have := HL.out; unfold maxLen; omega
  case c5 => have := HL.out; omega
  case c6 => exact hz
  intro v2 w2 hown2 hb2
  have HF : Hid (NewBy w (bytesForm l) (.returned v2) w2) := ⟨v2, rfl, by rw [bytesForm, bv_append, List.length_append]; exact hown2, hb2 _ hb⟩
  clear hown hown2 hb2
  go_wp2
  go_ret
  exact HF.out
end Go.Proofs.Ytgflhbpmkcggnaa
