/- A region that draws its order, by facts: each operation, whenever it comes up, gives a value of which a fact holds that stays true in later worlds; so behind all of them all facts hold, whatever the order was. -/
import Derived.Test.YtcofnbeemfhcpaaOrd
namespace Go.Proofs.Ytcofnbeemfhcpaa
open Go.RowKit

/-- A fact that later worlds keep. -/
def Mono (p : Value → World → Prop) : Prop := ∀ v u u', p v u → Ext u u' → p v u'
/-- The value is this one. -/
def Is (c : Value) : Value → World → Prop := fun v _ => v = c
theorem Mono.is (c : Value) : Mono (Is c) := fun _ _ _ h _ => h
/-- The j-th of the facts. -/
def fact (φ : List (Value → World → Prop)) (j : Nat) (v : Value) (u : World) : Prop := (φ.getD j fun _ _ => True) v u
theorem fact_mono {φ : List (Value → World → Prop)} (h : ∀ p ∈ φ, Mono p) (j : Nat) {v : Value} {u u' : World} (hf : fact φ j v u) (hu : Ext u u') : fact φ j v u' := by
  unfold fact at *
  by_cases hj : j < φ.length
  · have e : φ.getD j (fun _ _ => True) = φ[j] := by simp [List.getD, List.getElem?_eq_getElem hj]
    rw [e] at hf ⊢
    exact h _ (List.getElem_mem hj) _ _ _ hf hu
  · have e : φ.getD j (fun _ _ => True) = fun _ _ => True := by simp [List.getD, List.getElem?_eq_none (Nat.le_of_not_lt hj)]
    rw [e]; trivial

/-- Operation o must come behind the j-th. -/
def aft (o : Oper) (j : Nat) : Bool := o.after.any fun e => Region.binds .any e && e.on == j
/-- What a run gives. -/
def GivesR (P : Program) (r : Result Next) (R : Value → World → Prop) : Prop := match r with
  | .ok (.value v) u' => R v u'
  | .ok .skip u' => R undef u'
  | .ok (.enter f args) u' => Calls P f args u' fun e w => ∃ v, e = .returned v ∧ R v w
  | _ => False
/-- What is kept of an operation's value. -/
def kept (o : Oper) (v : Value) : Value := match o.dst with | some _ => v | none => undef
/-- Each operation gives its fact. -/
def Obls (P : Program) (ops : Array Oper) (φ : List (Value → World → Prop)) (w0 : World) (f : Nat → Value) : Nat → List Oper → Act → Prop
  | _, [], _ => True
  | k, o :: rest, a => (∀ u, Ext w0 u → (∀ j, aft o j = true → fact φ j (f j) u) →
      if Region.wanted o (yielded ops a.tmps) = true then GivesR P ((execOp a.eval o).run P u) (fun v u' => Ext u u' ∧ fact φ k (kept o v) u') else fact φ k undef u) ∧ Obls P ops φ w0 f (k + 1) rest (a.put o.dst (f k))
/-- The values laid into their slots. -/
def puts (g : Nat → Value) : Nat → List Oper → Act → Act
  | _, [], a => a
  | k, o :: rest, a => puts g (k + 1) rest (a.put o.dst (g k))

/-- What the theorem asks of a region, to be reckoned. -/
def flowOk (ops : Array Oper) (size : Nat) : Bool :=
  (List.range ops.size).all fun i => match ops[i]? with
    | none => false
    | some oi => oi.after.all (fun e => !Region.binds .any e || decide (e.on < i)) &&
      (match oi.guard with | some (g, _) => aft oi g | none => true) &&
      (match oi.dst with | some d => decide (d < size) | none => true) &&
      (List.range ops.size).all fun j => match ops[j]? with
        | none => false
        | some oj => match oj.dst with
          | none => true
          | some d => (j == i || oi.dst != some d) && (!(oi.looksAt ops).contains d || aft oi j || aft oj i)

theorem flowOk_at {ops : Array Oper} {size i : Nat} {oi : Oper} (h : flowOk ops size = true) (hi : ops[i]? = some oi) :
    (∀ e ∈ oi.after, Region.binds .any e = true → e.on < i) ∧ (∀ g b, oi.guard = some (g, b) → aft oi g = true) ∧ (∀ d, oi.dst = some d → d < size) ∧
    ∀ j oj d, ops[j]? = some oj → oj.dst = some d → (j ≠ i → oi.dst ≠ some d) ∧ (d ∈ oi.looksAt ops → aft oi j = true ∨ aft oj i = true) := by
  have hlt : i < ops.size := (Array.getElem?_eq_some_iff.1 hi).1
  unfold flowOk at h
  rw [List.all_eq_true] at h
  have h1 := h i (List.mem_range.2 hlt)
  simp only [hi, Bool.and_eq_true] at h1
  obtain ⟨⟨⟨ha, hb⟩, hc⟩, hd⟩ := h1
  refine ⟨fun e he hbind => ?_, fun g b hg => ?_, fun d hd' => ?_, fun j oj d hj hjd => ?_⟩
  · have := (Array.all_eq_true_iff_forall_mem.1 ha) e he
    simpa [hbind] using this
  · simpa [hg] using hb
  · simpa [hd'] using hc
  · rw [List.all_eq_true] at hd
    have h2 := hd j (List.mem_range.2 (Array.getElem?_eq_some_iff.1 hj).1)
    simp only [hj, hjd, Bool.and_eq_true, Bool.or_eq_true, beq_iff_eq, bne_iff_ne, ne_eq, Bool.not_eq_true'] at h2
    obtain ⟨x, y⟩ := h2
    refine ⟨fun hne => x.resolve_left hne, fun hm => ?_⟩
    rcases y with (y | y) | y
    · have : (oi.looksAt ops).contains d = true := by simpa using hm
      rw [y] at this; cases this
    · exact .inl y
    · exact .inr y

/-- The value in an operation's slot. -/
def slot (a : Act) (o : Oper) : Value := match o.dst with | some d => a.tmps.getD d undef | none => undef

theorem put_get (a : Act) (dst : Option Tmp) (v : Value) (s : Nat) : (a.put dst v).tmps[s]? = if dst = some s ∧ s < a.tmps.size then some v else a.tmps[s]? := by
  cases dst with
  | none => simp [Act.put]
  | some d =>
    simp only [Act.put, Array.getElem?_setIfInBounds]
    by_cases h : d = s
    · subst h
      by_cases h2 : d < a.tmps.size <;> simp [h2]
    · simp [h]
theorem put_size (a : Act) (dst : Option Tmp) (v : Value) : (a.put dst v).tmps.size = a.tmps.size := by cases dst <;> simp [Act.put]
theorem put_defers' (a : Act) (dst : Option Tmp) (v : Value) : (a.put dst v).defers = a.defers := by cases dst <;> rfl

/-- The slots behind some of the operations, by index. -/
theorem puts_get (g : Nat → Value) : ∀ (l : List Oper) (k : Nat) (a : Act) (s : Nat), s < a.tmps.size → (∀ (i j : Nat) (oi oj : Oper), l[i]? = some oi → l[j]? = some oj → oi.dst = some s → oj.dst = some s → i = j) →
    ((∀ (j : Nat) (o : Oper), l[j]? = some o → o.dst ≠ some s) → (puts g k l a).tmps[s]? = a.tmps[s]?) ∧ (∀ (j : Nat) (o : Oper), l[j]? = some o → o.dst = some s → (puts g k l a).tmps[s]? = some (g (k + j))) := by
  intro l
  induction l with
  | nil => intro k a s _ _; exact ⟨fun _ => rfl, fun j o h => by simp at h⟩
  | cons o l ih =>
    intro k a s hs hu
    have hu' : ∀ (i j : Nat) (oi oj : Oper), l[i]? = some oi → l[j]? = some oj → oi.dst = some s → oj.dst = some s → i = j := fun i j oi oj hi hj h1 h2 => by
      have := hu (i + 1) (j + 1) oi oj (by simpa using hi) (by simpa using hj) h1 h2; omega
    obtain ⟨h1, h2⟩ := ih (k + 1) (a.put o.dst (g k)) s (by rw [put_size]; exact hs) hu'
    refine ⟨fun hn => ?_, fun j oj hj hd => ?_⟩
    · show (puts g (k + 1) l (a.put o.dst (g k))).tmps[s]? = _
      rw [h1 (fun j oj hj => hn (j + 1) oj (by simpa using hj)), put_get, if_neg (fun h => hn 0 o (by simp) h.1)]
    · show (puts g (k + 1) l (a.put o.dst (g k))).tmps[s]? = _
      cases j with
      | zero =>
        simp at hj; subst hj
        have hno : ∀ (j : Nat) (oj : Oper), l[j]? = some oj → oj.dst ≠ some s := fun j oj hj h => by
          have := hu 0 (j + 1) o oj (by simp) (by simpa using hj) hd h; omega
        rw [h1 hno, put_get, if_pos ⟨hd, hs⟩]; rfl
      | succ j =>
        have := h2 j oj (by simpa using hj) hd
        rw [this, show k + 1 + j = k + (j + 1) by omega]
theorem puts_size (g : Nat → Value) : ∀ (l : List Oper) (k : Nat) (a : Act), (puts g k l a).tmps.size = a.tmps.size := by
  intro l
  induction l with
  | nil => intro k a; rfl
  | cons o l ih => intro k a; exact (ih _ _).trans (put_size _ _ _)
theorem puts_defers (g : Nat → Value) : ∀ (l : List Oper) (k : Nat) (a : Act), (puts g k l a).defers = a.defers := by
  intro l
  induction l with
  | nil => intro k a; rfl
  | cons o l ih => intro k a; exact (ih _ _).trans (put_defers' _ _ _)

theorem Obls.at {P : Program} {ops : Array Oper} {φ : List (Value → World → Prop)} {w0 : World} {f : Nat → Value} : ∀ (l : List Oper) (k : Nat) (a : Act), Obls P ops φ w0 f k l a → ∀ (i : Nat) (o : Oper), l[i]? = some o →
    ∀ u, Ext w0 u → (∀ j, aft o j = true → fact φ j (f j) u) →
      if Region.wanted o (yielded ops (puts f k (l.take i) a).tmps) = true then GivesR P ((execOp (puts f k (l.take i) a).eval o).run P u) (fun v u' => Ext u u' ∧ fact φ (k + i) (kept o v) u') else fact φ (k + i) undef u := by
  intro l
  induction l with
  | nil => intro k a _ i o h; simp at h
  | cons o l ih =>
    intro k a h i oi hi
    cases i with
    | zero => simp at hi; subst hi; exact h.1
    | succ i =>
      have := ih (k + 1) _ h.2 i oi (by simpa using hi)
      simp only [List.take_succ_cons, puts]
      rw [show k + (i + 1) = k + 1 + i by omega]
      exact this

structure Inv (ops : Array Oper) (φ : List (Value → World → Prop)) (a0 : Act) (w0 : World) (seen : Array Bool) (a : Act) (u : World) : Prop where
  ext : Ext w0 u
  size : seen.size = ops.size
  defs : a.defers = a0.defers
  tsz : a.tmps.size = a0.tmps.size
  old : ∀ s, (∀ (j : Nat) (oj : Oper), ops[j]? = some oj → seen.getD j false = true → oj.dst ≠ some s) → a.tmps[s]? = a0.tmps[s]?
  facts : ∀ (j : Nat) (oj : Oper), ops[j]? = some oj → seen.getD j false = true → fact φ j (slot a oj) u
  closed : ∀ (j : Nat) (oj : Oper), ops[j]? = some oj → seen.getD j false = true → ∀ k, aft oj k = true → seen.getD k false = true

theorem aft_lt {ops : Array Oper} {size i k : Nat} {oi : Oper} (h : flowOk ops size = true) (hi : ops[i]? = some oi) (hk : aft oi k = true) : k < i := by
  unfold aft at hk
  obtain ⟨e, he, hb⟩ := Array.any_eq_true'.1 hk
  simp only [Bool.and_eq_true, beq_iff_eq] at hb
  rw [← hb.2]
  exact (flowOk_at h hi).1 e he hb.1

section
variable {P : Program} {ops : Array Oper} {Q : Exit → Act → World → Prop} {φ : List (Value → World → Prop)} {a0 : Act} {w0 : World}

/-- What stands in the slots of operation i's fact. -/
def held (ops : Array Oper) (a : Act) (j : Nat) : Value := match ops[j]? with | some oj => slot a oj | none => undef

theorem look_same {seen : Array Bool} {a : Act} {u : World} (hok : flowOk ops a0.tmps.size = true) (hI : Inv ops φ a0 w0 seen a u) {i : Nat} {oi : Oper} (hi : ops[i]? = some oi) (hn : seen.getD i false = false)
    {t : Nat} (ht : t ∈ oi.looksAt ops) : a.tmps[t]? = (puts (held ops a) 0 (ops.toList.take i) a0).tmps[t]? := by
  by_cases hsz : t < a0.tmps.size
  · have hlen : i < ops.toList.length := by simpa using (Array.getElem?_eq_some_iff.1 hi).1
    have conv : ∀ (j : Nat) (o : Oper), (ops.toList.take i)[j]? = some o → j < i ∧ ops[j]? = some o := fun j o h => by
      rw [List.getElem?_take] at h
      split at h
      · rename_i hj; exact ⟨hj, by rw [← Array.getElem?_toList]; exact h⟩
      · cases h
    have huniq : ∀ (x y : Nat) (ox oy : Oper), (ops.toList.take i)[x]? = some ox → (ops.toList.take i)[y]? = some oy → ox.dst = some t → oy.dst = some t → x = y := fun x y ox oy hx hy h1 h2 => by
      rcases Nat.decEq x y with hne | he
      · exact absurd h1 (((flowOk_at hok (conv x ox hx).2).2.2.2 y oy t (conv y oy hy).2 h2).1 (fun e => hne e.symm))
      · exact he
    obtain ⟨h1, h2⟩ := puts_get (held ops a) (ops.toList.take i) 0 a0 t hsz huniq
    by_cases hex : ∃ (j : Nat) (oj : Oper), (ops.toList.take i)[j]? = some oj ∧ oj.dst = some t
    · obtain ⟨j, oj, hj, hd⟩ := hex
      rw [h2 j oj hj hd, Nat.zero_add]
      have hj' := (conv j oj hj).2
      have hlt := (conv j oj hj).1
      simp only [held, hj', slot, hd]
      have hts : t < a.tmps.size := by rw [hI.tsz]; exact hsz
      simp [Array.getD, hts]
    · have hex' : ∀ (j : Nat) (o : Oper), (ops.toList.take i)[j]? = some o → o.dst ≠ some t := fun j o hj hd => hex ⟨j, o, hj, hd⟩
      rw [h1 hex']
      refine hI.old t fun j oj hj hsj hd => ?_
      rcases ((flowOk_at hok hi).2.2.2 j oj t hj hd).2 ht with h | h
      · have hlt := aft_lt hok hi h
        refine hex' j oj ?_ hd
        rw [List.getElem?_take, if_pos hlt, Array.getElem?_toList]; exact hj
      · have := hI.closed j oj hj hsj i h
        rw [hn] at this; cases this
  · have e1 : a.tmps[t]? = none := Array.getElem?_eq_none (by rw [hI.tsz]; omega)
    have e2 : (puts (held ops a) 0 (ops.toList.take i) a0).tmps[t]? = none := Array.getElem?_eq_none (by rw [puts_size]; omega)
    rw [e1, e2]

theorem set_getD (seen : Array Bool) (i j : Nat) : (seen.setIfInBounds i true).getD j false = if i = j ∧ j < seen.size then true else seen.getD j false := by
  by_cases h : i = j
  · subst h
    by_cases h2 : i < seen.size <;> simp [Array.getD, h2]
  · rw [if_neg (fun e => h e.1), Array.getD_eq_getD_getElem?, Array.getD_eq_getD_getElem?, Array.getElem?_setIfInBounds_ne h]

theorem Inv.next {seen : Array Bool} {a : Act} {u u' : World} (hok : flowOk ops a0.tmps.size = true) (hmono : ∀ p ∈ φ, Mono p) (hI : Inv ops φ a0 w0 seen a u) {i : Nat} {oi : Oper} (hi : ops[i]? = some oi)
    (hs : ∀ k, aft oi k = true → seen.getD k false = true) {v : Value} (hu : Ext u u') (hf : fact φ i (kept oi v) u') : Inv ops φ a0 w0 (seen.setIfInBounds i true) (a.put oi.dst v) u' := by
  refine ⟨hI.ext.trans hu, by simp [hI.size], by rw [put_defers']; exact hI.defs, by rw [put_size]; exact hI.tsz, fun s h => ?_, fun j oj hj hsj => ?_, fun j oj hj hsj k hk => ?_⟩
  · have hlt : i < seen.size := by rw [hI.size]; exact (Array.getElem?_eq_some_iff.1 hi).1
    have hne : oi.dst ≠ some s := h i oi hi (by rw [set_getD, if_pos ⟨rfl, hlt⟩])
    rw [put_get, if_neg (fun h => hne h.1)]
    refine hI.old s fun j oj hj hsj => h j oj hj ?_
    rw [set_getD]
    split
    · rfl
    · exact hsj
  · rw [set_getD] at hsj
    by_cases hij : i = j
    · subst hij
      rw [hi] at hj
      injection hj with hj
      subst hj
      have e : slot (a.put oi.dst v) oi = kept oi v := by
        unfold slot kept
        cases hd : oi.dst with
        | none => rfl
        | some d =>
          have hds := (flowOk_at hok hi).2.2.1 d hd
          have hd2 : d < a.tmps.size := by rw [hI.tsz]; exact hds
          simp [Act.put, Array.getD, hd2]
      rw [e]; exact hf
    · rw [if_neg (fun h => hij h.1)] at hsj
      have e : slot (a.put oi.dst v) oj = slot a oj := by
        unfold slot
        cases hd : oj.dst with
        | none => rfl
        | some d =>
          have hne := ((flowOk_at hok hi).2.2.2 j oj d hj hd).1 (fun e => hij e.symm)
          have := put_get a oi.dst v d
          rw [if_neg (fun h => hne h.1)] at this
          show (a.put oi.dst v).tmps.getD d undef = a.tmps.getD d undef
          rw [Array.getD_eq_getD_getElem?, this, ← Array.getD_eq_getD_getElem?]
      rw [e]
      exact fact_mono hmono j (hI.facts j oj hj hsj) hu
  · rw [set_getD] at hsj ⊢
    split
    · rfl
    · rename_i hk2
      by_cases hij : i = j
      · subst hij
        rw [hi] at hj
        injection hj with hj
        subst hj
        exact hs k hk
      · rw [if_neg (fun h => hij h.1)] at hsj
        exact hI.closed j oj hj hsj k hk

theorem getD_both (seen : Array Bool) {i : Nat} (h : i < seen.size) : seen.getD i true = seen.getD i false := by simp [Array.getD, h]

theorem gives_wp {o : Oper} {a : Act} {u : World} {R : Value → World → Prop} {K : Act → World → Prop} (h : GivesR P ((execOp a.eval o).run P u) R) (hK : ∀ v u', R v u' → K (a.put o.dst v) u') : o.wp P a u K Q := by
  unfold Oper.wp
  generalize (execOp a.eval o).run P u = r at h
  cases r with
  | ok n w' =>
    cases n <;> simp only [GivesR, Oper.upon] at h ⊢ <;> first | exact hK _ _ h | exact h.elim | exact Calls.mono h (fun e w'' he => by obtain ⟨v, rfl, hv⟩ := he; exact hK _ _ hv)
  | halt x w' => exact h.elim

theorem flow_step {seen : Array Bool} {a : Act} {u : World} {m : Nat} (hok : flowOk ops a0.tmps.size = true) (hsel : Region.noSelect ops = true) (hmono : ∀ p ∈ φ, Mono p) (hobl : ∀ f, Obls P ops φ w0 f 0 (ops.toList.take m) a0)
    (hI : Inv ops φ a0 w0 seen a u) {i : Nat} (him : i < m) (hr : i ∈ Region.ready .any ops seen) : wpOp P ops Q i (fun b u' => Inv ops φ a0 w0 (seen.setIfInBounds i true) b u') a u := by
  obtain ⟨hun, oi, hi, hall⟩ := mem_ready.1 hr
  have hlt : i < ops.size := (Array.getElem?_eq_some_iff.1 hi).1
  have hn : seen.getD i false = false := by rw [← getD_both seen (by rw [hI.size]; exact hlt)]; simpa using hun
  have hs : ∀ k, aft oi k = true → seen.getD k false = true := fun k hk => by
    unfold aft at hk
    obtain ⟨e, he, hb⟩ := Array.any_eq_true'.1 hk
    simp only [Bool.and_eq_true, beq_iff_eq] at hb
    rw [← hb.2]
    exact hall e he hb.1
  have hlook := fun {t : Nat} (ht : t ∈ oi.looksAt ops) => look_same hok hI hi hn ht
  have hfacts : ∀ j, aft oi j = true → fact φ j (held ops a j) u := fun j hj => by
    have hjl := aft_lt hok hi hj
    have hoj : ops[j]? = some ops[j] := Array.getElem?_eq_getElem (by omega)
    have := hI.facts j _ hoj (hs j hj)
    simp only [held, hoj]
    exact this
  have hO := Obls.at (ops.toList.take m) 0 a0 (hobl (held ops a)) i oi (by rw [List.getElem?_take, if_pos him, Array.getElem?_toList]; exact hi) u hI.ext hfacts
  rw [Nat.zero_add, List.take_take, Nat.min_eq_left (Nat.le_of_lt him)] at hO
  have hex : execOp (puts (held ops a) 0 (ops.toList.take i) a0).eval oi = execOp a.eval oi := by
    refine execOp_congr oi (fun cs b => Region.noSelect_spec hsel i oi cs b hi) fun x hx => ?_
    cases x with
    | tmp t =>
      have ht : t ∈ oi.looksAt ops := by
        unfold Oper.looksAt
        refine List.mem_append_left _ (List.mem_filterMap.2 ⟨.tmp t, by simpa using hx, rfl⟩)
      show Array.getD _ t undef = Array.getD _ t undef
      rw [Array.getD_eq_getD_getElem?, Array.getD_eq_getD_getElem?, hlook ht]
    | _ => rfl
  have hwt : Region.wanted oi (yielded ops (puts (held ops a) 0 (ops.toList.take i) a0).tmps) = Region.wanted oi (yielded ops a.tmps) := by
    unfold Region.wanted
    cases hg : oi.guard with
    | none => rfl
    | some gb =>
      obtain ⟨g, b⟩ := gb
      have e : yielded ops (puts (held ops a) 0 (ops.toList.take i) a0).tmps g = yielded ops a.tmps g := by
        unfold yielded
        cases hd : (ops[g]?).bind (·.dst) with
        | none => rfl
        | some d =>
          have ht : d ∈ oi.looksAt ops := by
            unfold Oper.looksAt
            rw [hg]
            refine List.mem_append_right _ ?_
            simp only [hd]
            simp
          show (match (puts (held ops a) 0 (ops.toList.take i) a0).tmps[d]? with | some (Value.bool b) => some b | _ => none) = _
          rw [← hlook ht]
          rfl
      simp only [e]
  rw [hex, hwt] at hO
  unfold wpOp
  simp only [hi]
  split
  · rename_i hw
    rw [if_pos hw] at hO
    exact .inl (gives_wp hO fun v u' h => hI.next hok hmono hi hs h.1 h.2)
  · rename_i hw
    rw [if_neg hw] at hO
    refine hI.next hok hmono hi hs (Ext.refl u) ?_
    have : kept oi undef = undef := by unfold kept; cases oi.dst <;> rfl
    rw [this]; exact hO

/-- How many have not come up. -/
def left (ops : Array Oper) (seen : Array Bool) : Nat := (List.range ops.size).countP fun i => !seen.getD i false
theorem left_next {seen : Array Bool} (hs : seen.size = ops.size) {i : Nat} (hi : i < ops.size) (hn : seen.getD i false = false) : left ops (seen.setIfInBounds i true) + 1 = left ops seen := by
  unfold left
  have key : ∀ n, i < n → n ≤ ops.size → (List.range n).countP (fun j => !(seen.setIfInBounds i true).getD j false) + 1 = (List.range n).countP fun j => !seen.getD j false := by
    intro n
    induction n with
    | zero => intro h; omega
    | succ n ih =>
      intro h1 h2
      rw [List.range_succ, List.countP_append, List.countP_append]
      by_cases h : i = n
      · subst h
        have e : (List.range i).countP (fun j => !(seen.setIfInBounds i true).getD j false) = (List.range i).countP fun j => !seen.getD j false := by
          apply List.countP_congr
          intro j hj
          rw [set_getD, if_neg (by simp at hj; omega)]
        rw [e]
        have e2 : (seen.setIfInBounds i true).getD i false = true := by rw [set_getD, if_pos ⟨rfl, by omega⟩]
        simp only [List.countP_cons, List.countP_nil, e2, hn]
        simp
      · have := ih (by omega) (by omega)
        have e : (!(seen.setIfInBounds i true).getD n false) = !seen.getD n false := by rw [set_getD, if_neg (by omega)]
        simp only [List.countP_cons, List.countP_nil, e]
        omega
  exact key ops.size hi (Nat.le_refl _)

theorem all_seen {seen : Array Bool} {a : Act} {u : World} (hok : flowOk ops a0.tmps.size = true) (hI : Inv ops φ a0 w0 seen a u) (hr : Region.ready .any ops seen = []) : ∀ i, i < ops.size → seen.getD i false = true := by
  intro i
  induction i using Nat.strongRecOn with
  | ind i ih =>
    intro hlt
    rcases h : seen.getD i false with _ | _
    · have hi : ops[i]? = some ops[i] := Array.getElem?_eq_getElem hlt
      have : i ∈ Region.ready .any ops seen := mem_ready.2 ⟨by rw [getD_both seen (by rw [hI.size]; exact hlt)]; exact h, ops[i], hi, fun e he hb => by
        have := (flowOk_at hok hi).1 e he hb
        exact ih e.on this (by omega)⟩
      rw [hr] at this; cases this
    · rfl

theorem act_is {seen : Array Bool} {a : Act} {u : World} (hok : flowOk ops a0.tmps.size = true) (hI : Inv ops φ a0 w0 seen a u) : a = puts (held ops a) 0 ops.toList a0 := by
  have hd : a.defers = (puts (held ops a) 0 ops.toList a0).defers := by rw [puts_defers]; exact hI.defs
  have ht : a.tmps = (puts (held ops a) 0 ops.toList a0).tmps := by
    apply Array.ext_getElem?
    intro t
    by_cases hsz : t < a0.tmps.size
    · have conv : ∀ (j : Nat) (o : Oper), ops.toList[j]? = some o → ops[j]? = some o := fun j o h => by rw [← Array.getElem?_toList]; exact h
      have huniq : ∀ (x y : Nat) (ox oy : Oper), ops.toList[x]? = some ox → ops.toList[y]? = some oy → ox.dst = some t → oy.dst = some t → x = y := fun x y ox oy hx hy h1 h2 => by
        rcases Nat.decEq x y with hne | he
        · exact absurd h1 (((flowOk_at hok (conv x ox hx)).2.2.2 y oy t (conv y oy hy) h2).1 (fun e => hne e.symm))
        · exact he
      obtain ⟨h1, h2⟩ := puts_get (held ops a) ops.toList 0 a0 t hsz huniq
      by_cases hex : ∃ (j : Nat) (oj : Oper), ops.toList[j]? = some oj ∧ oj.dst = some t
      · obtain ⟨j, oj, hj, hd⟩ := hex
        rw [h2 j oj hj hd, Nat.zero_add]
        simp only [held, conv j oj hj, slot, hd]
        have hts : t < a.tmps.size := by rw [hI.tsz]; exact hsz
        simp [Array.getD, hts]
      · have hex' : ∀ (j : Nat) (o : Oper), ops.toList[j]? = some o → o.dst ≠ some t := fun j o hj hd => hex ⟨j, o, hj, hd⟩
        rw [h1 hex']
        exact hI.old t fun j oj hj _ => hex' j oj (by rw [Array.getElem?_toList]; exact hj)
    · rw [Array.getElem?_eq_none (by rw [hI.tsz]; omega), Array.getElem?_eq_none (by rw [puts_size]; omega)]
  have ext : ∀ x y : Act, x.tmps = y.tmps → x.defers = y.defers → x = y := by rintro ⟨_, _⟩ ⟨_, _⟩ rfl rfl; rfl
  exact ext _ _ ht hd

theorem flow_any (hok : flowOk ops a0.tmps.size = true) (hsel : Region.noSelect ops = true) (hmono : ∀ p ∈ φ, Mono p) (hobl : ∀ f, Obls P ops φ w0 f 0 ops.toList a0)
    (hfin : ∀ (g : Nat → Value) u, Ext w0 u → (∀ j, j < ops.size → fact φ j (g j) u) → Q .normal (puts g 0 ops.toList a0) u) :
    ∀ (n : Nat) (seen : Array Bool) (a : Act) (u : World), Inv ops φ a0 w0 seen a u → left ops seen = n → wpAny P .any ops Q n seen a u := by
  have done : ∀ (seen : Array Bool) (a : Act) (u : World), Inv ops φ a0 w0 seen a u → (∀ i, i < ops.size → seen.getD i false = true) → Q .normal a u := fun seen a u hI hall => by
    rw [act_is hok hI]
    refine hfin _ _ hI.ext fun j hj => ?_
    have hoj : ops[j]? = some ops[j] := Array.getElem?_eq_getElem hj
    simp only [held, hoj]
    exact hI.facts j _ hoj (hall j hj)
  intro n
  induction n with
  | zero =>
    intro seen a u hI hl
    have hall : ∀ i, i < ops.size → seen.getD i false = true := fun i hi => by
      have := List.countP_eq_zero.1 hl i (List.mem_range.2 hi)
      simpa using this
    refine ⟨?_, done seen a u hI hall⟩
    refine List.eq_nil_iff_forall_not_mem.2 fun i hi => ?_
    obtain ⟨hun, oi, hio, _⟩ := mem_ready.1 hi
    have hlt := (Array.getElem?_eq_some_iff.1 hio).1
    rw [getD_both seen (by rw [hI.size]; exact hlt), hall i hlt] at hun
    cases hun
  | succ n ih =>
    intro seen a u hI hl
    refine ⟨fun hr => done seen a u hI (all_seen hok hI hr), fun i hi => ?_⟩
    refine wpOp_mono (fun b u' hb => ih _ b u' hb ?_) (flow_step (m := ops.size) hok hsel hmono (fun f => by rw [List.take_of_length_le (by simp)]; exact hobl f) hI (Array.getElem?_eq_some_iff.1 (mem_ready.1 hi).2.choose_spec.1).1 hi)
    obtain ⟨hun, oi, hio, _⟩ := mem_ready.1 hi
    have hlt := (Array.getElem?_eq_some_iff.1 hio).1
    rw [getD_both seen (by rw [hI.size]; exact hlt)] at hun
    have := left_next hI.size hlt hun
    omega

/-- A region that draws its order, by facts. -/
theorem flow {id : Nat} {w : World} (hm : P.follows .mixedOrders = true) (φ : List (Value → World → Prop)) (hok : flowOk ops a0.tmps.size = true) (hsel : Region.noSelect ops = true) (hmono : ∀ p ∈ φ, Mono p)
    (hobl : ∀ f, Obls P ops φ w.drew f 0 ops.toList a0)
    (hfin : ∀ (g : Nat → Value) u, Ext w.drew u → (∀ j, j < ops.size → fact φ j (g j) u) → Q .normal (puts g 0 ops.toList a0) u) : (Code.region id ops true).wp P Q a0 w := by
  refine wp_region_any hm (flow_any hok hsel hmono hobl hfin _ _ _ _ ⟨Ext.refl _, by simp, rfl, rfl, fun _ _ => rfl, fun j oj hj hs => ?_, fun j oj hj hs => ?_⟩ ?_)
  · have hlt := (Array.getElem?_eq_some_iff.1 hj).1
    simp [Array.getD, hlt] at hs
  · have hlt := (Array.getElem?_eq_some_iff.1 hj).1
    simp [Array.getD, hlt] at hs
  · unfold left
    rw [List.countP_eq_length.2]
    · simp
    · intro i hi
      have hlt := List.mem_range.1 hi
      simp [Array.getD, hlt]

theorem inv_start {w : World} : Inv ops φ a0 w (Array.replicate ops.size false) a0 w := by
  refine ⟨Ext.refl _, by simp, rfl, rfl, fun _ _ => rfl, fun j oj hj hs => ?_, fun j oj hj hs => ?_⟩
  · have hlt := (Array.getElem?_eq_some_iff.1 hj).1
    simp [Array.getD, hlt] at hs
  · have hlt := (Array.getElem?_eq_some_iff.1 hj).1
    simp [Array.getD, hlt] at hs
theorem left_start : left ops (Array.replicate ops.size false) = ops.size := by
  unfold left
  rw [List.countP_eq_length.2]
  · simp
  · intro i hi
    have hlt := List.mem_range.1 hi
    simp [Array.getD, hlt]

/-- Just before the last operation: what stands in the slots. -/
theorem act_before {seen : Array Bool} {a : Act} {u : World} {m : Nat} (hok : flowOk ops a0.tmps.size = true) (hI : Inv ops φ a0 w0 seen a u) (hm : m + 1 = ops.size) (hn : seen.getD m false = false) : a = puts (held ops a) 0 (ops.toList.take m) a0 := by
  have hd : a.defers = (puts (held ops a) 0 (ops.toList.take m) a0).defers := by rw [puts_defers]; exact hI.defs
  have conv : ∀ (j : Nat) (o : Oper), (ops.toList.take m)[j]? = some o → j < m ∧ ops[j]? = some o := fun j o h => by
    rw [List.getElem?_take] at h
    split at h
    · rename_i hj; exact ⟨hj, by rw [← Array.getElem?_toList]; exact h⟩
    · cases h
  have ht : a.tmps = (puts (held ops a) 0 (ops.toList.take m) a0).tmps := by
    apply Array.ext_getElem?
    intro t
    by_cases hsz : t < a0.tmps.size
    · have huniq : ∀ (x y : Nat) (ox oy : Oper), (ops.toList.take m)[x]? = some ox → (ops.toList.take m)[y]? = some oy → ox.dst = some t → oy.dst = some t → x = y := fun x y ox oy hx hy h1 h2 => by
        rcases Nat.decEq x y with hne | he
        · exact absurd h1 (((flowOk_at hok (conv x ox hx).2).2.2.2 y oy t (conv y oy hy).2 h2).1 (fun e => hne e.symm))
        · exact he
      obtain ⟨h1, h2⟩ := puts_get (held ops a) (ops.toList.take m) 0 a0 t hsz huniq
      by_cases hex : ∃ (j : Nat) (oj : Oper), (ops.toList.take m)[j]? = some oj ∧ oj.dst = some t
      · obtain ⟨j, oj, hj, hd⟩ := hex
        rw [h2 j oj hj hd, Nat.zero_add]
        simp only [held, (conv j oj hj).2, slot, hd]
        have hts : t < a.tmps.size := by rw [hI.tsz]; exact hsz
        simp [Array.getD, hts]
      · have hex' : ∀ (j : Nat) (o : Oper), (ops.toList.take m)[j]? = some o → o.dst ≠ some t := fun j o hj hd => hex ⟨j, o, hj, hd⟩
        rw [h1 hex']
        refine hI.old t fun j oj hj hs => ?_
        have hjm : j ≠ m := fun e => by subst e; rw [hn] at hs; cases hs
        have hlt := (Array.getElem?_eq_some_iff.1 hj).1
        exact hex' j oj (by rw [List.getElem?_take, if_pos (by omega), Array.getElem?_toList]; exact hj)
    · rw [Array.getElem?_eq_none (by rw [hI.tsz]; omega), Array.getElem?_eq_none (by rw [puts_size]; omega)]
  have ext : ∀ x y : Act, x.tmps = y.tmps → x.defers = y.defers → x = y := by rintro ⟨_, _⟩ ⟨_, _⟩ rfl rfl; rfl
  exact ext _ _ ht hd

/-- A region whose last operation waits for all others: that one may do what it likes. -/
theorem flow_last_any {m : Nat} {ol : Oper} (hok : flowOk ops a0.tmps.size = true) (hsel : Region.noSelect ops = true) (hm : m + 1 = ops.size) (hol : ops[m]? = some ol) (hall : (List.range m).all (aft ol) = true) (hmono : ∀ p ∈ φ, Mono p)
    (hobl : ∀ f, Obls P ops φ w0 f 0 (ops.toList.take m) a0)
    (hfin : ∀ (g : Nat → Value) u, Ext w0 u → (∀ j, j < m → fact φ j (g j) u) → if Region.wanted ol (yielded ops (puts g 0 (ops.toList.take m) a0).tmps) = true then ol.wp P (puts g 0 (ops.toList.take m) a0) u (fun b u' => Q .normal b u') Q else Q .normal ((puts g 0 (ops.toList.take m) a0).put ol.dst undef) u) :
    ∀ (n : Nat) (seen : Array Bool) (a : Act) (u : World), Inv ops φ a0 w0 seen a u → seen.getD m false = false → left ops seen = n → wpAny P .any ops Q n seen a u := by
  intro n
  induction n with
  | zero =>
    intro seen a u hI hn hl
    have := List.countP_eq_zero.1 hl m (List.mem_range.2 (by omega))
    rw [hn] at this; simp at this
  | succ n ih =>
    intro seen a u hI hn hl
    refine ⟨fun hr => ?_, fun i hi => ?_⟩
    · have := all_seen hok hI hr m (by omega)
      rw [hn] at this; cases this
    · obtain ⟨hun, oi, hio, hed⟩ := mem_ready.1 hi
      have hlt := (Array.getElem?_eq_some_iff.1 hio).1
      rw [getD_both seen (by rw [hI.size]; exact hlt)] at hun
      have hleft := left_next hI.size hlt hun
      by_cases him : i = m
      · subst him
        rw [hol] at hio
        injection hio with hio
        subst hio
        have hseen : ∀ j, j < i → seen.getD j false = true := fun j hj => by
          have h1 := (List.all_eq_true.1 hall) j (List.mem_range.2 hj)
          unfold aft at h1
          obtain ⟨e, he, hb⟩ := Array.any_eq_true'.1 h1
          simp only [Bool.and_eq_true, beq_iff_eq] at hb
          rw [← hb.2]
          exact hed e he hb.1
        have hn0 : n = 0 := by
          have h0 : left ops (seen.setIfInBounds i true) = 0 := by
            unfold left
            rw [List.countP_eq_zero]
            intro j hj
            have hjl := List.mem_range.1 hj
            have : (seen.setIfInBounds i true).getD j false = true := by
              rw [set_getD]
              by_cases e : i = j
              · rw [if_pos ⟨e, by rw [hI.size]; exact hjl⟩]
              · rw [if_neg (fun h => e h.1)]; exact hseen j (by omega)
            simp [this]
          omega
        subst hn0
        have hre : Region.ready .any ops (seen.setIfInBounds i true) = [] := by
          refine List.eq_nil_iff_forall_not_mem.2 fun j hj => ?_
          obtain ⟨hj1, oj, hj2, _⟩ := mem_ready.1 hj
          have hjl := (Array.getElem?_eq_some_iff.1 hj2).1
          rw [getD_both _ (by simp [hI.size]; exact hjl), set_getD] at hj1
          by_cases e : i = j
          · rw [if_pos ⟨e, by rw [hI.size]; exact hjl⟩] at hj1; cases hj1
          · rw [if_neg (fun h => e h.1), hseen j (by omega)] at hj1; cases hj1
        have hA := act_before hok hI hm hn
        have hF := hfin (held ops a) u hI.ext fun j hj => by
          have hoj : ops[j]? = some ops[j] := Array.getElem?_eq_getElem (by omega)
          simp only [held, hoj]
          exact hI.facts j _ hoj (hseen j hj)
        rw [← hA] at hF
        unfold wpOp
        simp only [hol]
        split
        · rename_i hw
          rw [if_pos hw] at hF
          exact .inl (Oper.wp_mono (fun b u' h => ⟨hre, h⟩) hF)
        · rename_i hw
          rw [if_neg hw] at hF
          exact ⟨hre, hF⟩
      · refine wpOp_mono (fun b u' hb => ih _ b u' hb ?_ (by omega)) (flow_step hok hsel hmono hobl hI (by omega) hi)
        rw [set_getD, if_neg (fun h => him h.1)]; exact hn

theorem flow_last {id : Nat} {w : World} (hm0 : P.follows .mixedOrders = true) (φ : List (Value → World → Prop)) (m : Nat) (ol : Oper) (hok : flowOk ops a0.tmps.size = true) (hsel : Region.noSelect ops = true) (hm : m + 1 = ops.size) (hol : ops.toList[m]? = some ol) (hall : (List.range m).all (aft ol) = true) (hmono : ∀ p ∈ φ, Mono p)
    (hobl : ∀ f, Obls P ops φ w.drew f 0 (ops.toList.take m) a0)
    (hfin : ∀ (g : Nat → Value) u, Ext w.drew u → (∀ j, j < m → fact φ j (g j) u) → if Region.wanted ol (yielded ops (puts g 0 (ops.toList.take m) a0).tmps) = true then ol.wp P (puts g 0 (ops.toList.take m) a0) u (fun b u' => Q .normal b u') Q else Q .normal ((puts g 0 (ops.toList.take m) a0).put ol.dst undef) u) :
    (Code.region id ops true).wp P Q a0 w := by
  refine wp_region_any hm0 ?_
  have h := flow_last_any hok hsel hm (by rw [← Array.getElem?_toList]; exact hol) hall hmono hobl hfin ops.size _ a0 w.drew inv_start ?_ left_start
  · exact h
  · simp [Array.getD]
end
end Go.Proofs.Ytcofnbeemfhcpaa
