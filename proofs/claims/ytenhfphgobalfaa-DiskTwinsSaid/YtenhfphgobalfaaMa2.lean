/- Dused Flow Dfull Dgrow Dalg, joined. -/
import Derived.Test.YtenhfphgobalfaaMa1
import Derived.LoopN
import Derived.IntWalk
import Derived.Deep.AppendLies

/- How many bytes all files have: a sum over the map, in whatever order. -/
namespace Go.Proofs.Ytenhfphgobalfaa
open Go.RowKit Go.Maps

/-- The bytes of those files that are still to come. -/
def rest (F : List Fl) (left : Lit → Bool) : Nat := tot (F.filter fun f => left (.string f.name))
theorem tot_cons (f : Fl) (F : List Fl) : tot (f :: F) = f.data.length + tot F := by simp [tot]
theorem rest_step {F : List Fl} (h : (F.map Fl.name).Nodup) {f : Fl} (hf : f ∈ F) {left : Lit → Bool} (hl : left (.string f.name) = true) (hk : (Lit.string f.name).sameKey (.string f.name) = true) :
    rest F left = f.data.length + rest F (fun z => left z && !z.sameKey (.string f.name)) := by
  unfold rest
  have p := del_perm h hf
  have e1 : tot (F.filter fun f => left (.string f.name)) = tot ((f :: del F f.name).filter fun f => left (.string f.name)) := tot_perm (p.filter _)
  rw [e1, List.filter_cons_of_pos (by simpa using hl), tot_cons]
  congr 1
  have e2 : tot (F.filter fun g => (left (.string g.name) && !(Lit.string g.name).sameKey (.string f.name))) = tot ((f :: del F f.name).filter fun g => (left (.string g.name) && !(Lit.string g.name).sameKey (.string f.name))) := tot_perm (p.filter _)
  rw [e2, List.filter_cons_of_neg (by simp [hk])]
  congr 1
  refine List.filter_congr fun g hg => ?_
  have hne : Lit.string g.name ≠ .string f.name := lit_ne (mem_del.1 hg).2
  simp [sameKey_ne hne]
theorem rest_none {F : List Fl} {left : Lit → Bool} (h : ∀ kl, left kl = false) : rest F left = 0 := by
  unfold rest
  rw [List.filter_eq_nil_iff.2 (fun f _ => by simp [h])]
  rfl
theorem rest_all {F : List Fl} {D : DataW Value} {V : List UInt8 → Value} (h : Con D F V) : rest F (Maps.has D) = tot F := by
  unfold rest
  rw [List.filter_eq_self.2 (fun f hf => (h.has _).2 ⟨f, hf, rfl⟩)]
theorem tot_mem {F : List Fl} {f : Fl} (h : f ∈ F) : f.data.length ≤ tot F := by
  induction F with
  | nil => cases h
  | cons g F ih =>
    rw [tot_cons]
    rcases List.mem_cons.1 h with rfl | h
    · omega
    · have := ih h; omega

/-- An entry that comes is a file. -/
theorem entry_file {F : List Fl} {D : DataW Value} {V : List UInt8 → Value} (hC : Con D F V) {x : List UInt8} {kl : Lit} {v : Value} {y : DataW Value × List MemPlace} (hkey : keyOf Try.prog 9 (encStr x) = some kl) (hv : rdf v = some y) (hat : ∀ zd, D.atKey kl zd = y.1) :
    ∃ f ∈ F, x = f.name ∧ V f.name = v ∧ kl = .string f.name := by
  obtain ⟨x', ex, rfl, _⟩ := Maps.keyOf_str Try.underlying9 hkey
  obtain rfl : x = x' := encStr_inj ex
  obtain ⟨f, hf, rfl⟩ := (hC.has _).1 (has_true_of_atKey hat)
  obtain ⟨_, _, _, _, _, rfl⟩ := rdf_inv hv
  have := (hC.at_ f hf .nil).symm.trans (hat .nil)
  exact ⟨f, hf, rfl, DataW.held.inj this, rfl⟩

set_option maxRecDepth 100000 in
set_option maxHeartbeats 2000000 in
theorem used_seen {w : World} {d m room : Nat} {S : Nat → Prop} {F : List Fl} {V : List UInt8 → Value} {D : DataW Value} (h : Seen w d m S F V D room) (hV : ∀ f ∈ F, ∃ A c x, V f.name = fv A f.data.length c x) (hT : tot F ≤ 1048576) :
    Calls Try.prog 53 #[.pointer (some ⟨d, 0, none⟩)] w fun e w' => e = .returned (.int .i64 (tot F : Int)) ∧ Below w.heap.size w w' := by
  have hc := h.c1
  have hown := h.own
  have HS := Lib.hid h
  have HV := Lib.hid hV
  have HT := Lib.hid hT
  have hlt := hown.lt
  clear h hV hT
  go_enter Try.func53, Try.ntmps53
  go_wp2_with (first
    | (at_range; refine wpList_range_own _ rfl _ 77 rfl 9 92 lawS Try.underlying77 _ m F.length D rfl hown ?_; intro w0 hrg0 hg0 hs0)
    | go_in)
  go_frame
  clear hs0 hlt
  have HRG0 := Lib.hid hrg0
  have HG0 := Lib.hid hg0
  clear hrg0 hg0
  go_loopw [3, 5] (fun t _ wr => ∃ (left : Lit → Bool) (cnt k : Nat), wr.ranges Try.prog 9 rdf m w.heap.size F.length D left cnt ∧ t = .int .i64 (k : Int) ∧ Hid (k + rest F left = tot F) ∧ Below w.heap.size w wr)
    (fun _ _ wr => wr.rangeLeft m w.heap.size)
  case atStart =>
    exact ⟨_, _, 0, HRG0.out, rfl, by unfold Hid; rw [rest_all HS.out.con]; omega, (Below.refl _ _).grown HG0.out (Nat.le_refl _) (fun k e => by cases e)⟩
  case round =>
    obtain ⟨left, cnt, k, hrg, rfl, hk, hB⟩ := hrel
    have HB := Lib.hid hB
    clear hB
    go_wp2_with (first
      | (at_next; refine wpList_next_ranges _ rfl _ rfl 9 lawS rdf encStr (fun q : Option Addr × Nat × Nat × Int => fv q.1 q.2.1 q.2.2.1 q.2.2.2) (fun key kl hk => by obtain ⟨x, hx, _⟩ := Maps.keyOf_str Try.underlying9 hk; exact ⟨x, hx⟩) (fun v y hv => by obtain ⟨A, n, c, x, e, _⟩ := rdf_inv hv; exact ⟨(A, n, c, x), e⟩) m w.heap.size F.length _ _ _ rfl hrg ?_ ?_)
      | go_in)
    · intro hc0 hl0
      have e : k = tot F := by have := hk.out; rw [rest_none hl0] at this; omega
      subst e
      clear hl0 hc0
      go_wp2
      go_ret
      exact ⟨rfl, HB.out⟩
    · intro x A n cc z kl yd yp w2 cnt2 hkey hlk hv hat hrg2 hlt hg2 hs2 hen
      obtain ⟨f, hf, rfl, hcv, hkl⟩ := entry_file HS.out.con hkey hv hat
      subst hkl
      obtain ⟨A', cc', z', hv2⟩ := HV.out f hf
      rw [hcv] at hv2
      have hn : n = f.data.length := by
        have h2 : fv A n cc z = fv A' f.data.length cc' z' := hv2
        unfold fv at h2
        simp at h2
        exact h2.1.2.1
      subst hn
      have HK : Hid (k + f.data.length + rest F (fun z => left z && !z.sameKey (.string f.name)) = tot F) := by
        have := hk.out
        rw [rest_step HS.out.con.nodup hf hlk (WideAt.sameKey_self (lawS.key hkey))] at this
        unfold Hid; omega
      have hle : k + f.data.length ≤ 1048576 := by have := HK.out; have := HT.out; omega
      have HRG := Lib.hid hrg2
      have HOLD := Lib.hid hrg
      have HLT := Lib.hid hlt
      have HB2 := Lib.hid (HB.out.grown hg2 HB.out.size (fun k e => by cases e; exact Nat.le_refl _))
      have hz2 := HB2.out.size
      unfold fv at hen
      clear hcv hv2 hat hlk hv hkey hrg hg2 hs2 hlt hrg2 hk
      have hen1 := hen
      go_wp2
      go_roundw
      case rel => exact ⟨_, cnt2, k + f.data.length, HRG.out.alloc _, by go_num, HK, HB2.out.alloc hz2 _⟩
      case measure => rw [(HRG.out.alloc _).left_eq, HOLD.out.left_eq]; exact HLT.out
end Go.Proofs.Ytenhfphgobalfaa

/- A region that draws its order, by facts: each operation, whenever it comes up, gives a value of which a fact holds that stays true in later worlds; so behind all of them all facts hold, whatever the order was. -/
namespace Go.Proofs.Ytenhfphgobalfaa
open Go.RowKit

/-- A fact that later worlds keep. -/
def Mono (p : Value → World → Prop) : Prop := ∀ v u u', p v u → Ext u u' → p v u'
/-- The value is this one. -/
def Is (c : Value) : Value → World → Prop := fun v _ => v = c
theorem Mono.is (c : Value) : Mono (Is c) := fun _ _ _ h _ => h
/-- The j-th of the facts. -/
def fact (φ : List (Value → World → Prop)) (j : Nat) (v : Value) (u : World) : Prop := (φ.getD j fun _ _ => True) v u
theorem fact_mono {φ : List (Value → World → Prop)} (h : ∀ p ∈ φ, Mono p) (j : Nat) {v : Value} {u u' : World} (hf : fact φ j v u) (hu : Ext u u') : fact φ j v u' := by
  unfold fact at *
  by_cases hj : j < φ.length
  · have e : φ.getD j (fun _ _ => True) = φ[j] := by simp [List.getD, List.getElem?_eq_getElem hj]
    rw [e] at hf ⊢
    exact h _ (List.getElem_mem hj) _ _ _ hf hu
  · have e : φ.getD j (fun _ _ => True) = fun _ _ => True := by simp [List.getD, List.getElem?_eq_none (Nat.le_of_not_lt hj)]
    rw [e]; trivial

/-- Operation o must come behind the j-th. -/
def aft (o : Oper) (j : Nat) : Bool := o.after.any fun e => Region.binds .any e && e.on == j
/-- What a run gives. -/
def GivesR (P : Program) (r : Result Next) (R : Value → World → Prop) : Prop := match r with
  | .ok (.value v) u' => R v u'
  | .ok .skip u' => R undef u'
  | .ok (.enter f args) u' => Calls P f args u' fun e w => ∃ v, e = .returned v ∧ R v w
  | _ => False
/-- What is kept of an operation's value. -/
def kept (o : Oper) (v : Value) : Value := match o.dst with | some _ => v | none => undef
/-- Each operation gives its fact. -/
def Obls (P : Program) (ops : Array Oper) (φ : List (Value → World → Prop)) (w0 : World) (f : Nat → Value) : Nat → List Oper → Act → Prop
  | _, [], _ => True
  | k, o :: rest, a => (∀ u, Ext w0 u → (∀ j, aft o j = true → fact φ j (f j) u) →
      if Region.wanted o (yielded ops a.tmps) = true then GivesR P ((execOp a.eval o).run P u) (fun v u' => Ext u u' ∧ fact φ k (kept o v) u') else fact φ k undef u) ∧ Obls P ops φ w0 f (k + 1) rest (a.put o.dst (f k))
/-- The values laid into their slots. -/
def puts (g : Nat → Value) : Nat → List Oper → Act → Act
  | _, [], a => a
  | k, o :: rest, a => puts g (k + 1) rest (a.put o.dst (g k))

/-- What the theorem asks of a region, to be reckoned. -/
def flowOk (ops : Array Oper) (size : Nat) : Bool :=
  (List.range ops.size).all fun i => match ops[i]? with
    | none => false
    | some oi => oi.after.all (fun e => !Region.binds .any e || decide (e.on < i)) &&
      (match oi.guard with | some (g, _) => aft oi g | none => true) &&
      (match oi.dst with | some d => decide (d < size) | none => true) &&
      (List.range ops.size).all fun j => match ops[j]? with
        | none => false
        | some oj => match oj.dst with
          | none => true
          | some d => (j == i || oi.dst != some d) && (!(oi.looksAt ops).contains d || aft oi j || aft oj i)

theorem flowOk_at {ops : Array Oper} {size i : Nat} {oi : Oper} (h : flowOk ops size = true) (hi : ops[i]? = some oi) :
    (∀ e ∈ oi.after, Region.binds .any e = true → e.on < i) ∧ (∀ g b, oi.guard = some (g, b) → aft oi g = true) ∧ (∀ d, oi.dst = some d → d < size) ∧
    ∀ j oj d, ops[j]? = some oj → oj.dst = some d → (j ≠ i → oi.dst ≠ some d) ∧ (d ∈ oi.looksAt ops → aft oi j = true ∨ aft oj i = true) := by
  have hlt : i < ops.size := (Array.getElem?_eq_some_iff.1 hi).1
  unfold flowOk at h
  rw [List.all_eq_true] at h
  have h1 := h i (List.mem_range.2 hlt)
  simp only [hi, Bool.and_eq_true] at h1
  obtain ⟨⟨⟨ha, hb⟩, hc⟩, hd⟩ := h1
  refine ⟨fun e he hbind => ?_, fun g b hg => ?_, fun d hd' => ?_, fun j oj d hj hjd => ?_⟩
  · have := (Array.all_eq_true_iff_forall_mem.1 ha) e he
    simpa [hbind] using this
  · simpa [hg] using hb
  · simpa [hd'] using hc
  · rw [List.all_eq_true] at hd
    have h2 := hd j (List.mem_range.2 (Array.getElem?_eq_some_iff.1 hj).1)
    simp only [hj, hjd, Bool.and_eq_true, Bool.or_eq_true, beq_iff_eq, bne_iff_ne, ne_eq, Bool.not_eq_true'] at h2
    obtain ⟨x, y⟩ := h2
    refine ⟨fun hne => x.resolve_left hne, fun hm => ?_⟩
    rcases y with (y | y) | y
    · have : (oi.looksAt ops).contains d = true := by simpa using hm
      rw [y] at this; cases this
    · exact .inl y
    · exact .inr y

/-- The value in an operation's slot. -/
def slot (a : Act) (o : Oper) : Value := match o.dst with | some d => a.tmps.getD d undef | none => undef

theorem put_get (a : Act) (dst : Option Tmp) (v : Value) (s : Nat) : (a.put dst v).tmps[s]? = if dst = some s ∧ s < a.tmps.size then some v else a.tmps[s]? := by
  cases dst with
  | none => simp [Act.put]
  | some d =>
    simp only [Act.put, Array.getElem?_setIfInBounds]
    by_cases h : d = s
    · subst h
      by_cases h2 : d < a.tmps.size <;> simp [h2]
    · simp [h]
theorem put_size (a : Act) (dst : Option Tmp) (v : Value) : (a.put dst v).tmps.size = a.tmps.size := by cases dst <;> simp [Act.put]
theorem put_defers' (a : Act) (dst : Option Tmp) (v : Value) : (a.put dst v).defers = a.defers := by cases dst <;> rfl

/-- The slots behind some of the operations, by index. -/
theorem puts_get (g : Nat → Value) : ∀ (l : List Oper) (k : Nat) (a : Act) (s : Nat), s < a.tmps.size → (∀ (i j : Nat) (oi oj : Oper), l[i]? = some oi → l[j]? = some oj → oi.dst = some s → oj.dst = some s → i = j) →
    ((∀ (j : Nat) (o : Oper), l[j]? = some o → o.dst ≠ some s) → (puts g k l a).tmps[s]? = a.tmps[s]?) ∧ (∀ (j : Nat) (o : Oper), l[j]? = some o → o.dst = some s → (puts g k l a).tmps[s]? = some (g (k + j))) := by
  intro l
  induction l with
  | nil => intro k a s _ _; exact ⟨fun _ => rfl, fun j o h => by simp at h⟩
  | cons o l ih =>
    intro k a s hs hu
    have hu' : ∀ (i j : Nat) (oi oj : Oper), l[i]? = some oi → l[j]? = some oj → oi.dst = some s → oj.dst = some s → i = j := fun i j oi oj hi hj h1 h2 => by
      have := hu (i + 1) (j + 1) oi oj (by simpa using hi) (by simpa using hj) h1 h2; omega
    obtain ⟨h1, h2⟩ := ih (k + 1) (a.put o.dst (g k)) s (by rw [put_size]; exact hs) hu'
    refine ⟨fun hn => ?_, fun j oj hj hd => ?_⟩
    · show (puts g (k + 1) l (a.put o.dst (g k))).tmps[s]? = _
      rw [h1 (fun j oj hj => hn (j + 1) oj (by simpa using hj)), put_get, if_neg (fun h => hn 0 o (by simp) h.1)]
    · show (puts g (k + 1) l (a.put o.dst (g k))).tmps[s]? = _
      cases j with
      | zero =>
        simp at hj; subst hj
        have hno : ∀ (j : Nat) (oj : Oper), l[j]? = some oj → oj.dst ≠ some s := fun j oj hj h => by
          have := hu 0 (j + 1) o oj (by simp) (by simpa using hj) hd h; omega
        rw [h1 hno, put_get, if_pos ⟨hd, hs⟩]; rfl
      | succ j =>
        have := h2 j oj (by simpa using hj) hd
        rw [this, show k + 1 + j = k + (j + 1) by omega]
theorem puts_size (g : Nat → Value) : ∀ (l : List Oper) (k : Nat) (a : Act), (puts g k l a).tmps.size = a.tmps.size := by
  intro l
  induction l with
  | nil => intro k a; rfl
  | cons o l ih => intro k a; exact (ih _ _).trans (put_size _ _ _)
theorem puts_defers (g : Nat → Value) : ∀ (l : List Oper) (k : Nat) (a : Act), (puts g k l a).defers = a.defers := by
  intro l
  induction l with
  | nil => intro k a; rfl
  | cons o l ih => intro k a; exact (ih _ _).trans (put_defers' _ _ _)

theorem Obls.at {P : Program} {ops : Array Oper} {φ : List (Value → World → Prop)} {w0 : World} {f : Nat → Value} : ∀ (l : List Oper) (k : Nat) (a : Act), Obls P ops φ w0 f k l a → ∀ (i : Nat) (o : Oper), l[i]? = some o →
    ∀ u, Ext w0 u → (∀ j, aft o j = true → fact φ j (f j) u) →
      if Region.wanted o (yielded ops (puts f k (l.take i) a).tmps) = true then GivesR P ((execOp (puts f k (l.take i) a).eval o).run P u) (fun v u' => Ext u u' ∧ fact φ (k + i) (kept o v) u') else fact φ (k + i) undef u := by
  intro l
  induction l with
  | nil => intro k a _ i o h; simp at h
  | cons o l ih =>
    intro k a h i oi hi
    cases i with
    | zero => simp at hi; subst hi; exact h.1
    | succ i =>
      have := ih (k + 1) _ h.2 i oi (by simpa using hi)
      simp only [List.take_succ_cons, puts]
      rw [show k + (i + 1) = k + 1 + i by omega]
      exact this

structure Inv (ops : Array Oper) (φ : List (Value → World → Prop)) (a0 : Act) (w0 : World) (seen : Array Bool) (a : Act) (u : World) : Prop where
  ext : Ext w0 u
  size : seen.size = ops.size
  defs : a.defers = a0.defers
  tsz : a.tmps.size = a0.tmps.size
  old : ∀ s, (∀ (j : Nat) (oj : Oper), ops[j]? = some oj → seen.getD j false = true → oj.dst ≠ some s) → a.tmps[s]? = a0.tmps[s]?
  facts : ∀ (j : Nat) (oj : Oper), ops[j]? = some oj → seen.getD j false = true → fact φ j (slot a oj) u
  closed : ∀ (j : Nat) (oj : Oper), ops[j]? = some oj → seen.getD j false = true → ∀ k, aft oj k = true → seen.getD k false = true

theorem aft_lt {ops : Array Oper} {size i k : Nat} {oi : Oper} (h : flowOk ops size = true) (hi : ops[i]? = some oi) (hk : aft oi k = true) : k < i := by
  unfold aft at hk
  obtain ⟨e, he, hb⟩ := Array.any_eq_true'.1 hk
  simp only [Bool.and_eq_true, beq_iff_eq] at hb
  rw [← hb.2]
  exact (flowOk_at h hi).1 e he hb.1

section
variable {P : Program} {ops : Array Oper} {Q : Exit → Act → World → Prop} {φ : List (Value → World → Prop)} {a0 : Act} {w0 : World}

/-- What stands in the slots of operation i's fact. -/
def held (ops : Array Oper) (a : Act) (j : Nat) : Value := match ops[j]? with | some oj => slot a oj | none => undef

theorem look_same {seen : Array Bool} {a : Act} {u : World} (hok : flowOk ops a0.tmps.size = true) (hI : Inv ops φ a0 w0 seen a u) {i : Nat} {oi : Oper} (hi : ops[i]? = some oi) (hn : seen.getD i false = false)
    {t : Nat} (ht : t ∈ oi.looksAt ops) : a.tmps[t]? = (puts (held ops a) 0 (ops.toList.take i) a0).tmps[t]? := by
  by_cases hsz : t < a0.tmps.size
  · have hlen : i < ops.toList.length := by simpa using (Array.getElem?_eq_some_iff.1 hi).1
    have conv : ∀ (j : Nat) (o : Oper), (ops.toList.take i)[j]? = some o → j < i ∧ ops[j]? = some o := fun j o h => by
      rw [List.getElem?_take] at h
      split at h
      · rename_i hj; exact ⟨hj, by rw [← Array.getElem?_toList]; exact h⟩
      · cases h
    have huniq : ∀ (x y : Nat) (ox oy : Oper), (ops.toList.take i)[x]? = some ox → (ops.toList.take i)[y]? = some oy → ox.dst = some t → oy.dst = some t → x = y := fun x y ox oy hx hy h1 h2 => by
      rcases Nat.decEq x y with hne | he
      · exact absurd h1 (((flowOk_at hok (conv x ox hx).2).2.2.2 y oy t (conv y oy hy).2 h2).1 (fun e => hne e.symm))
      · exact he
    obtain ⟨h1, h2⟩ := puts_get (held ops a) (ops.toList.take i) 0 a0 t hsz huniq
    by_cases hex : ∃ (j : Nat) (oj : Oper), (ops.toList.take i)[j]? = some oj ∧ oj.dst = some t
    · obtain ⟨j, oj, hj, hd⟩ := hex
      rw [h2 j oj hj hd, Nat.zero_add]
      have hj' := (conv j oj hj).2
      have hlt := (conv j oj hj).1
      simp only [held, hj', slot, hd]
      have hts : t < a.tmps.size := by rw [hI.tsz]; exact hsz
      simp [Array.getD, hts]
    · have hex' : ∀ (j : Nat) (o : Oper), (ops.toList.take i)[j]? = some o → o.dst ≠ some t := fun j o hj hd => hex ⟨j, o, hj, hd⟩
      rw [h1 hex']
      refine hI.old t fun j oj hj hsj hd => ?_
      rcases ((flowOk_at hok hi).2.2.2 j oj t hj hd).2 ht with h | h
      · have hlt := aft_lt hok hi h
        refine hex' j oj ?_ hd
        rw [List.getElem?_take, if_pos hlt, Array.getElem?_toList]; exact hj
      · have := hI.closed j oj hj hsj i h
        rw [hn] at this; cases this
  · have e1 : a.tmps[t]? = none := Array.getElem?_eq_none (by rw [hI.tsz]; omega)
    have e2 : (puts (held ops a) 0 (ops.toList.take i) a0).tmps[t]? = none := Array.getElem?_eq_none (by rw [puts_size]; omega)
    rw [e1, e2]

theorem set_getD (seen : Array Bool) (i j : Nat) : (seen.setIfInBounds i true).getD j false = if i = j ∧ j < seen.size then true else seen.getD j false := by
  by_cases h : i = j
  · subst h
    by_cases h2 : i < seen.size <;> simp [Array.getD, h2]
  · rw [if_neg (fun e => h e.1), Array.getD_eq_getD_getElem?, Array.getD_eq_getD_getElem?, Array.getElem?_setIfInBounds_ne h]

theorem Inv.next {seen : Array Bool} {a : Act} {u u' : World} (hok : flowOk ops a0.tmps.size = true) (hmono : ∀ p ∈ φ, Mono p) (hI : Inv ops φ a0 w0 seen a u) {i : Nat} {oi : Oper} (hi : ops[i]? = some oi)
    (hs : ∀ k, aft oi k = true → seen.getD k false = true) {v : Value} (hu : Ext u u') (hf : fact φ i (kept oi v) u') : Inv ops φ a0 w0 (seen.setIfInBounds i true) (a.put oi.dst v) u' := by
  refine ⟨hI.ext.trans hu, by simp [hI.size], by rw [put_defers']; exact hI.defs, by rw [put_size]; exact hI.tsz, fun s h => ?_, fun j oj hj hsj => ?_, fun j oj hj hsj k hk => ?_⟩
  · have hlt : i < seen.size := by rw [hI.size]; exact (Array.getElem?_eq_some_iff.1 hi).1
    have hne : oi.dst ≠ some s := h i oi hi (by rw [set_getD, if_pos ⟨rfl, hlt⟩])
    rw [put_get, if_neg (fun h => hne h.1)]
    refine hI.old s fun j oj hj hsj => h j oj hj ?_
    rw [set_getD]
    split
    · rfl
    · exact hsj
  · rw [set_getD] at hsj
    by_cases hij : i = j
    · subst hij
      rw [hi] at hj
      injection hj with hj
      subst hj
      have e : slot (a.put oi.dst v) oi = kept oi v := by
        unfold slot kept
        cases hd : oi.dst with
        | none => rfl
        | some d =>
          have hds := (flowOk_at hok hi).2.2.1 d hd
          have hd2 : d < a.tmps.size := by rw [hI.tsz]; exact hds
          simp [Act.put, Array.getD, hd2]
      rw [e]; exact hf
    · rw [if_neg (fun h => hij h.1)] at hsj
      have e : slot (a.put oi.dst v) oj = slot a oj := by
        unfold slot
        cases hd : oj.dst with
        | none => rfl
        | some d =>
          have hne := ((flowOk_at hok hi).2.2.2 j oj d hj hd).1 (fun e => hij e.symm)
          have := put_get a oi.dst v d
          rw [if_neg (fun h => hne h.1)] at this
          show (a.put oi.dst v).tmps.getD d undef = a.tmps.getD d undef
          rw [Array.getD_eq_getD_getElem?, this, ← Array.getD_eq_getD_getElem?]
      rw [e]
      exact fact_mono hmono j (hI.facts j oj hj hsj) hu
  · rw [set_getD] at hsj ⊢
    split
    · rfl
    · rename_i hk2
      by_cases hij : i = j
      · subst hij
        rw [hi] at hj
        injection hj with hj
        subst hj
        exact hs k hk
      · rw [if_neg (fun h => hij h.1)] at hsj
        exact hI.closed j oj hj hsj k hk

theorem getD_both (seen : Array Bool) {i : Nat} (h : i < seen.size) : seen.getD i true = seen.getD i false := by simp [Array.getD, h]

theorem gives_wp {o : Oper} {a : Act} {u : World} {R : Value → World → Prop} {K : Act → World → Prop} (h : GivesR P ((execOp a.eval o).run P u) R) (hK : ∀ v u', R v u' → K (a.put o.dst v) u') : o.wp P a u K Q := by
  unfold Oper.wp
  generalize (execOp a.eval o).run P u = r at h
  cases r with
  | ok n w' =>
    cases n <;> simp only [GivesR, Oper.upon] at h ⊢ <;> first | exact hK _ _ h | exact h.elim | exact Calls.mono h (fun e w'' he => by obtain ⟨v, rfl, hv⟩ := he; exact hK _ _ hv)
  | halt x w' => exact h.elim

theorem flow_step {seen : Array Bool} {a : Act} {u : World} {m : Nat} (hok : flowOk ops a0.tmps.size = true) (hsel : Region.noSelect ops = true) (hmono : ∀ p ∈ φ, Mono p) (hobl : ∀ f, Obls P ops φ w0 f 0 (ops.toList.take m) a0)
    (hI : Inv ops φ a0 w0 seen a u) {i : Nat} (him : i < m) (hr : i ∈ Region.ready .any ops seen) : wpOp P ops Q i (fun b u' => Inv ops φ a0 w0 (seen.setIfInBounds i true) b u') a u := by
  obtain ⟨hun, oi, hi, hall⟩ := mem_ready.1 hr
  have hlt : i < ops.size := (Array.getElem?_eq_some_iff.1 hi).1
  have hn : seen.getD i false = false := by rw [← getD_both seen (by rw [hI.size]; exact hlt)]; simpa using hun
  have hs : ∀ k, aft oi k = true → seen.getD k false = true := fun k hk => by
    unfold aft at hk
    obtain ⟨e, he, hb⟩ := Array.any_eq_true'.1 hk
    simp only [Bool.and_eq_true, beq_iff_eq] at hb
    rw [← hb.2]
    exact hall e he hb.1
  have hlook := fun {t : Nat} (ht : t ∈ oi.looksAt ops) => look_same hok hI hi hn ht
  have hfacts : ∀ j, aft oi j = true → fact φ j (held ops a j) u := fun j hj => by
    have hjl := aft_lt hok hi hj
    have hoj : ops[j]? = some ops[j] := Array.getElem?_eq_getElem (by omega)
    have := hI.facts j _ hoj (hs j hj)
    simp only [held, hoj]
    exact this
  have hO := Obls.at (ops.toList.take m) 0 a0 (hobl (held ops a)) i oi (by rw [List.getElem?_take, if_pos him, Array.getElem?_toList]; exact hi) u hI.ext hfacts
  rw [Nat.zero_add, List.take_take, Nat.min_eq_left (Nat.le_of_lt him)] at hO
  have hex : execOp (puts (held ops a) 0 (ops.toList.take i) a0).eval oi = execOp a.eval oi := by
    refine execOp_congr oi (fun cs b => Region.noSelect_spec hsel i oi cs b hi) fun x hx => ?_
    cases x with
    | tmp t =>
      have ht : t ∈ oi.looksAt ops := by
        unfold Oper.looksAt
        refine List.mem_append_left _ (List.mem_filterMap.2 ⟨.tmp t, by simpa using hx, rfl⟩)
      show Array.getD _ t undef = Array.getD _ t undef
      rw [Array.getD_eq_getD_getElem?, Array.getD_eq_getD_getElem?, hlook ht]
    | _ => rfl
  have hwt : Region.wanted oi (yielded ops (puts (held ops a) 0 (ops.toList.take i) a0).tmps) = Region.wanted oi (yielded ops a.tmps) := by
    unfold Region.wanted
    cases hg : oi.guard with
    | none => rfl
    | some gb =>
      obtain ⟨g, b⟩ := gb
      have e : yielded ops (puts (held ops a) 0 (ops.toList.take i) a0).tmps g = yielded ops a.tmps g := by
        unfold yielded
        cases hd : (ops[g]?).bind (·.dst) with
        | none => rfl
        | some d =>
          have ht : d ∈ oi.looksAt ops := by
            unfold Oper.looksAt
            rw [hg]
            refine List.mem_append_right _ ?_
            simp only [hd]
            simp
          show (match (puts (held ops a) 0 (ops.toList.take i) a0).tmps[d]? with | some (Value.bool b) => some b | _ => none) = _
          rw [← hlook ht]
          rfl
      simp only [e]
  rw [hex, hwt] at hO
  unfold wpOp
  simp only [hi]
  split
  · rename_i hw
    rw [if_pos hw] at hO
    exact .inl (gives_wp hO fun v u' h => hI.next hok hmono hi hs h.1 h.2)
  · rename_i hw
    rw [if_neg hw] at hO
    refine hI.next hok hmono hi hs (Ext.refl u) ?_
    have : kept oi undef = undef := by unfold kept; cases oi.dst <;> rfl
    rw [this]; exact hO

/-- How many have not come up. -/
def left (ops : Array Oper) (seen : Array Bool) : Nat := (List.range ops.size).countP fun i => !seen.getD i false
theorem left_next {seen : Array Bool} (hs : seen.size = ops.size) {i : Nat} (hi : i < ops.size) (hn : seen.getD i false = false) : left ops (seen.setIfInBounds i true) + 1 = left ops seen := by
  unfold left
  have key : ∀ n, i < n → n ≤ ops.size → (List.range n).countP (fun j => !(seen.setIfInBounds i true).getD j false) + 1 = (List.range n).countP fun j => !seen.getD j false := by
    intro n
    induction n with
    | zero => intro h; omega
    | succ n ih =>
      intro h1 h2
      rw [List.range_succ, List.countP_append, List.countP_append]
      by_cases h : i = n
      · subst h
        have e : (List.range i).countP (fun j => !(seen.setIfInBounds i true).getD j false) = (List.range i).countP fun j => !seen.getD j false := by
          apply List.countP_congr
          intro j hj
          rw [set_getD, if_neg (by simp at hj; omega)]
        rw [e]
        have e2 : (seen.setIfInBounds i true).getD i false = true := by rw [set_getD, if_pos ⟨rfl, by omega⟩]
        simp only [List.countP_cons, List.countP_nil, e2, hn]
        simp
      · have := ih (by omega) (by omega)
        have e : (!(seen.setIfInBounds i true).getD n false) = !seen.getD n false := by rw [set_getD, if_neg (by omega)]
        simp only [List.countP_cons, List.countP_nil, e]
        omega
  exact key ops.size hi (Nat.le_refl _)

theorem all_seen {seen : Array Bool} {a : Act} {u : World} (hok : flowOk ops a0.tmps.size = true) (hI : Inv ops φ a0 w0 seen a u) (hr : Region.ready .any ops seen = []) : ∀ i, i < ops.size → seen.getD i false = true := by
  intro i
  induction i using Nat.strongRecOn with
  | ind i ih =>
    intro hlt
    rcases h : seen.getD i false with _ | _
    · have hi : ops[i]? = some ops[i] := Array.getElem?_eq_getElem hlt
      have : i ∈ Region.ready .any ops seen := mem_ready.2 ⟨by rw [getD_both seen (by rw [hI.size]; exact hlt)]; exact h, ops[i], hi, fun e he hb => by
        have := (flowOk_at hok hi).1 e he hb
        exact ih e.on this (by omega)⟩
      rw [hr] at this; cases this
    · rfl

theorem act_is {seen : Array Bool} {a : Act} {u : World} (hok : flowOk ops a0.tmps.size = true) (hI : Inv ops φ a0 w0 seen a u) : a = puts (held ops a) 0 ops.toList a0 := by
  have hd : a.defers = (puts (held ops a) 0 ops.toList a0).defers := by rw [puts_defers]; exact hI.defs
  have ht : a.tmps = (puts (held ops a) 0 ops.toList a0).tmps := by
    apply Array.ext_getElem?
    intro t
    by_cases hsz : t < a0.tmps.size
    · have conv : ∀ (j : Nat) (o : Oper), ops.toList[j]? = some o → ops[j]? = some o := fun j o h => by rw [← Array.getElem?_toList]; exact h
      have huniq : ∀ (x y : Nat) (ox oy : Oper), ops.toList[x]? = some ox → ops.toList[y]? = some oy → ox.dst = some t → oy.dst = some t → x = y := fun x y ox oy hx hy h1 h2 => by
        rcases Nat.decEq x y with hne | he
        · exact absurd h1 (((flowOk_at hok (conv x ox hx)).2.2.2 y oy t (conv y oy hy) h2).1 (fun e => hne e.symm))
        · exact he
      obtain ⟨h1, h2⟩ := puts_get (held ops a) ops.toList 0 a0 t hsz huniq
      by_cases hex : ∃ (j : Nat) (oj : Oper), ops.toList[j]? = some oj ∧ oj.dst = some t
      · obtain ⟨j, oj, hj, hd⟩ := hex
        rw [h2 j oj hj hd, Nat.zero_add]
        simp only [held, conv j oj hj, slot, hd]
        have hts : t < a.tmps.size := by rw [hI.tsz]; exact hsz
        simp [Array.getD, hts]
      · have hex' : ∀ (j : Nat) (o : Oper), ops.toList[j]? = some o → o.dst ≠ some t := fun j o hj hd => hex ⟨j, o, hj, hd⟩
        rw [h1 hex']
        exact hI.old t fun j oj hj _ => hex' j oj (by rw [Array.getElem?_toList]; exact hj)
    · rw [Array.getElem?_eq_none (by rw [hI.tsz]; omega), Array.getElem?_eq_none (by rw [puts_size]; omega)]
  have ext : ∀ x y : Act, x.tmps = y.tmps → x.defers = y.defers → x = y := by rintro ⟨_, _⟩ ⟨_, _⟩ rfl rfl; rfl
  exact ext _ _ ht hd

theorem flow_any (hok : flowOk ops a0.tmps.size = true) (hsel : Region.noSelect ops = true) (hmono : ∀ p ∈ φ, Mono p) (hobl : ∀ f, Obls P ops φ w0 f 0 ops.toList a0)
    (hfin : ∀ (g : Nat → Value) u, Ext w0 u → (∀ j, j < ops.size → fact φ j (g j) u) → Q .normal (puts g 0 ops.toList a0) u) :
    ∀ (n : Nat) (seen : Array Bool) (a : Act) (u : World), Inv ops φ a0 w0 seen a u → left ops seen = n → wpAny P .any ops Q n seen a u := by
  have done : ∀ (seen : Array Bool) (a : Act) (u : World), Inv ops φ a0 w0 seen a u → (∀ i, i < ops.size → seen.getD i false = true) → Q .normal a u := fun seen a u hI hall => by
    rw [act_is hok hI]
    refine hfin _ _ hI.ext fun j hj => ?_
    have hoj : ops[j]? = some ops[j] := Array.getElem?_eq_getElem hj
    simp only [held, hoj]
    exact hI.facts j _ hoj (hall j hj)
  intro n
  induction n with
  | zero =>
    intro seen a u hI hl
    have hall : ∀ i, i < ops.size → seen.getD i false = true := fun i hi => by
      have := List.countP_eq_zero.1 hl i (List.mem_range.2 hi)
      simpa using this
    refine ⟨?_, done seen a u hI hall⟩
    refine List.eq_nil_iff_forall_not_mem.2 fun i hi => ?_
    obtain ⟨hun, oi, hio, _⟩ := mem_ready.1 hi
    have hlt := (Array.getElem?_eq_some_iff.1 hio).1
    rw [getD_both seen (by rw [hI.size]; exact hlt), hall i hlt] at hun
    cases hun
  | succ n ih =>
    intro seen a u hI hl
    refine ⟨fun hr => done seen a u hI (all_seen hok hI hr), fun i hi => ?_⟩
    refine wpOp_mono (fun b u' hb => ih _ b u' hb ?_) (flow_step (m := ops.size) hok hsel hmono (fun f => by rw [List.take_of_length_le (by simp)]; exact hobl f) hI (Array.getElem?_eq_some_iff.1 (mem_ready.1 hi).2.choose_spec.1).1 hi)
    obtain ⟨hun, oi, hio, _⟩ := mem_ready.1 hi
    have hlt := (Array.getElem?_eq_some_iff.1 hio).1
    rw [getD_both seen (by rw [hI.size]; exact hlt)] at hun
    have := left_next hI.size hlt hun
    omega

/-- A region that draws its order, by facts. -/
theorem flow {id : Nat} {w : World} (hm : P.follows .mixedOrders = true) (φ : List (Value → World → Prop)) (hok : flowOk ops a0.tmps.size = true) (hsel : Region.noSelect ops = true) (hmono : ∀ p ∈ φ, Mono p)
    (hobl : ∀ f, Obls P ops φ w.drew f 0 ops.toList a0)
    (hfin : ∀ (g : Nat → Value) u, Ext w.drew u → (∀ j, j < ops.size → fact φ j (g j) u) → Q .normal (puts g 0 ops.toList a0) u) : (Code.region id ops true).wp P Q a0 w := by
  refine wp_region_any hm (flow_any hok hsel hmono hobl hfin _ _ _ _ ⟨Ext.refl _, by simp, rfl, rfl, fun _ _ => rfl, fun j oj hj hs => ?_, fun j oj hj hs => ?_⟩ ?_)
  · have hlt := (Array.getElem?_eq_some_iff.1 hj).1
    simp [Array.getD, hlt] at hs
  · have hlt := (Array.getElem?_eq_some_iff.1 hj).1
    simp [Array.getD, hlt] at hs
  · unfold left
    rw [List.countP_eq_length.2]
    · simp
    · intro i hi
      have hlt := List.mem_range.1 hi
      simp [Array.getD, hlt]

theorem inv_start {w : World} : Inv ops φ a0 w (Array.replicate ops.size false) a0 w := by
  refine ⟨Ext.refl _, by simp, rfl, rfl, fun _ _ => rfl, fun j oj hj hs => ?_, fun j oj hj hs => ?_⟩
  · have hlt := (Array.getElem?_eq_some_iff.1 hj).1
    simp [Array.getD, hlt] at hs
  · have hlt := (Array.getElem?_eq_some_iff.1 hj).1
    simp [Array.getD, hlt] at hs
theorem left_start : left ops (Array.replicate ops.size false) = ops.size := by
  unfold left
  rw [List.countP_eq_length.2]
  · simp
  · intro i hi
    have hlt := List.mem_range.1 hi
    simp [Array.getD, hlt]

/-- Just before the last operation: what stands in the slots. -/
theorem act_before {seen : Array Bool} {a : Act} {u : World} {m : Nat} (hok : flowOk ops a0.tmps.size = true) (hI : Inv ops φ a0 w0 seen a u) (hm : m + 1 = ops.size) (hn : seen.getD m false = false) : a = puts (held ops a) 0 (ops.toList.take m) a0 := by
  have hd : a.defers = (puts (held ops a) 0 (ops.toList.take m) a0).defers := by rw [puts_defers]; exact hI.defs
  have conv : ∀ (j : Nat) (o : Oper), (ops.toList.take m)[j]? = some o → j < m ∧ ops[j]? = some o := fun j o h => by
    rw [List.getElem?_take] at h
    split at h
    · rename_i hj; exact ⟨hj, by rw [← Array.getElem?_toList]; exact h⟩
    · cases h
  have ht : a.tmps = (puts (held ops a) 0 (ops.toList.take m) a0).tmps := by
    apply Array.ext_getElem?
    intro t
    by_cases hsz : t < a0.tmps.size
    · have huniq : ∀ (x y : Nat) (ox oy : Oper), (ops.toList.take m)[x]? = some ox → (ops.toList.take m)[y]? = some oy → ox.dst = some t → oy.dst = some t → x = y := fun x y ox oy hx hy h1 h2 => by
        rcases Nat.decEq x y with hne | he
        · exact absurd h1 (((flowOk_at hok (conv x ox hx).2).2.2.2 y oy t (conv y oy hy).2 h2).1 (fun e => hne e.symm))
        · exact he
      obtain ⟨h1, h2⟩ := puts_get (held ops a) (ops.toList.take m) 0 a0 t hsz huniq
      by_cases hex : ∃ (j : Nat) (oj : Oper), (ops.toList.take m)[j]? = some oj ∧ oj.dst = some t
      · obtain ⟨j, oj, hj, hd⟩ := hex
        rw [h2 j oj hj hd, Nat.zero_add]
        simp only [held, (conv j oj hj).2, slot, hd]
        have hts : t < a.tmps.size := by rw [hI.tsz]; exact hsz
        simp [Array.getD, hts]
      · have hex' : ∀ (j : Nat) (o : Oper), (ops.toList.take m)[j]? = some o → o.dst ≠ some t := fun j o hj hd => hex ⟨j, o, hj, hd⟩
        rw [h1 hex']
        refine hI.old t fun j oj hj hs => ?_
        have hjm : j ≠ m := fun e => by subst e; rw [hn] at hs; cases hs
        have hlt := (Array.getElem?_eq_some_iff.1 hj).1
        exact hex' j oj (by rw [List.getElem?_take, if_pos (by omega), Array.getElem?_toList]; exact hj)
    · rw [Array.getElem?_eq_none (by rw [hI.tsz]; omega), Array.getElem?_eq_none (by rw [puts_size]; omega)]
  have ext : ∀ x y : Act, x.tmps = y.tmps → x.defers = y.defers → x = y := by rintro ⟨_, _⟩ ⟨_, _⟩ rfl rfl; rfl
  exact ext _ _ ht hd

/-- A region whose last operation waits for all others: that one may do what it likes. -/
theorem flow_last_any {m : Nat} {ol : Oper} (hok : flowOk ops a0.tmps.size = true) (hsel : Region.noSelect ops = true) (hm : m + 1 = ops.size) (hol : ops[m]? = some ol) (hall : (List.range m).all (aft ol) = true) (hmono : ∀ p ∈ φ, Mono p)
    (hobl : ∀ f, Obls P ops φ w0 f 0 (ops.toList.take m) a0)
    (hfin : ∀ (g : Nat → Value) u, Ext w0 u → (∀ j, j < m → fact φ j (g j) u) → if Region.wanted ol (yielded ops (puts g 0 (ops.toList.take m) a0).tmps) = true then ol.wp P (puts g 0 (ops.toList.take m) a0) u (fun b u' => Q .normal b u') Q else Q .normal ((puts g 0 (ops.toList.take m) a0).put ol.dst undef) u) :
    ∀ (n : Nat) (seen : Array Bool) (a : Act) (u : World), Inv ops φ a0 w0 seen a u → seen.getD m false = false → left ops seen = n → wpAny P .any ops Q n seen a u := by
  intro n
  induction n with
  | zero =>
    intro seen a u hI hn hl
    have := List.countP_eq_zero.1 hl m (List.mem_range.2 (by omega))
    rw [hn] at this; simp at this
  | succ n ih =>
    intro seen a u hI hn hl
    refine ⟨fun hr => ?_, fun i hi => ?_⟩
    · have := all_seen hok hI hr m (by omega)
      rw [hn] at this; cases this
    · obtain ⟨hun, oi, hio, hed⟩ := mem_ready.1 hi
      have hlt := (Array.getElem?_eq_some_iff.1 hio).1
      rw [getD_both seen (by rw [hI.size]; exact hlt)] at hun
      have hleft := left_next hI.size hlt hun
      by_cases him : i = m
      · subst him
        rw [hol] at hio
        injection hio with hio
        subst hio
        have hseen : ∀ j, j < i → seen.getD j false = true := fun j hj => by
          have h1 := (List.all_eq_true.1 hall) j (List.mem_range.2 hj)
          unfold aft at h1
          obtain ⟨e, he, hb⟩ := Array.any_eq_true'.1 h1
          simp only [Bool.and_eq_true, beq_iff_eq] at hb
          rw [← hb.2]
          exact hed e he hb.1
        have hn0 : n = 0 := by
          have h0 : left ops (seen.setIfInBounds i true) = 0 := by
            unfold left
            rw [List.countP_eq_zero]
            intro j hj
            have hjl := List.mem_range.1 hj
            have : (seen.setIfInBounds i true).getD j false = true := by
              rw [set_getD]
              by_cases e : i = j
              · rw [if_pos ⟨e, by rw [hI.size]; exact hjl⟩]
              · rw [if_neg (fun h => e h.1)]; exact hseen j (by omega)
            simp [this]
          omega
        subst hn0
        have hre : Region.ready .any ops (seen.setIfInBounds i true) = [] := by
          refine List.eq_nil_iff_forall_not_mem.2 fun j hj => ?_
          obtain ⟨hj1, oj, hj2, _⟩ := mem_ready.1 hj
          have hjl := (Array.getElem?_eq_some_iff.1 hj2).1
          rw [getD_both _ (by simp [hI.size]; exact hjl), set_getD] at hj1
          by_cases e : i = j
          · rw [if_pos ⟨e, by rw [hI.size]; exact hjl⟩] at hj1; cases hj1
          · rw [if_neg (fun h => e h.1), hseen j (by omega)] at hj1; cases hj1
        have hA := act_before hok hI hm hn
        have hF := hfin (held ops a) u hI.ext fun j hj => by
          have hoj : ops[j]? = some ops[j] := Array.getElem?_eq_getElem (by omega)
          simp only [held, hoj]
          exact hI.facts j _ hoj (hseen j hj)
        rw [← hA] at hF
        unfold wpOp
        simp only [hol]
        split
        · rename_i hw
          rw [if_pos hw] at hF
          exact .inl (Oper.wp_mono (fun b u' h => ⟨hre, h⟩) hF)
        · rename_i hw
          rw [if_neg hw] at hF
          exact ⟨hre, hF⟩
      · refine wpOp_mono (fun b u' hb => ih _ b u' hb ?_ (by omega)) (flow_step hok hsel hmono hobl hI (by omega) hi)
        rw [set_getD, if_neg (fun h => him h.1)]; exact hn

theorem flow_last {id : Nat} {w : World} (hm0 : P.follows .mixedOrders = true) (φ : List (Value → World → Prop)) (m : Nat) (ol : Oper) (hok : flowOk ops a0.tmps.size = true) (hsel : Region.noSelect ops = true) (hm : m + 1 = ops.size) (hol : ops.toList[m]? = some ol) (hall : (List.range m).all (aft ol) = true) (hmono : ∀ p ∈ φ, Mono p)
    (hobl : ∀ f, Obls P ops φ w.drew f 0 (ops.toList.take m) a0)
    (hfin : ∀ (g : Nat → Value) u, Ext w.drew u → (∀ j, j < m → fact φ j (g j) u) → if Region.wanted ol (yielded ops (puts g 0 (ops.toList.take m) a0).tmps) = true then ol.wp P (puts g 0 (ops.toList.take m) a0) u (fun b u' => Q .normal b u') Q else Q .normal ((puts g 0 (ops.toList.take m) a0).put ol.dst undef) u) :
    (Code.region id ops true).wp P Q a0 w := by
  refine wp_region_any hm0 ?_
  have h := flow_last_any hok hsel hm (by rw [← Array.getElem?_toList]; exact hol) hall hmono hobl hfin ops.size _ a0 w.drew inv_start ?_ left_start
  · exact h
  · simp [Array.getD]
end
end Go.Proofs.Ytenhfphgobalfaa

/- Whether a disk is full: Append's closure. -/
namespace Go.Proofs.Ytenhfphgobalfaa
open Go.RowKit Go.Maps

theorem ext_cell {w u : World} {p : Addr} {v : Value} (hu : Ext w u) (h : w.cell? p = some v) : u.cell? p = some v := (hu.cell (World.block_lt_of_cell? w _ h)).trans h
theorem _root_.Go.RowKit.Below.of_drew {B : Nat} {w w' : World} (h : Below B w.drew w') : Below B w w' := ⟨h.os, h.tape, h.output, h.size, h.block⟩
/-- ErrFull, or nothing. -/
def fiveIf : Bool → Int | true => 5 | false => 0
def fullN (F : List Fl) (room L : Nat) (n : List UInt8) : Int := fiveIf (decide (room < tot F + L) || (!there F n && F.length == 128))

set_option maxRecDepth 100000 in
set_option maxHeartbeats 4000000 in
theorem full_is {w : World} {d m room bd bn bb L : Nat} {S : Nat → Prop} {F : List Fl} {V : List UInt8 → Value} {D : DataW Value} {s : ByteArray} {A0 : Option Addr} {c0 : Nat} (h : Seen w d m S F V D room) (hs : s.size ≤ maxLen)
    (hV : ∀ f ∈ F, ∃ A c x, V f.name = fv A f.data.length c x) (hT : tot F ≤ 1048576) (hR : room ≤ 1048576) (hL : L ≤ maxLen)
    (hd : w.cell? ⟨bd, 0, none⟩ = some (.pointer (some ⟨d, 0, none⟩))) (hn : w.cell? ⟨bn, 0, none⟩ = some (.string s)) (hb : w.cell? ⟨bb, 0, none⟩ = some (.slice A0 L c0)) :
    Calls Try.prog 52 #[.pointer (some ⟨bd, 0, none⟩), .pointer (some ⟨bn, 0, none⟩), .pointer (some ⟨bb, 0, none⟩)] w fun e w' => e = .returned (.int .i64 (fullN F room L s.data.toList)) ∧ Below w.heap.size w w' := by
  obtain ⟨A, n, c, x, hl, _, _, _⟩ := h.look hs (fun f hf => by obtain ⟨A, c, x, e⟩ := hV f hf; exact ⟨A, _, c, x, e⟩)
  unfold fv at hl
  obtain ⟨bv0, hbv0⟩ : ∃ v, v = Value.slice A0 L c0 := ⟨_, rfl⟩
  have HS := Lib.hid h
  have HV := Lib.hid hV
  have HT := Lib.hid hT
  have HR := Lib.hid hR
  have HL := Lib.hid hL
  have hc := h.c1
  have HD := Lib.hid hd
  have HN := Lib.hid hn
  have HBL := Lib.hid hb
  obtain ⟨th, hth⟩ : ∃ th, th = there F s.data.toList := ⟨_, rfl⟩
  rw [← hth] at hl
  have HTH := Lib.hid hth
  clear hth
  have hl1 := fun (o : Obj) => hl (w.alloc o).drew ((ext_alloc w o).trans (Ext.drew _))
  have hl2 := hl w.drew (Ext.drew w)
  have hd1 := fun (o : Obj) => cell_new hd o
  have hn1 := fun (o : Obj) => cell_new hn o
  have hc1 := fun (o : Obj) => cell_new hc o
  clear hl h hV hT hR hL hb hbv0 bv0
  go_enter Try.func52, Try.ntmps52
  go_wp2
  go_region
  go_wp2
  clear hl1 hl2 hd1 hn1 hc1 hc hd hn
  obtain ⟨w1, hw1⟩ : ∃ w1, w1 = (w.alloc (.cells #[.slice A n c, .int .i64 x] 92)).drew := ⟨_, rfl⟩
  rw [← hw1]
  have hx1 : Ext w w1 := by rw [hw1]; exact (ext_alloc w _).trans (Ext.drew _)
  have HB1 : Hid (Below w.heap.size w w1) := hx1
  have HSE := Lib.hid ((HS.out.ext hx1).ext (Ext.drew w1))
  have HBD := Lib.hid (ext_cell (Ext.drew w1) (ext_cell hx1 HD.out))
  have HBB := Lib.hid (ext_cell (Ext.drew w1) (ext_cell hx1 HBL.out))
  have HC0 := Lib.hid HSE.out.c0
  have HC1 := Lib.hid HSE.out.c1
  clear hx1 hw1
  by_cases hbig : room < tot F + L
  · have HZ : Hid ((room : Int) - (tot F : Int) < (L : Int)) := by unfold Hid; omega
    have HRES : Hid (fullN F room L s.data.toList = 5) := by unfold Hid fullN; rw [decide_eq_true hbig]; rfl
    clear hbig
    refine flow (by kernel_rfl) [Is (.slice A0 L c0), Is (.int .i64 (L : Int)), Is (.pointer (some ⟨d, 0, none⟩)), Is (.pointer (some ⟨d, 0, none⟩)), Is (.pointer (some ⟨d, 0, none⟩)), Is (.int .i64 (room : Int)), Is (.pointer (some ⟨d, 0, none⟩)), Is (.int .i64 (tot F : Int)), Is (.int .i64 ((room : Int) - (tot F : Int))), Is (.bool true), Is (.bool true), Is undef, Is undef, Is undef, Is undef, Is undef, Is undef, Is undef, Is undef, Is undef, Is undef, Is (.bool true)] (by kernel_rfl) (by kernel_rfl) ?mono (fun f => ?obl) ?fin
    case mono =>
      simp only [List.forall_mem_cons, List.not_mem_nil, false_imp_iff, implies_true, and_true]
      exact ⟨.is _, .is _, .is _, .is _, .is _, .is _, .is _, .is _, .is _, .is _, .is _, .is _, .is _, .is _, .is _, .is _, .is _, .is _, .is _, .is _, .is _, .is _⟩
    case fin =>
      intro g u hu hg
      simp only [puts, Act.put, List.setIfInBounds_toArray, List.set_cons_zero, List.set_cons_succ]
      have e36 : g 21 = .bool true := hg 21 (by decide)
      have HX := Lib.hid hu
      clear hg hu
      rw [e36]
      go_wp2_with fail
      go_ret
      exact ⟨by rw [HRES.out]; rfl, HB1.out.trans (HX.out.mono HB1.out.size).of_drew⟩
    case obl =>
      refine ⟨fun u hu hd => ?_, ?_⟩
      · have c1 := ext_cell hu HBB.out
        go_simp
        exact ⟨Ext.refl _, rfl⟩
      refine ⟨fun u hu hd => ?_, ?_⟩
      · simp only [Act.put, List.setIfInBounds_toArray, List.set_cons_zero, List.set_cons_succ]
        have e0 : f 0 = .slice A0 L c0 := hd 0 (by kernel_rfl)
        go_simp
        exact ⟨Ext.refl _, rfl⟩
      refine ⟨fun u hu hd => ?_, ?_⟩
      · simp only [Act.put, List.setIfInBounds_toArray, List.set_cons_zero, List.set_cons_succ]
        have c1 := ext_cell hu HBD.out
        go_simp
        exact ⟨Ext.refl _, rfl⟩
      refine ⟨fun u hu hd => ?_, ?_⟩
      · simp only [Act.put, List.setIfInBounds_toArray, List.set_cons_zero, List.set_cons_succ]
        have e2 : f 2 = (.pointer (some ⟨d, 0, none⟩)) := hd 2 (by kernel_rfl)
        go_simp
        exact ⟨Ext.refl _, rfl⟩
      refine ⟨fun u hu hd => ?_, ?_⟩
      · simp only [Act.put, List.setIfInBounds_toArray, List.set_cons_zero, List.set_cons_succ]
        have e3 : f 3 = (.pointer (some ⟨d, 0, none⟩)) := hd 3 (by kernel_rfl)
        go_simp
        exact ⟨Ext.refl _, rfl⟩
      refine ⟨fun u hu hd => ?_, ?_⟩
      · simp only [Act.put, List.setIfInBounds_toArray, List.set_cons_zero, List.set_cons_succ]
        have e4 : f 4 = (.pointer (some ⟨d, 0, none⟩)) := hd 4 (by kernel_rfl)
        have c1 := ext_cell hu HC0.out
        go_simp
        exact ⟨Ext.refl _, rfl⟩
      refine ⟨fun u hu hd => ?_, ?_⟩
      · simp only [Act.put, List.setIfInBounds_toArray, List.set_cons_zero, List.set_cons_succ]
        have c1 := ext_cell hu HBD.out
        go_simp
        exact ⟨Ext.refl _, rfl⟩
      refine ⟨fun u hu hd => ?_, ?_⟩
      · simp only [Act.put, List.setIfInBounds_toArray, List.set_cons_zero, List.set_cons_succ]
        have e6 : f 6 = (.pointer (some ⟨d, 0, none⟩)) := hd 6 (by kernel_rfl)
        have hc := used_seen (HSE.out.ext hu) HV.out HT.out
        go_simp
        refine hc.mono ?_
        rintro e w9 ⟨rfl, hb9⟩
        exact ⟨_, rfl, hb9, rfl⟩
      refine ⟨fun u hu hd => ?_, ?_⟩
      · simp only [Act.put, List.setIfInBounds_toArray, List.set_cons_zero, List.set_cons_succ]
        have e5 : f 5 = (.int .i64 (room : Int)) := hd 5 (by kernel_rfl)
        have e7 : f 7 = (.int .i64 (tot F : Int)) := hd 7 (by kernel_rfl)
        have l1 := HT.out
        have l2 := HR.out
        have hw : IntKind.i64.wrap ((room : Int) - (tot F : Int)) = (room : Int) - (tot F : Int) := IntWalk.i64_in _ (by omega)
        go_simp
        exact ⟨Ext.refl _, rfl⟩
      refine ⟨fun u hu hd => ?_, ?_⟩
      · simp only [Act.put, List.setIfInBounds_toArray, List.set_cons_zero, List.set_cons_succ]
        have e1 : f 1 = (.int .i64 (L : Int)) := hd 1 (by kernel_rfl)
        have e8 : f 8 = (.int .i64 ((room : Int) - (tot F : Int))) := hd 8 (by kernel_rfl)
        have l1 := HZ.out
        go_simp
        exact ⟨Ext.refl _, rfl⟩
      refine ⟨fun u hu hd => ?_, ?_⟩
      · simp only [Act.put, List.setIfInBounds_toArray, List.set_cons_zero, List.set_cons_succ]
        have e9 : f 9 = (.bool true) := hd 9 (by kernel_rfl)
        go_simp
        exact ⟨Ext.refl _, rfl⟩
      refine ⟨fun u hu hd => ?_, ?_⟩
      · simp only [Act.put, List.setIfInBounds_toArray, List.set_cons_zero, List.set_cons_succ]
        have e10 : f 10 = (.bool true) := hd 10 (by kernel_rfl)
        go_simp
        rfl
      refine ⟨fun u hu hd => ?_, ?_⟩
      · simp only [Act.put, List.setIfInBounds_toArray, List.set_cons_zero, List.set_cons_succ]
        have e10 : f 10 = (.bool true) := hd 10 (by kernel_rfl)
        go_simp
        rfl
      refine ⟨fun u hu hd => ?_, ?_⟩
      · simp only [Act.put, List.setIfInBounds_toArray, List.set_cons_zero, List.set_cons_succ]
        have e10 : f 10 = (.bool true) := hd 10 (by kernel_rfl)
        go_simp
        rfl
      refine ⟨fun u hu hd => ?_, ?_⟩
      · simp only [Act.put, List.setIfInBounds_toArray, List.set_cons_zero, List.set_cons_succ]
        have e13 : f 13 = undef := hd 13 (by kernel_rfl)
        go_simp
        rfl
      refine ⟨fun u hu hd => ?_, ?_⟩
      · simp only [Act.put, List.setIfInBounds_toArray, List.set_cons_zero, List.set_cons_succ]
        have e13 : f 13 = undef := hd 13 (by kernel_rfl)
        go_simp
        rfl
      refine ⟨fun u hu hd => ?_, ?_⟩
      · simp only [Act.put, List.setIfInBounds_toArray, List.set_cons_zero, List.set_cons_succ]
        have e13 : f 13 = undef := hd 13 (by kernel_rfl)
        go_simp
        rfl
      refine ⟨fun u hu hd => ?_, ?_⟩
      · simp only [Act.put, List.setIfInBounds_toArray, List.set_cons_zero, List.set_cons_succ]
        have e13 : f 13 = undef := hd 13 (by kernel_rfl)
        go_simp
        rfl
      refine ⟨fun u hu hd => ?_, ?_⟩
      · simp only [Act.put, List.setIfInBounds_toArray, List.set_cons_zero, List.set_cons_succ]
        have e13 : f 13 = undef := hd 13 (by kernel_rfl)
        go_simp
        rfl
      refine ⟨fun u hu hd => ?_, ?_⟩
      · simp only [Act.put, List.setIfInBounds_toArray, List.set_cons_zero, List.set_cons_succ]
        have e13 : f 13 = undef := hd 13 (by kernel_rfl)
        go_simp
        rfl
      refine ⟨fun u hu hd => ?_, ?_⟩
      · simp only [Act.put, List.setIfInBounds_toArray, List.set_cons_zero, List.set_cons_succ]
        have e10 : f 10 = (.bool true) := hd 10 (by kernel_rfl)
        go_simp
        rfl
      refine ⟨fun u hu hd => ?_, ?_⟩
      · simp only [Act.put, List.setIfInBounds_toArray, List.set_cons_zero, List.set_cons_succ]
        have e10 : f 10 = (.bool true) := hd 10 (by kernel_rfl)
        go_simp
        exact ⟨Ext.refl _, rfl⟩
      trivial
  · have HZ : Hid (¬ (room : Int) - (tot F : Int) < (L : Int)) := by unfold Hid; omega
    cases th
    · obtain ⟨q, hq⟩ : ∃ q, q = ((F.length : Int) == 128) := ⟨_, rfl⟩
      have HQ := Lib.hid hq.symm
      have HRES : Hid (fullN F room L s.data.toList = fiveIf q) := by
        unfold Hid fullN; rw [← HTH.out, decide_eq_false hbig]
        have e : ((F.length : Int) == 128) = (F.length == 128) := by rw [Bool.eq_iff_iff]; simp; omega
        rw [hq, e]; rfl
      clear hbig hq
      refine flow (by kernel_rfl) [Is (.slice A0 L c0), Is (.int .i64 (L : Int)), Is (.pointer (some ⟨d, 0, none⟩)), Is (.pointer (some ⟨d, 0, none⟩)), Is (.pointer (some ⟨d, 0, none⟩)), Is (.int .i64 (room : Int)), Is (.pointer (some ⟨d, 0, none⟩)), Is (.int .i64 (tot F : Int)), Is (.int .i64 ((room : Int) - (tot F : Int))), Is (.bool false), Is (.bool false), Is (.bool false), Is (.bool true), Is (.bool true), Is (.pointer (some ⟨d, 0, none⟩)), Is (.pointer (some ⟨d, 0, none⟩)), Is (.pointer (some ⟨d, 1, none⟩)), Is (.map (some m)), Is (.int .i64 (F.length : Int)), Is (.bool q), Is (.bool q), Is (.bool q)] (by kernel_rfl) (by kernel_rfl) ?mono (fun f => ?obl) ?fin
      case mono =>
        simp only [List.forall_mem_cons, List.not_mem_nil, false_imp_iff, implies_true, and_true]
        exact ⟨.is _, .is _, .is _, .is _, .is _, .is _, .is _, .is _, .is _, .is _, .is _, .is _, .is _, .is _, .is _, .is _, .is _, .is _, .is _, .is _, .is _, .is _⟩
      case fin =>
        intro g u hu hg
        simp only [puts, Act.put, List.setIfInBounds_toArray, List.set_cons_zero, List.set_cons_succ]
        have e36 : g 21 = .bool q := hg 21 (by decide)
        have HX := Lib.hid hu
        clear hg hu
        rw [e36]
        cases q
        · go_wp2_with fail
          go_ret
          exact ⟨by rw [HRES.out]; rfl, HB1.out.trans (HX.out.mono HB1.out.size).of_drew⟩
        · go_wp2_with fail
          go_ret
          exact ⟨by rw [HRES.out]; rfl, HB1.out.trans (HX.out.mono HB1.out.size).of_drew⟩
      case obl =>
        refine ⟨fun u hu hd => ?_, ?_⟩
        · have c1 := ext_cell hu HBB.out
          go_simp
          exact ⟨Ext.refl _, rfl⟩
        refine ⟨fun u hu hd => ?_, ?_⟩
        · simp only [Act.put, List.setIfInBounds_toArray, List.set_cons_zero, List.set_cons_succ]
          have e0 : f 0 = .slice A0 L c0 := hd 0 (by kernel_rfl)
          go_simp
          exact ⟨Ext.refl _, rfl⟩
        refine ⟨fun u hu hd => ?_, ?_⟩
        · simp only [Act.put, List.setIfInBounds_toArray, List.set_cons_zero, List.set_cons_succ]
          have c1 := ext_cell hu HBD.out
          go_simp
          exact ⟨Ext.refl _, rfl⟩
        refine ⟨fun u hu hd => ?_, ?_⟩
        · simp only [Act.put, List.setIfInBounds_toArray, List.set_cons_zero, List.set_cons_succ]
          have e2 : f 2 = (.pointer (some ⟨d, 0, none⟩)) := hd 2 (by kernel_rfl)
          go_simp
          exact ⟨Ext.refl _, rfl⟩
        refine ⟨fun u hu hd => ?_, ?_⟩
        · simp only [Act.put, List.setIfInBounds_toArray, List.set_cons_zero, List.set_cons_succ]
          have e3 : f 3 = (.pointer (some ⟨d, 0, none⟩)) := hd 3 (by kernel_rfl)
          go_simp
          exact ⟨Ext.refl _, rfl⟩
        refine ⟨fun u hu hd => ?_, ?_⟩
        · simp only [Act.put, List.setIfInBounds_toArray, List.set_cons_zero, List.set_cons_succ]
          have e4 : f 4 = (.pointer (some ⟨d, 0, none⟩)) := hd 4 (by kernel_rfl)
          have c1 := ext_cell hu HC0.out
          go_simp
          exact ⟨Ext.refl _, rfl⟩
        refine ⟨fun u hu hd => ?_, ?_⟩
        · simp only [Act.put, List.setIfInBounds_toArray, List.set_cons_zero, List.set_cons_succ]
          have c1 := ext_cell hu HBD.out
          go_simp
          exact ⟨Ext.refl _, rfl⟩
        refine ⟨fun u hu hd => ?_, ?_⟩
        · simp only [Act.put, List.setIfInBounds_toArray, List.set_cons_zero, List.set_cons_succ]
          have e6 : f 6 = (.pointer (some ⟨d, 0, none⟩)) := hd 6 (by kernel_rfl)
          have hc := used_seen (HSE.out.ext hu) HV.out HT.out
          go_simp
          refine hc.mono ?_
          rintro e w9 ⟨rfl, hb9⟩
          exact ⟨_, rfl, hb9, rfl⟩
        refine ⟨fun u hu hd => ?_, ?_⟩
        · simp only [Act.put, List.setIfInBounds_toArray, List.set_cons_zero, List.set_cons_succ]
          have e5 : f 5 = (.int .i64 (room : Int)) := hd 5 (by kernel_rfl)
          have e7 : f 7 = (.int .i64 (tot F : Int)) := hd 7 (by kernel_rfl)
          have l1 := HT.out
          have l2 := HR.out
          have hw : IntKind.i64.wrap ((room : Int) - (tot F : Int)) = (room : Int) - (tot F : Int) := IntWalk.i64_in _ (by omega)
          go_simp
          exact ⟨Ext.refl _, rfl⟩
        refine ⟨fun u hu hd => ?_, ?_⟩
        · simp only [Act.put, List.setIfInBounds_toArray, List.set_cons_zero, List.set_cons_succ]
          have e1 : f 1 = (.int .i64 (L : Int)) := hd 1 (by kernel_rfl)
          have e8 : f 8 = (.int .i64 ((room : Int) - (tot F : Int))) := hd 8 (by kernel_rfl)
          have l1 := HZ.out
          go_simp
          exact ⟨Ext.refl _, rfl⟩
        refine ⟨fun u hu hd => ?_, ?_⟩
        · simp only [Act.put, List.setIfInBounds_toArray, List.set_cons_zero, List.set_cons_succ]
          have e9 : f 9 = (.bool false) := hd 9 (by kernel_rfl)
          go_simp
          exact ⟨Ext.refl _, rfl⟩
        refine ⟨fun u hu hd => ?_, ?_⟩
        · simp only [Act.put, List.setIfInBounds_toArray, List.set_cons_zero, List.set_cons_succ]
          have e10 : f 10 = (.bool false) := hd 10 (by kernel_rfl)
          go_simp
          exact ⟨Ext.refl _, rfl⟩
        refine ⟨fun u hu hd => ?_, ?_⟩
        · simp only [Act.put, List.setIfInBounds_toArray, List.set_cons_zero, List.set_cons_succ]
          have e10 : f 10 = (.bool false) := hd 10 (by kernel_rfl)
          have e11 : f 11 = (.bool false) := hd 11 (by kernel_rfl)
          go_simp
          exact ⟨Ext.refl _, rfl⟩
        refine ⟨fun u hu hd => ?_, ?_⟩
        · simp only [Act.put, List.setIfInBounds_toArray, List.set_cons_zero, List.set_cons_succ]
          have e10 : f 10 = (.bool false) := hd 10 (by kernel_rfl)
          have e12 : f 12 = (.bool true) := hd 12 (by kernel_rfl)
          go_simp
          exact ⟨Ext.refl _, rfl⟩
        refine ⟨fun u hu hd => ?_, ?_⟩
        · simp only [Act.put, List.setIfInBounds_toArray, List.set_cons_zero, List.set_cons_succ]
          have e13 : f 13 = (.bool true) := hd 13 (by kernel_rfl)
          have c1 := ext_cell hu HBD.out
          go_simp
          exact ⟨Ext.refl _, rfl⟩
        refine ⟨fun u hu hd => ?_, ?_⟩
        · simp only [Act.put, List.setIfInBounds_toArray, List.set_cons_zero, List.set_cons_succ]
          have e13 : f 13 = (.bool true) := hd 13 (by kernel_rfl)
          have e14 : f 14 = (.pointer (some ⟨d, 0, none⟩)) := hd 14 (by kernel_rfl)
          go_simp
          exact ⟨Ext.refl _, rfl⟩
        refine ⟨fun u hu hd => ?_, ?_⟩
        · simp only [Act.put, List.setIfInBounds_toArray, List.set_cons_zero, List.set_cons_succ]
          have e13 : f 13 = (.bool true) := hd 13 (by kernel_rfl)
          have e15 : f 15 = (.pointer (some ⟨d, 0, none⟩)) := hd 15 (by kernel_rfl)
          go_simp
          exact ⟨Ext.refl _, rfl⟩
        refine ⟨fun u hu hd => ?_, ?_⟩
        · simp only [Act.put, List.setIfInBounds_toArray, List.set_cons_zero, List.set_cons_succ]
          have e13 : f 13 = (.bool true) := hd 13 (by kernel_rfl)
          have e16 : f 16 = (.pointer (some ⟨d, 1, none⟩)) := hd 16 (by kernel_rfl)
          have c1 := ext_cell hu HC1.out
          go_simp
          exact ⟨Ext.refl _, rfl⟩
        refine ⟨fun u hu hd => ?_, ?_⟩
        · simp only [Act.put, List.setIfInBounds_toArray, List.set_cons_zero, List.set_cons_succ]
          have e13 : f 13 = (.bool true) := hd 13 (by kernel_rfl)
          have e17 : f 17 = (.map (some m)) := hd 17 (by kernel_rfl)
          have hlen := (HSE.out.ext hu).own.len (t := 77) Try.underlying77
          rw [HSE.out.con.size] at hlen
          go_simp
          exact ⟨Ext.refl _, rfl⟩
        refine ⟨fun u hu hd => ?_, ?_⟩
        · simp only [Act.put, List.setIfInBounds_toArray, List.set_cons_zero, List.set_cons_succ]
          have e13 : f 13 = (.bool true) := hd 13 (by kernel_rfl)
          have e18 : f 18 = (.int .i64 (F.length : Int)) := hd 18 (by kernel_rfl)
          have hq := HQ.out
          go_simp
          exact ⟨Ext.refl _, rfl⟩
        refine ⟨fun u hu hd => ?_, ?_⟩
        · simp only [Act.put, List.setIfInBounds_toArray, List.set_cons_zero, List.set_cons_succ]
          have e10 : f 10 = (.bool false) := hd 10 (by kernel_rfl)
          have e13 : f 13 = (.bool true) := hd 13 (by kernel_rfl)
          have e19 : f 19 = (.bool q) := hd 19 (by kernel_rfl)
          go_simp
          exact ⟨Ext.refl _, rfl⟩
        refine ⟨fun u hu hd => ?_, ?_⟩
        · simp only [Act.put, List.setIfInBounds_toArray, List.set_cons_zero, List.set_cons_succ]
          have e10 : f 10 = (.bool false) := hd 10 (by kernel_rfl)
          have e20 : f 20 = (.bool q) := hd 20 (by kernel_rfl)
          go_simp
          exact ⟨Ext.refl _, rfl⟩
        trivial
    · have HRES : Hid (fullN F room L s.data.toList = 0) := by unfold Hid fullN; rw [← HTH.out, decide_eq_false hbig]; rfl
      clear hbig
      refine flow (by kernel_rfl) [Is (.slice A0 L c0), Is (.int .i64 (L : Int)), Is (.pointer (some ⟨d, 0, none⟩)), Is (.pointer (some ⟨d, 0, none⟩)), Is (.pointer (some ⟨d, 0, none⟩)), Is (.int .i64 (room : Int)), Is (.pointer (some ⟨d, 0, none⟩)), Is (.int .i64 (tot F : Int)), Is (.int .i64 ((room : Int) - (tot F : Int))), Is (.bool false), Is (.bool false), Is (.bool true), Is (.bool false), Is (.bool false), Is undef, Is undef, Is undef, Is undef, Is undef, Is undef, Is (.bool false), Is (.bool false)] (by kernel_rfl) (by kernel_rfl) ?mono (fun f => ?obl) ?fin
      case mono =>
        simp only [List.forall_mem_cons, List.not_mem_nil, false_imp_iff, implies_true, and_true]
        exact ⟨.is _, .is _, .is _, .is _, .is _, .is _, .is _, .is _, .is _, .is _, .is _, .is _, .is _, .is _, .is _, .is _, .is _, .is _, .is _, .is _, .is _, .is _⟩
      case fin =>
        intro g u hu hg
        simp only [puts, Act.put, List.setIfInBounds_toArray, List.set_cons_zero, List.set_cons_succ]
        have e36 : g 21 = .bool false := hg 21 (by decide)
        have HX := Lib.hid hu
        clear hg hu
        rw [e36]
        go_wp2_with fail
        go_ret
        exact ⟨by rw [HRES.out]; rfl, HB1.out.trans (HX.out.mono HB1.out.size).of_drew⟩
      case obl =>
        refine ⟨fun u hu hd => ?_, ?_⟩
        · have c1 := ext_cell hu HBB.out
          go_simp
          exact ⟨Ext.refl _, rfl⟩
        refine ⟨fun u hu hd => ?_, ?_⟩
        · simp only [Act.put, List.setIfInBounds_toArray, List.set_cons_zero, List.set_cons_succ]
          have e0 : f 0 = .slice A0 L c0 := hd 0 (by kernel_rfl)
          go_simp
          exact ⟨Ext.refl _, rfl⟩
        refine ⟨fun u hu hd => ?_, ?_⟩
        · simp only [Act.put, List.setIfInBounds_toArray, List.set_cons_zero, List.set_cons_succ]
          have c1 := ext_cell hu HBD.out
          go_simp
          exact ⟨Ext.refl _, rfl⟩
        refine ⟨fun u hu hd => ?_, ?_⟩
        · simp only [Act.put, List.setIfInBounds_toArray, List.set_cons_zero, List.set_cons_succ]
          have e2 : f 2 = (.pointer (some ⟨d, 0, none⟩)) := hd 2 (by kernel_rfl)
          go_simp
          exact ⟨Ext.refl _, rfl⟩
        refine ⟨fun u hu hd => ?_, ?_⟩
        · simp only [Act.put, List.setIfInBounds_toArray, List.set_cons_zero, List.set_cons_succ]
          have e3 : f 3 = (.pointer (some ⟨d, 0, none⟩)) := hd 3 (by kernel_rfl)
          go_simp
          exact ⟨Ext.refl _, rfl⟩
        refine ⟨fun u hu hd => ?_, ?_⟩
        · simp only [Act.put, List.setIfInBounds_toArray, List.set_cons_zero, List.set_cons_succ]
          have e4 : f 4 = (.pointer (some ⟨d, 0, none⟩)) := hd 4 (by kernel_rfl)
          have c1 := ext_cell hu HC0.out
          go_simp
          exact ⟨Ext.refl _, rfl⟩
        refine ⟨fun u hu hd => ?_, ?_⟩
        · simp only [Act.put, List.setIfInBounds_toArray, List.set_cons_zero, List.set_cons_succ]
          have c1 := ext_cell hu HBD.out
          go_simp
          exact ⟨Ext.refl _, rfl⟩
        refine ⟨fun u hu hd => ?_, ?_⟩
        · simp only [Act.put, List.setIfInBounds_toArray, List.set_cons_zero, List.set_cons_succ]
          have e6 : f 6 = (.pointer (some ⟨d, 0, none⟩)) := hd 6 (by kernel_rfl)
          have hc := used_seen (HSE.out.ext hu) HV.out HT.out
          go_simp
          refine hc.mono ?_
          rintro e w9 ⟨rfl, hb9⟩
          exact ⟨_, rfl, hb9, rfl⟩
        refine ⟨fun u hu hd => ?_, ?_⟩
        · simp only [Act.put, List.setIfInBounds_toArray, List.set_cons_zero, List.set_cons_succ]
          have e5 : f 5 = (.int .i64 (room : Int)) := hd 5 (by kernel_rfl)
          have e7 : f 7 = (.int .i64 (tot F : Int)) := hd 7 (by kernel_rfl)
          have l1 := HT.out
          have l2 := HR.out
          have hw : IntKind.i64.wrap ((room : Int) - (tot F : Int)) = (room : Int) - (tot F : Int) := IntWalk.i64_in _ (by omega)
          go_simp
          exact ⟨Ext.refl _, rfl⟩
        refine ⟨fun u hu hd => ?_, ?_⟩
        · simp only [Act.put, List.setIfInBounds_toArray, List.set_cons_zero, List.set_cons_succ]
          have e1 : f 1 = (.int .i64 (L : Int)) := hd 1 (by kernel_rfl)
          have e8 : f 8 = (.int .i64 ((room : Int) - (tot F : Int))) := hd 8 (by kernel_rfl)
          have l1 := HZ.out
          go_simp
          exact ⟨Ext.refl _, rfl⟩
        refine ⟨fun u hu hd => ?_, ?_⟩
        · simp only [Act.put, List.setIfInBounds_toArray, List.set_cons_zero, List.set_cons_succ]
          have e9 : f 9 = (.bool false) := hd 9 (by kernel_rfl)
          go_simp
          exact ⟨Ext.refl _, rfl⟩
        refine ⟨fun u hu hd => ?_, ?_⟩
        · simp only [Act.put, List.setIfInBounds_toArray, List.set_cons_zero, List.set_cons_succ]
          have e10 : f 10 = (.bool false) := hd 10 (by kernel_rfl)
          go_simp
          exact ⟨Ext.refl _, rfl⟩
        refine ⟨fun u hu hd => ?_, ?_⟩
        · simp only [Act.put, List.setIfInBounds_toArray, List.set_cons_zero, List.set_cons_succ]
          have e10 : f 10 = (.bool false) := hd 10 (by kernel_rfl)
          have e11 : f 11 = (.bool true) := hd 11 (by kernel_rfl)
          go_simp
          exact ⟨Ext.refl _, rfl⟩
        refine ⟨fun u hu hd => ?_, ?_⟩
        · simp only [Act.put, List.setIfInBounds_toArray, List.set_cons_zero, List.set_cons_succ]
          have e10 : f 10 = (.bool false) := hd 10 (by kernel_rfl)
          have e12 : f 12 = (.bool false) := hd 12 (by kernel_rfl)
          go_simp
          exact ⟨Ext.refl _, rfl⟩
        refine ⟨fun u hu hd => ?_, ?_⟩
        · simp only [Act.put, List.setIfInBounds_toArray, List.set_cons_zero, List.set_cons_succ]
          have e13 : f 13 = (.bool false) := hd 13 (by kernel_rfl)
          go_simp
          rfl
        refine ⟨fun u hu hd => ?_, ?_⟩
        · simp only [Act.put, List.setIfInBounds_toArray, List.set_cons_zero, List.set_cons_succ]
          have e13 : f 13 = (.bool false) := hd 13 (by kernel_rfl)
          go_simp
          rfl
        refine ⟨fun u hu hd => ?_, ?_⟩
        · simp only [Act.put, List.setIfInBounds_toArray, List.set_cons_zero, List.set_cons_succ]
          have e13 : f 13 = (.bool false) := hd 13 (by kernel_rfl)
          go_simp
          rfl
        refine ⟨fun u hu hd => ?_, ?_⟩
        · simp only [Act.put, List.setIfInBounds_toArray, List.set_cons_zero, List.set_cons_succ]
          have e13 : f 13 = (.bool false) := hd 13 (by kernel_rfl)
          go_simp
          rfl
        refine ⟨fun u hu hd => ?_, ?_⟩
        · simp only [Act.put, List.setIfInBounds_toArray, List.set_cons_zero, List.set_cons_succ]
          have e13 : f 13 = (.bool false) := hd 13 (by kernel_rfl)
          go_simp
          rfl
        refine ⟨fun u hu hd => ?_, ?_⟩
        · simp only [Act.put, List.setIfInBounds_toArray, List.set_cons_zero, List.set_cons_succ]
          have e13 : f 13 = (.bool false) := hd 13 (by kernel_rfl)
          go_simp
          rfl
        refine ⟨fun u hu hd => ?_, ?_⟩
        · simp only [Act.put, List.setIfInBounds_toArray, List.set_cons_zero, List.set_cons_succ]
          have e10 : f 10 = (.bool false) := hd 10 (by kernel_rfl)
          have e13 : f 13 = (.bool false) := hd 13 (by kernel_rfl)
          go_simp
          exact ⟨Ext.refl _, rfl⟩
        refine ⟨fun u hu hd => ?_, ?_⟩
        · simp only [Act.put, List.setIfInBounds_toArray, List.set_cons_zero, List.set_cons_succ]
          have e10 : f 10 = (.bool false) := hd 10 (by kernel_rfl)
          have e20 : f 20 = (.bool false) := hd 20 (by kernel_rfl)
          go_simp
          exact ⟨Ext.refl _, rfl⟩
        trivial
end Go.Proofs.Ytenhfphgobalfaa

/- Bytes put behind a row of the call's own: where the row lies then. -/
namespace Go.Proofs.Ytenhfphgobalfaa
open Go.RowKit Go.Maps

set_option maxRecDepth 100000 in
theorem wpList_grow {ops : Array Oper} {rest : List Oper} {o : Oper} {a : Act} {Q : Exit → Act → World → Prop} {wr : World} (hgd : o.guard = none) (s x : Operand)
    (ho : o.op = .call { callee := .builtin .append, args := #[s, x], argTypes := #[35, 35] })
    (B : Nat) (v : Value) (xs : List Nat) (hs : a.eval s = v) (hown : wr.ownsRow B 5 1 v xs.length (bv xs)) (u : Value) (ys : List Nat) (hx : a.eval x = u) (lo hi : Nat) (hu : Bs wr lo hi u ys)
    (hl : xs.length + ys.length ≤ 140737488355328) (hB : B ≤ wr.heap.size)
    (h : ∀ A' c' w', w'.ownsRow B 5 1 (.slice A' (xs.length + ys.length) c') (xs.length + ys.length) (bv (xs ++ ys)) → wr.grownBy w' v.ownBlock → ((Value.slice A' (xs.length + ys.length) c').ownBlock = v.ownBlock ∨ (Value.slice A' (xs.length + ys.length) c').ownBlock = some wr.heap.size) →
      wpList Try.prog ops Q rest (a.put o.dst (.slice A' (xs.length + ys.length) c')) w') :
    wpList Try.prog ops Q (o :: rest) a wr := by
  obtain ⟨i0, hi0, hz0, hz1, hz2⟩ := info_parts t5info
  obtain ⟨A, c, rfl, h1, h2, h3, h4⟩ := hu
  have fin : ∀ v' w', w'.ownsRow B 5 1 v' (xs.length + ys.length) (bv xs ++ bv ys) → wr.grownBy w' v.ownBlock → (v'.ownBlock = v.ownBlock ∨ v'.ownBlock = some wr.heap.size) → wpList Try.prog ops Q rest (a.put o.dst v') w' := by
    intro v' w' k1 k2 k3
    rw [← bv_append] at k1
    obtain ⟨A', c', rfl, _⟩ := Sl.of_own k1
    exact h A' c' w' k1 k2 k3
  rcases A with _ | ad
  · have hn : ys = [] := by
      rcases h4 with h | ⟨b, o, he, _⟩
      · simpa [bv] using h
      · cases he
    subst hn
    obtain rfl := h3 rfl
    exact wpList_append_own_none hgd s x 35 ho B 5 i0 1 Try.underlying35 hi0 v xs.length (bv xs) hs hown hx (fin v wr (by simpa [bv] using hown) (World.grownBy.refl _ _) (.inl rfl))
  · refine wpList_plain hgd fun K hK => ?_
    obtain ⟨v', w', hr, k1, k2, _, k3⟩ := run_append_own_at (P := Try.prog) wr B 35 o.type 5 i0 (.int .u8 0) 1 1 Try.underlying35 hi0 hz0 hz1 hz2 rfl (by omega) v xs.length (bv xs) hown ad ys.length c (bv ys) (by simp [bv]) (fun j q hj => by
      rcases h4 with h | ⟨b, o, he, _, _, hc⟩
      · rw [h] at hj; simp at hj
      · injection he with he
        subst he
        rw [addr_add]
        exact hc j q hj) (bv_one _) (by unfold maxLen; omega) (by omega) hB
    unfold Oper.wp execOp
    simp only [ho, resolve, invoke, builtin, Sem.run_bind, Sem.run_pure, Result.andThen_ok, List.map_toArray, List.map_cons, List.map_nil, hs, hx, hr]
    refine hK _ _ (fin v' w' k1 k2 ?_)
    rcases k3 with k3 | k3
    · exact .inl (by rw [k3])
    · exact .inr (by simpa using k3)
end Go.Proofs.Ytenhfphgobalfaa

/- What becomes of a disk's files, and that the memory says so. -/
namespace Go.Proofs.Ytenhfphgobalfaa
open Go.RowKit Go.Maps

/-- The file of a name, or an empty one. -/
def cur (F : List Fl) (n : List UInt8) : Fl := (F.find? fun f => f.name == n).getD ⟨n, [], 0⟩
theorem cur_mem {F : List Fl} (h : (F.map Fl.name).Nodup) {f : Fl} (hf : f ∈ F) : cur F f.name = f := by
  unfold cur
  cases hq : F.find? fun g => g.name == f.name with
  | none => exact absurd (List.find?_eq_none.1 hq f hf) (by simp)
  | some g => exact same_file h (List.mem_of_find?_eq_some hq) hf (by simpa using List.find?_some hq)
theorem cur_none {F : List Fl} {n : List UInt8} (h : there F n = false) : cur F n = ⟨n, [], 0⟩ := by
  unfold cur
  rw [List.find?_eq_none.2 (fun f hf => by simpa using List.any_eq_false.1 h f hf)]
  rfl
theorem cur_name (F : List Fl) (n : List UInt8) : (cur F n).name = n := by
  unfold cur
  cases hq : F.find? fun g => g.name == n with
  | none => rfl
  | some g => simpa using List.find?_some hq
theorem there_cur {F : List Fl} {n : List UInt8} (h : there F n = true) : cur F n ∈ F := by
  unfold cur
  cases hq : F.find? fun g => g.name == n with
  | none => obtain ⟨f, hf, e⟩ := there_yes h; exact absurd (List.find?_eq_none.1 hq f hf) (by simp [e])
  | some g => exact List.mem_of_find?_eq_some hq
theorem there_of {F : List Fl} {f : Fl} (h : f ∈ F) : there F f.name = true := List.any_eq_true.2 ⟨f, h, by simp⟩

theorem tot_upd {F : List Fl} (h : (F.map Fl.name).Nodup) (f : Fl) : tot (upd F f) + (cur F f.name).data.length = tot F + f.data.length := by
  cases ht : there F f.name
  · rw [cur_none ht]
    unfold upd
    rw [tot_cons, del_none (there_no ht)]
    simp
    omega
  · obtain ⟨g, hg, e⟩ := there_yes ht
    have hc := cur_mem h hg
    rw [e] at hc
    rw [hc]
    have := tot_perm (del_perm h hg)
    rw [tot_cons, e] at this
    unfold upd
    rw [tot_cons]
    omega
theorem len_upd {F : List Fl} (h : (F.map Fl.name).Nodup) (f : Fl) : (upd F f).length = F.length + if there F f.name then 0 else 1 := by
  cases ht : there F f.name
  · unfold upd
    rw [List.length_cons, del_none (there_no ht)]
    simp
  · obtain ⟨g, hg, e⟩ := there_yes ht
    have := (del_perm h hg).length_eq
    rw [List.length_cons, e] at this
    unfold upd
    rw [List.length_cons]
    simp
    omega
theorem upd_nodup {F : List Fl} (h : (F.map Fl.name).Nodup) (f : Fl) : ((upd F f).map Fl.name).Nodup := by
  unfold upd
  rw [List.map_cons, List.nodup_cons]
  refine ⟨fun hm => ?_, del_nodup h⟩
  obtain ⟨g, hg, e⟩ := List.mem_map.1 hm
  exact (mem_del.1 hg).2 e

theorem tot_del (F : List Fl) (n : List UInt8) : tot (del F n) ≤ tot F := by
  induction F with
  | nil => exact Nat.le_refl _
  | cons g F ih =>
    unfold del at ih ⊢
    rw [List.filter_cons]
    split
    · rw [tot_cons, tot_cons]; omega
    · rw [tot_cons]; omega

/-- A file laid into the map. -/
theorem Disk.updated {w w' : World} {S S' : Nat → Prop} {B d m room : Nat} {F : List Fl} {V : List UInt8 → Value} {D : DataW Value} (h : Disk w S B d room F) (hs : Seen w d m S F V D room) (hBm : B ≤ m)
    (hap : ∀ f ∈ F, ∀ g ∈ F, f.name ≠ g.name → ∀ b, blk (V f.name) = some b → blk (V g.name) ≠ some b)
    (f : Fl) (v : Value) (hb : w'.heap[d]? = w.heap[d]?) {n : Nat} (ho : w'.ownsMap Try.prog 9 rdf m n (D.put (.string f.name) (.held v))) (hk : WideAt.IsKeyLit (.string f.name))
    (hv : FileAt w' S' B f v) (hother : ∀ g ∈ F, g.name ≠ f.name → FileAt w' S' B g (V g.name)) (hapv : ∀ g ∈ F, g.name ≠ f.name → ∀ b, blk v = some b → blk (V g.name) ≠ some b) (hSS : ∀ k, S k → S' k)
    (ht : Go.Proofs.Ytenhfphgobalfaa.tot (upd F f) ≤ room) (hcnt : (upd F f).length ≤ 128) (hg : good f.name = true) : Disk w' S' B d room (upd F f) := by
  have hC := hs.con.put f v hk
  have hvs : ∀ g : Fl, g.name ≠ f.name → vset V f.name v g.name = V g.name := fun g hne => by simp [vset, hne]
  have hvf : vset V f.name v f.name = v := by simp [vset]
  refine ⟨⟨m, _, vset V f.name v, hb.trans hs.block, ?_, hC, ?_, ?_, hSS m hs.mine.2, hBm⟩, hSS d h.mine, h.base, h.lo, h.hi, ht, hcnt, ?_⟩
  · have := own_exact ho
    rw [hC.size] at this
    exact this
  · intro g hg
    rcases List.mem_cons.1 hg with rfl | hg
    · rw [hvf]; exact hv
    · obtain ⟨h1, h2⟩ := mem_del.1 hg
      rw [hvs g h2]; exact hother g h1 h2
  · intro x hx y hy hne b hbx
    rcases List.mem_cons.1 hx with rfl | hx <;> rcases List.mem_cons.1 hy with rfl | hy
    · exact absurd rfl hne
    · obtain ⟨h1, h2⟩ := mem_del.1 hy
      rw [hvs y h2]; rw [hvf] at hbx
      exact hapv y h1 h2 b hbx
    · obtain ⟨h1, h2⟩ := mem_del.1 hx
      rw [hvs x h2] at hbx
      rw [hvf]
      exact fun e => hapv x h1 h2 b e hbx
    · obtain ⟨h1, h2⟩ := mem_del.1 hx
      obtain ⟨h3, h4⟩ := mem_del.1 hy
      rw [hvs x h2] at hbx; rw [hvs y h4]
      exact hap x h1 y h3 hne b hbx
  · intro g hg'
    rcases List.mem_cons.1 hg' with rfl | hg'
    · exact hg
    · exact h.names g (mem_del.1 hg').1

/-- A file taken out of the map. -/
theorem Disk.dropped {w w' : World} {S : Nat → Prop} {B d m room : Nat} {F : List Fl} {V : List UInt8 → Value} {D : DataW Value} (h : Disk w S B d room F) (hs : Seen w d m S F V D room) (hBm : B ≤ m)
    (hap : ∀ f ∈ F, ∀ g ∈ F, f.name ≠ g.name → ∀ b, blk (V f.name) = some b → blk (V g.name) ≠ some b) (hfiles : ∀ f ∈ F, FileAt w' S B f (V f.name))
    (n : List UInt8) (hb : w'.heap[d]? = w.heap[d]?) {k : Nat} (ho : w'.ownsMap Try.prog 9 rdf m k (D.del (.string n))) : Disk w' S B d room (del F n) := by
  have hC := hs.con.drop n
  have hle := tot_del F n
  refine ⟨⟨m, _, V, hb.trans hs.block, ?_, hC, fun g hg => hfiles g (mem_del.1 hg).1, fun x hx y hy => hap x (mem_del.1 hx).1 y (mem_del.1 hy).1, hs.mine.2, hBm⟩, h.mine, h.base, h.lo, h.hi, Nat.le_trans hle h.tot, Nat.le_trans (List.length_filter_le _ _) h.cnt, fun g hg => h.names g (mem_del.1 hg).1⟩
  have := own_exact ho
  rw [hC.size] at this
  exact this
theorem row_not {w : World} {B n : Nat} {v : Value} {xs : List Value} (hr : w.ownsRow B 5 1 v n xs) {k : Nat} (hk : v.ownBlock = some k) : ∃ cur, w.heap[k]? = some (.cells cur 5 (0, 0)) := by
  rcases hr.2 with ⟨rfl, _⟩ | ⟨g, cap, cur, rfl, _, hh, _⟩
  · cases hk
  · injection hk with hk
    subst hk
    exact ⟨cur, hh⟩
/-- A row of bytes is neither the disk's cell nor its map. -/
theorem Seen.row_apart {w : World} {d m room : Nat} {S : Nat → Prop} {F : List Fl} {V : List UInt8 → Value} {D : DataW Value} (h : Seen w d m S F V D room) {B n : Nat} {v : Value} {xs : List Value} (hr : w.ownsRow B 5 1 v n xs) : v.ownBlock ≠ some d ∧ v.ownBlock ≠ some m := by
  refine ⟨fun e => ?_, fun e => ?_⟩
  · obtain ⟨c, hc⟩ := row_not hr e
    rw [h.block] at hc
    injection hc with hc
    injection hc with _ hc
    exact absurd hc (by decide)
  · obtain ⟨c, hc⟩ := row_not hr e
    obtain ⟨es, clock, hb, _⟩ := h.own
    rw [hb] at hc
    cases hc
theorem Seen.dm {w : World} {d m room : Nat} {S : Nat → Prop} {F : List Fl} {V : List UInt8 → Value} {D : DataW Value} (h : Seen w d m S F V D room) : d ≠ m := by
  intro e
  obtain ⟨es, clock, hb, _⟩ := h.own
  have := h.block
  rw [e, hb] at this
  cases this
theorem FileAt.keep1 {w w' : World} {S S' : Nat → Prop} {B : Nat} {f : Fl} {v : Value} (h : FileAt w S B f v) (hk : ∀ b, blk v = some b → w'.heap[b]? = w.heap[b]?) (hS : ∀ k, S k → S' k) : FileAt w' S' B f v := by
  obtain ⟨⟨u, rfl, hr, hs⟩, a, b⟩ := h
  exact ⟨⟨u, rfl, row_kept hr hk, fun g hg => hS g (hs g hg)⟩, a, b⟩
theorem FileAt.blk_lt {w : World} {S : Nat → Prop} {B : Nat} {f : Fl} {v : Value} (h : FileAt w S B f v) {b : Nat} (hb : blk v = some b) : b < w.heap.size ∧ S b ∧ ∃ cur, w.heap[b]? = some (.cells cur 5 (0, 0)) := by
  obtain ⟨⟨u, rfl, hr, hs⟩, _, _⟩ := h
  exact ⟨(row_lt hr b hb).2, hs b hb, row_not hr hb⟩

/-- A file that was written behind its bytes, or anew, and laid back into the map. -/
theorem Disk.grown_file {w w5 w6 : World} {S : Nat → Prop} {B d m room : Nat} {F : List Fl} {V : List UInt8 → Value} {D : DataW Value} (h : Disk w S B d room F) (hs : Seen w d m S F V D room) (hBm : B ≤ m)
    (hap : ∀ f ∈ F, ∀ g ∈ F, f.name ≠ g.name → ∀ b, blk (V f.name) = some b → blk (V g.name) ≠ some b) (hfiles : ∀ f ∈ F, FileAt w S B f (V f.name))
    (f' : Fl) (u u' : Value) (hu : ∀ f ∈ F, f.name = f'.name → blk (V f.name) = u.ownBlock) (hun : there F f'.name = false → u.ownBlock = none)
    (hc : Chg (fun k => u.ownBlock = some k) w w5) (h6 : w5.grownBy w6 (some m)) {n : Nat} (ho : w6.ownsMap Try.prog 9 rdf m n (D.put (.string f'.name) (.held (.agg #[u', .int .i64 (f'.lasts : Int)])))) (hk : WideAt.IsKeyLit (.string f'.name))
    (hrow : w5.ownsRow B 5 1 u' f'.data.length (bv f'.data)) (hat : u'.ownBlock = u.ownBlock ∨ ∃ q, u'.ownBlock = some q ∧ w.heap.size ≤ q) (hl : f'.lasts ≤ f'.data.length) (hb : ∀ b ∈ f'.data, b < 256)
    (ht : Go.Proofs.Ytenhfphgobalfaa.tot (upd F f') ≤ room) (hcnt : (upd F f').length ≤ 128) (hg : good f'.name = true) :
    ∃ S', Disk w6 S' B d room (upd F f') ∧ Chg S w w6 ∧ ∀ k, S' k → S k ∨ w.heap.size ≤ k := by
  have hmlt := hs.own.lt
  have hdlt : d < w.heap.size := (Array.getElem?_eq_some_iff.1 hs.block).1
  -- the old row is none, or a row of the disk
  have hold : ∀ k, u.ownBlock = some k → ∃ f ∈ F, f.name = f'.name ∧ blk (V f.name) = some k := fun k hk => by
    cases ht : there F f'.name
    · rw [hun ht] at hk; cases hk
    · obtain ⟨f, hf, e⟩ := there_yes ht
      exact ⟨f, hf, e, (hu f hf e).trans hk⟩
  have hud : u.ownBlock ≠ some d := fun e => by
    obtain ⟨f, hf, _, hb⟩ := hold d e
    obtain ⟨⟨x, e1, hr, _⟩, _⟩ := hfiles f hf
    rw [e1] at hb
    exact (hs.row_apart hr).1 hb
  have hum : u.ownBlock ≠ some m := fun e => by
    obtain ⟨f, hf, _, hb⟩ := hold m e
    obtain ⟨⟨x, e1, hr, _⟩, _⟩ := hfiles f hf
    rw [e1] at hb
    exact (hs.row_apart hr).2 hb
  have hkeep : ∀ g ∈ F, g.name ≠ f'.name → ∀ b, blk (V g.name) = some b → w6.heap[b]? = w.heap[b]? := fun g hg hne b hb => by
    obtain ⟨h1, _, c, h3⟩ := (hfiles g hg).blk_lt hb
    have hbu : u.ownBlock ≠ some b := fun e => by
      obtain ⟨f, hf, e1, hb'⟩ := hold b e
      exact hap f hf g hg (fun e2 => hne (e2.symm.trans e1)) b hb' hb
    have hbm : b ≠ m := fun e => by
      obtain ⟨es, clock, hm, _⟩ := hs.own
      rw [e, hm] at h3; cases h3
    exact (h6.block b (Nat.lt_of_lt_of_le h1 hc.size) (fun e => hbm (by injection e))).trans (hc.block b h1 hbu)
  refine ⟨fun k => S k ∨ u'.ownBlock = some k, ?_, ?_, ?_⟩
  · refine h.updated hs hBm hap f' _ ?_ ho hk ?_ (fun g hg hne => (hfiles g hg).keep1 (hkeep g hg hne) (fun k hk => .inl hk)) ?_ (fun k hk => .inl hk) ht hcnt hg
    · exact (h6.block d (Nat.lt_of_lt_of_le hdlt hc.size) (fun e => hs.dm (by injection e))).trans (hc.block d hdlt hud)
    · refine ⟨⟨u', rfl, row_kept hrow (fun k hk => h6.block k (row_lt hrow k hk).2 (fun e => ?_)), fun k hk => .inr hk⟩, hl, hb⟩
      injection e with e
      subst e
      rcases hat with hat | ⟨q, hq, hle⟩
      · exact hum (hat ▸ hk)
      · rw [hk] at hq; injection hq with hq; omega
    · intro g hg hne b hb hb'
      rcases hat with hat | ⟨q, hq, hle⟩
      · obtain ⟨f, hf, e1, hb2⟩ := hold b (hat ▸ hb)
        exact hap f hf g hg (fun e2 => hne (e2.symm.trans e1)) b hb2 hb'
      · have := (hfiles g hg).blk_lt hb'
        have e : u'.ownBlock = some b := hb
        rw [e] at hq; injection hq with hq; omega
  · refine (hc.mono (S' := S) fun k _ hk => ?_).trans_new (Chg.grown (S := fun k => k = m) h6 (fun k e => by injection e with e; exact e.symm)) (fun i _ hi => hi ▸ hs.mine.2)
    obtain ⟨f, hf, _, hb⟩ := hold k hk
    exact ((hfiles f hf).blk_lt hb).2.1
  · rintro k (hk | hk)
    · exact .inl hk
    · rcases hat with hat | ⟨q, hq, hle⟩
      · obtain ⟨f, hf, _, hb⟩ := hold k (hat ▸ hk)
        exact .inl ((hfiles f hf).blk_lt hb).2.1
      · rw [hk] at hq; injection hq with hq; exact .inr (by omega)
end Go.Proofs.Ytenhfphgobalfaa
