/- Lists of entries read: ikey's Lists. -/
import Derived.Test.YtcofnbeemfhcpaaIput
import Derived.Test.YtcofnbeemfhcpaaIlatest
import Derived.Test.YtcofnbeemfhcpaaIread
import Derived.Test.YtcofnbeemfhcpaaWtake
namespace Go.Proofs.Ytcofnbeemfhcpaa
open Go.ChangeShapes Go.WideShapes Go.ChangeAt Go.RowKit

/-! Plain mathematics -/

theorem ent_bytes {b : List Nat} {e : Ent} (h : IsE b e) (hb : ∀ x ∈ b, x < 256) : (∀ x ∈ e.key, x < 256) ∧ (∀ x ∈ e.val, x < 256) := by
  obtain ⟨hm, rfl⟩ := h
  obtain ⟨_, _, _, _, a5⟩ := mayN_iff.1 hm
  unfold Ent.form bytesForm at hb
  refine ⟨fun x hx => hb x (by simp [hx]), fun x hx => ?_⟩
  rcases a5 with ⟨a, _⟩ | ⟨_, a⟩
  · exact hb x (by simp [a, hx])
  · rw [List.eq_nil_of_length_eq_zero a] at hx; cases hx
theorem Good.of_is {b : List Nat} {e : Ent} (h : IsE b e) (hb : ∀ x ∈ b, x < 256) : Good e := by
  obtain ⟨a1, a2⟩ := ent_bytes h hb
  obtain ⟨_, _, b1, b2, b3⟩ := mayN_iff.1 h.1
  exact ⟨a1, a2, by omega, by omega, by omega, by omega⟩
theorem ent_cut {e e' : Ent} (h : e.may = true) (h' : e'.may = true) {r r' : List Nat} (k : bytesForm e.form ++ r = bytesForm e'.form ++ r') : e = e' ∧ r = r' := by
  have l1 := Ent.form_len h
  have l2 := Ent.form_len h'
  obtain ⟨k1, k2⟩ := bytesForm_cut ⟨by omega⟩ ⟨by omega⟩ k
  exact ⟨IsE.unique ⟨h, rfl⟩ ⟨h', k1.symm⟩, k2⟩
theorem lf_nil : lf [] = [] := rfl
theorem lf_cons (e : Ent) (es : List Ent) : lf (e :: es) = bytesForm e.form ++ lf es := by simp [lf]
theorem lf_append (a b : List Ent) : lf (a ++ b) = lf a ++ lf b := by simp [lf]
/-- What is read of the first so many. -/
theorem lf_front : ∀ {xs es : List Ent} {r rest : List Nat}, (∀ e ∈ xs, e.may = true) → (∀ e ∈ es, e.may = true) → xs.length ≤ es.length → lf es ++ r = lf xs ++ rest → ∃ t, es = xs ++ t ∧ rest = lf t ++ r
  | [], es, r, rest, _, _, _, h => ⟨es, rfl, by rw [h]; simp [lf]⟩
  | a :: xs, [], r, rest, _, _, h, _ => by simp at h
  | a :: xs, e :: es, r, rest, ha, he, hl, h => by
    rw [lf_cons, lf_cons, List.append_assoc, List.append_assoc] at h
    obtain ⟨rfl, h2⟩ := ent_cut (he e (by simp)) (ha a (by simp)) h
    obtain ⟨t, rfl, ht⟩ := lf_front (fun x hx => ha x (by simp [hx])) (fun x hx => he x (by simp [hx])) (by simpa using hl) h2
    exact ⟨t, rfl, ht⟩
/-- The entries of which these are the list's bytes. -/
def IsL (b : List Nat) (es : List Ent) : Prop := es.length ≤ 65536 ∧ (∀ e ∈ es, e.may = true) ∧ lform es = b
theorem IsL.begins {b : List Nat} {es : List Ent} (h : IsL b es) : Begins b es.length (lf es) := ⟨⟨by have := h.1; omega⟩, h.2.2.symm⟩
theorem IsL.unique {b : List Nat} {es es' : List Ent} (h : IsL b es) (h' : IsL b es') : es = es' := by
  obtain ⟨e1, e2⟩ := h.begins.unique h'.begins
  obtain ⟨t, ht, _⟩ := lf_front (r := []) (rest := []) h'.2.1 h.2.1 (by omega) (by rw [e2])
  have : t = [] := List.eq_nil_of_length_eq_zero (by have := congrArg List.length ht; simp at this; omega)
  rw [ht, this, List.append_nil]
/-- Entries that stand here one behind the other. -/
def AllEnt (l : List Nat) (es : List Ent) (rest : List Nat) : Prop := l = lf es ++ rest ∧ ∀ e ∈ es, e.may = true
theorem AllEnt.snoc {l mid rest : List Nat} {es : List Ent} {e : Ent} (h : AllEnt l es mid) (hm : e.may = true) (he : mid = bytesForm e.form ++ rest) : AllEnt l (es ++ [e]) rest := by
  obtain ⟨rfl, h2⟩ := h
  refine ⟨by rw [he, lf_append, lf_cons, lf_nil]; simp, fun x hx => ?_⟩
  rcases List.mem_append.1 hx with hx | hx
  · exact h2 x hx
  · rw [List.mem_singleton] at hx; rw [hx]; exact hm
theorem AllEnt.len {l rest : List Nat} {es : List Ent} (h : AllEnt l es rest) : es.length + rest.length ≤ l.length := by
  obtain ⟨rfl, h2⟩ := h
  have : ∀ es : List Ent, (∀ e ∈ es, e.may = true) → es.length ≤ (lf es).length := by
    intro es
    induction es with
    | nil => intro _; simp
    | cons e es ih =>
      intro hm
      have h1 := ih fun x hx => hm x (by simp [hx])
      have h2 := (bytesForm_len (l := e.form) ⟨by have := Ent.form_len (hm e (by simp)); omega⟩).2
      rw [lf_cons, List.length_append, List.length_cons]; omega
  have := this es h2
  rw [List.length_append]; omega
/-- No entry stands here. -/
def NoEnt (l : List Nat) : Prop := ∀ e rest, Ent.may e = true → l ≠ bytesForm e.form ++ rest
theorem AllEnt.no {b mid rest : List Nat} {xs es : List Ent} {m : Nat} (hb : Begins b m mid) (ha : AllEnt mid xs rest) (hlt : xs.length < m) (hno : NoEnt rest) : ¬ IsL b es := by
  intro h
  obtain ⟨e1, e2⟩ := h.begins.unique hb
  obtain ⟨h1, h2⟩ := ha
  obtain ⟨t, ht, hr⟩ := lf_front (r := []) h2 h.2.1 (by omega) (by rw [List.append_nil, e2, h1])
  cases t with
  | nil => rw [ht] at e1; simp at e1; omega
  | cons e t =>
    rw [lf_cons, List.append_assoc] at hr
    exact hno e _ (h.2.1 e (by rw [ht]; simp)) hr
theorem AllEnt.is {b mid : List Nat} {xs : List Ent} (hb : Begins b xs.length mid) (hl : xs.length ≤ 65536) (ha : AllEnt mid xs []) : IsL b xs := by
  refine ⟨hl, ha.2, ?_⟩
  have h1 := ha.1
  rw [List.append_nil] at h1
  unfold lform
  rw [← h1, hb.eq]
theorem AllEnt.rest {b mid rest : List Nat} {xs es : List Ent} (hb : Begins b xs.length mid) (ha : AllEnt mid xs rest) (h : IsL b es) : rest = [] := by
  obtain ⟨e1, e2⟩ := h.begins.unique hb
  obtain ⟨t, ht, hr⟩ := lf_front (r := []) ha.2 h.2.1 (by omega) (by rw [List.append_nil, e2, ha.1])
  have : t = [] := List.eq_nil_of_length_eq_zero (by have := congrArg List.length ht; simp at this; omega)
  subst this
  simpa [lf] using hr

/-! Rows of the call's own -/

/-- A row of entries, all of them the call's own. -/
structure Got (B : Nat) (v : Value) (R : List (Ent × Hd)) (w : World) : Prop where
  row : w.ownsRow B 25 4 v R.length (erow R)
  each : ∀ p ∈ R, Mine B p w
theorem Got.nil (B : Nat) (w : World) : Got B (.slice none 0 0) [] w := ⟨World.ownsRow_nil _ _ _ _, fun p hp => by cases hp⟩
theorem Got.base {B B' : Nat} {v : Value} {R : List (Ent × Hd)} {w : World} (h : Got B v R w) (hB : B' ≤ B) : Got B' v R w := ⟨rowN_base h.row hB, fun p hp => (h.each p hp).base hB⟩
theorem Got.kept {B : Nat} {v : Value} {R : List (Ent × Hd)} {w w' : World} (h : Got B v R w) (hk : ∀ g, B ≤ g → g < w.heap.size → w'.heap[g]? = w.heap[g]?) : Got B v R w' := by
  refine ⟨rowN_kept h.row fun g hg => hk g (rowN_lt h.row g hg).1 (rowN_lt h.row g hg).2.1, fun p hp => ?_⟩
  have hm := h.each p hp
  exact ⟨row_kept hm.k fun g hg => hk g (row_lt hm.k g hg).1 (row_lt hm.k g hg).2, row_kept hm.v fun g hg => hk g (row_lt hm.v g hg).1 (row_lt hm.v g hg).2, hm.good⟩
theorem Got.below {B : Nat} {v : Value} {R : List (Ent × Hd)} {w w' : World} (h : Got B v R w) (hx : Ext w w') : Got B v R w' := h.kept fun g _ hg => hx.block g hg
theorem Got.grown {B r : Nat} {v : Value} {R : List (Ent × Hd)} {w w' : World} (h : Got B v R w) (hg : w.grownBy w' (some r)) (hr : r < B) : Got B v R w' := h.kept fun g h1 h2 => hg.block g h2 (fun e => by injection e with e; omega)
theorem Got.slice {B : Nat} {v : Value} {R : List (Ent × Hd)} {w : World} (h : Got B v R w) : ∃ A c, v = .slice A R.length c := rowN_slice h.row

/-- 'append(l, e)'. -/
theorem wpList_pushent {ops : Array Oper} {rest : List Oper} {o : Oper} {a : Act} {Q : Exit → Act → World → Prop} {u : World} (hgd : o.guard = none) (s x : Operand)
    (ho : o.op = .call { callee := .builtin .append, args := #[s, x], argTypes := #[26, 26] }) (B : Nat) (v : Value) (R : List (Ent × Hd)) (hs : a.eval s = v) (hgot : Got B v R u)
    (p : Ent × Hd) (gb : Nat) (hx : a.eval x = .slice (some ⟨gb, 0, none⟩) 1 1) (hblk : u.heap[gb]? = some (.cells (ecells p).toArray 25 (0, 0))) (hp : Mine B p u) (hlen : R.length ≤ 1000000000000) (hB : B ≤ u.heap.size)
    (h : ∀ A' c' w', Got B (.slice A' (R.length + 1) c') (R ++ [p]) w' → (∀ w0, Below B w0 u → Below B w0 w') → wpList Try.prog ops Q rest (a.put o.dst (.slice A' (R.length + 1) c')) w') :
    wpList Try.prog ops Q (o :: rest) a u := by
  obtain ⟨i0, hi0', ix0, ix1, ix2⟩ := info_parts einfo
  refine wpList_append_own _ hgd s x 26 ho B 25 i0 _ 4 64 Try.underlying26 hi0' ix0 ix1 ix2 rfl (by decide) v R.length (erow R) hs hgot.row ⟨gb, 0, none⟩ 1 1 (ecells p) hx rfl (fun j q hj => ?n1) (fun q hq => ?n2) ?n3 ?n4 hB (fun v' w5 ho hgr _ => ?rest)
  case n1 => rw [addr_add, Nat.zero_add]; exact cell_of hblk (by simpa using hj)
  case n2 => exact erow_one [p] q (by simpa [erow] using hq)
  case n3 => unfold maxLen; omega
  case n4 => omega
  case rest =>
    have hlt := rowN_lt hgot.row
    have hke : ∀ q : Ent × Hd, Mine B q u → Mine B q w5 := fun q hq => by
      have hk : ∀ {l : List Nat} {x : Value}, Own B l x u → Own B l x w5 := fun hx => row_kept hx fun g' hg' => hgr.block g' (row_lt hx g' hg').2 (fun e => rows_apart hx hgot.row (by decide) hg' e.symm)
      exact ⟨hk hq.k, hk hq.v, hq.good⟩
    have hgot' : Got B v' (R ++ [p]) w5 := by
      refine ⟨by rw [List.length_append, erow_append]; simpa [erow] using ho, fun q hq => ?_⟩
      rcases List.mem_append.1 hq with hq | hq
      · exact hke q (hgot.each q hq)
      · rw [List.mem_singleton] at hq; subst hq; exact hke q hp
    obtain ⟨A', c', rfl⟩ := rowN_slice ho
    exact h A' c' w5 hgot' (fun w0 hb => hb.grown hgr hB fun k hk => (hlt k hk).1)

/-! One entry of a list -/

/-- What the reader of one entry answers. -/
def OnePost (w : World) (r lo hi : Nat) (l : List Nat) (x : Ending) (w' : World) : Prop :=
  (∃ (p : Ent × Hd) (rest : List Nat), p.1.may = true ∧ l = bytesForm p.1.form ++ rest ∧ x = .returned (.tuple #[p.1.at_ p.2, .int .i64 0]) ∧ Mine w.heap.size p w' ∧ Rd w' r lo hi rest ∧ w.grownBy w' (some r)) ∨
  (∃ n : Int, NoEnt l ∧ n ≠ 0 ∧ x = .returned (.tuple #[noE, .int .i64 n]) ∧ w.grownBy w' (some r))

/-! Lists -/

def OkEnts (B : Nat) (most : Int) (l : List Nat) (v : Value) (rest : List Nat) (w : World) : Prop :=
  ∃ (R : List (Ent × Hd)) (mid : List Nat), Begins l R.length mid ∧ (R.length : Int) ≤ most ∧ AllEnt mid (R.map Prod.fst) rest ∧ Got B v R w
def ErrEnts (most : Int) (l : List Nat) (n : Int) : Prop := ErrCount most l n ∨ ∃ m mid, Begins l m mid ∧ (m : Int) ≤ most ∧ ∃ es rest, List.length es < m ∧ AllEnt mid es rest ∧ NoEnt rest
theorem holds_ents (B : Nat) (most : Int) (l : List Nat) (B' : Nat) (h : B' ≤ B) : Holds2 (OkEnts B most l) B' := by
  rintro v rest w b o u ⟨R, mid, h1, h2, h3, h4⟩ hb
  exact ⟨R, mid, h1, h2, h3, h4.kept fun g hg _ => Below.heap_setCell _ _ _ _ (by show g ≠ b; omega)⟩
end Go.Proofs.Ytcofnbeemfhcpaa
