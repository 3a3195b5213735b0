/- Lists of entries read: ikey's Lists. -/
import Derived.Test.YtfalpagimmaipaaIput
import Derived.Test.YtfalpagimmaipaaIlatest
import Derived.Test.YtfalpagimmaipaaIread
import Derived.Test.YtfalpagimmaipaaWtake
namespace Go.Proofs.Ytfalpagimmaipaa
open Go.ChangeShapes Go.WideShapes Go.ChangeAt Go.RowKit

/-! Plain mathematics -/

theorem ent_bytes {b : List Nat} {e : Ent} (h : IsE b e) (hb : ∀ x ∈ b, x < 256) : (∀ x ∈ e.key, x < 256) ∧ (∀ x ∈ e.val, x < 256) := by
  obtain ⟨hm, rfl⟩ := h
  obtain ⟨_, _, _, _, a5⟩ := mayN_iff.1 hm
  unfold Ent.form bytesForm at hb
  refine ⟨fun x hx => hb x (by simp [hx]), fun x hx => ?_⟩
  rcases a5 with ⟨a, _⟩ | ⟨_, a⟩
  · exact hb x (by simp [a, hx])
  · rw [List.eq_nil_of_length_eq_zero a] at hx; cases hx
theorem Good.of_is {b : List Nat} {e : Ent} (h : IsE b e) (hb : ∀ x ∈ b, x < 256) : Good e := by
  obtain ⟨a1, a2⟩ := ent_bytes h hb
  obtain ⟨_, _, b1, b2, b3⟩ := mayN_iff.1 h.1
  exact ⟨a1, a2, by omega, by omega, by omega, by omega⟩
theorem ent_cut {e e' : Ent} (h : e.may = true) (h' : e'.may = true) {r r' : List Nat} (k : bytesForm e.form ++ r = bytesForm e'.form ++ r') : e = e' ∧ r = r' := by
  have l1 := Ent.form_len h
  have l2 := Ent.form_len h'
  obtain ⟨k1, k2⟩ := bytesForm_cut ⟨by omega⟩ ⟨by omega⟩ k
  exact ⟨IsE.unique ⟨h, rfl⟩ ⟨h', k1.symm⟩, k2⟩
theorem lf_nil : lf [] = [] := rfl
theorem lf_cons (e : Ent) (es : List Ent) : lf (e :: es) = bytesForm e.form ++ lf es := by simp [lf]
theorem lf_append (a b : List Ent) : lf (a ++ b) = lf a ++ lf b := by simp [lf]
/-- What is read of the first so many. -/
theorem lf_front : ∀ {xs es : List Ent} {r rest : List Nat}, (∀ e ∈ xs, e.may = true) → (∀ e ∈ es, e.may = true) → xs.length ≤ es.length → lf es ++ r = lf xs ++ rest → ∃ t, es = xs ++ t ∧ rest = lf t ++ r
  | [], es, r, rest, _, _, _, h => ⟨es, rfl, by rw [h]; simp [lf]⟩
  | a :: xs, [], r, rest, _, _, h, _ => by simp at h
  | a :: xs, e :: es, r, rest, ha, he, hl, h => by
    rw [lf_cons, lf_cons, List.append_assoc, List.append_assoc] at h
    obtain ⟨rfl, h2⟩ := ent_cut (he e (by simp)) (ha a (by simp)) h
    obtain ⟨t, rfl, ht⟩ := lf_front (fun x hx => ha x (by simp [hx])) (fun x hx => he x (by simp [hx])) (by simpa using hl) h2
    exact ⟨t, rfl, ht⟩
/-- The entries of which these are the list's bytes. -/
def IsL (b : List Nat) (es : List Ent) : Prop := es.length ≤ 65536 ∧ (∀ e ∈ es, e.may = true) ∧ lform es = b
theorem IsL.begins {b : List Nat} {es : List Ent} (h : IsL b es) : Begins b es.length (lf es) := ⟨⟨by have := h.1; omega⟩, h.2.2.symm⟩
theorem IsL.unique {b : List Nat} {es es' : List Ent} (h : IsL b es) (h' : IsL b es') : es = es' := by
  obtain ⟨e1, e2⟩ := h.begins.unique h'.begins
  obtain ⟨t, ht, _⟩ := lf_front (r := []) (rest := []) h'.2.1 h.2.1 (by omega) (by rw [e2])
  have : t = [] := List.eq_nil_of_length_eq_zero (by have := congrArg List.length ht; simp at this; omega)
  rw [ht, this, List.append_nil]
/-- Entries that stand here one behind the other. -/
def AllEnt (l : List Nat) (es : List Ent) (rest : List Nat) : Prop := l = lf es ++ rest ∧ ∀ e ∈ es, e.may = true
theorem AllEnt.snoc {l mid rest : List Nat} {es : List Ent} {e : Ent} (h : AllEnt l es mid) (hm : e.may = true) (he : mid = bytesForm e.form ++ rest) : AllEnt l (es ++ [e]) rest := by
  obtain ⟨rfl, h2⟩ := h
  refine ⟨by rw [he, lf_append, lf_cons, lf_nil]; simp, fun x hx => ?_⟩
  rcases List.mem_append.1 hx with hx | hx
  · exact h2 x hx
  · rw [List.mem_singleton] at hx; rw [hx]; exact hm
theorem AllEnt.len {l rest : List Nat} {es : List Ent} (h : AllEnt l es rest) : es.length + rest.length ≤ l.length := by
  obtain ⟨rfl, h2⟩ := h
  have : ∀ es : List Ent, (∀ e ∈ es, e.may = true) → es.length ≤ (lf es).length := by
    intro es
    induction es with
    | nil => intro _; simp
    | cons e es ih =>
      intro hm
      have h1 := ih fun x hx => hm x (by simp [hx])
      have h2 := (bytesForm_len (l := e.form) ⟨by have := Ent.form_len (hm e (by simp)); omega⟩).2
      rw [lf_cons, List.length_append, List.length_cons]; omega
  have := this es h2
  rw [List.length_append]; omega
/-- No entry stands here. -/
def NoEnt (l : List Nat) : Prop := ∀ e rest, Ent.may e = true → l ≠ bytesForm e.form ++ rest
theorem AllEnt.no {b mid rest : List Nat} {xs es : List Ent} {m : Nat} (hb : Begins b m mid) (ha : AllEnt mid xs rest) (hlt : xs.length < m) (hno : NoEnt rest) : ¬ IsL b es := by
  intro h
  obtain ⟨e1, e2⟩ := h.begins.unique hb
  obtain ⟨h1, h2⟩ := ha
  obtain ⟨t, ht, hr⟩ := lf_front (r := []) h2 h.2.1 (by omega) (by rw [List.append_nil, e2, h1])
  cases t with
  | nil => rw [ht] at e1; simp at e1; omega
  | cons e t =>
    rw [lf_cons, List.append_assoc] at hr
    exact hno e _ (h.2.1 e (by rw [ht]; simp)) hr
theorem AllEnt.is {b mid : List Nat} {xs : List Ent} (hb : Begins b xs.length mid) (hl : xs.length ≤ 65536) (ha : AllEnt mid xs []) : IsL b xs := by
  refine ⟨hl, ha.2, ?_⟩
  have h1 := ha.1
  rw [List.append_nil] at h1
  unfold lform
  rw [← h1, hb.eq]
theorem AllEnt.rest {b mid rest : List Nat} {xs es : List Ent} (hb : Begins b xs.length mid) (ha : AllEnt mid xs rest) (h : IsL b es) : rest = [] := by
  obtain ⟨e1, e2⟩ := h.begins.unique hb
  obtain ⟨t, ht, hr⟩ := lf_front (r := []) ha.2 h.2.1 (by omega) (by rw [List.append_nil, e2, ha.1])
  have : t = [] := List.eq_nil_of_length_eq_zero (by have := congrArg List.length ht; simp at this; omega)
  subst this
  simpa [lf] using hr

/-! Rows of the call's own -/

/-- A row of entries, all of them the call's own. -/
structure Got (B : Nat) (v : Value) (R : List (Ent × Hd)) (w : World) : Prop where
  row : w.ownsRow B 25 4 v R.length (erow R)
  each : ∀ p ∈ R, Mine B p w
theorem Got.nil (B : Nat) (w : World) : Got B (.slice none 0 0) [] w := ⟨World.ownsRow_nil _ _ _ _, fun p hp => by cases hp⟩
theorem Got.base {B B' : Nat} {v : Value} {R : List (Ent × Hd)} {w : World} (h : Got B v R w) (hB : B' ≤ B) : Got B' v R w := ⟨rowN_base h.row hB, fun p hp => (h.each p hp).base hB⟩
theorem Got.kept {B : Nat} {v : Value} {R : List (Ent × Hd)} {w w' : World} (h : Got B v R w) (hk : ∀ g, B ≤ g → g < w.heap.size → w'.heap[g]? = w.heap[g]?) : Got B v R w' := by
  refine ⟨rowN_kept h.row fun g hg => hk g (rowN_lt h.row g hg).1 (rowN_lt h.row g hg).2.1, fun p hp => ?_⟩
  have hm := h.each p hp
  exact ⟨row_kept hm.k fun g hg => hk g (row_lt hm.k g hg).1 (row_lt hm.k g hg).2, row_kept hm.v fun g hg => hk g (row_lt hm.v g hg).1 (row_lt hm.v g hg).2, hm.good⟩
theorem Got.below {B : Nat} {v : Value} {R : List (Ent × Hd)} {w w' : World} (h : Got B v R w) (hx : Ext w w') : Got B v R w' := h.kept fun g _ hg => hx.block g hg
theorem Got.grown {B r : Nat} {v : Value} {R : List (Ent × Hd)} {w w' : World} (h : Got B v R w) (hg : w.grownBy w' (some r)) (hr : r < B) : Got B v R w' := h.kept fun g h1 h2 => hg.block g h2 (fun e => by injection e with e; omega)
theorem Got.slice {B : Nat} {v : Value} {R : List (Ent × Hd)} {w : World} (h : Got B v R w) : ∃ A c, v = .slice A R.length c := rowN_slice h.row

/-- 'append(l, e)'. -/
theorem wpList_pushent {ops : Array Oper} {rest : List Oper} {o : Oper} {a : Act} {Q : Exit → Act → World → Prop} {u : World} (hgd : o.guard = none) (s x : Operand)
    (ho : o.op = .call { callee := .builtin .append, args := #[s, x], argTypes := #[44, 44] }) (B : Nat) (v : Value) (R : List (Ent × Hd)) (hs : a.eval s = v) (hgot : Got B v R u)
    (p : Ent × Hd) (gb : Nat) (hx : a.eval x = .slice (some ⟨gb, 0, none⟩) 1 1) (hblk : u.heap[gb]? = some (.cells (ecells p).toArray 25 (0, 0))) (hp : Mine B p u) (hlen : R.length ≤ 1000000000000) (hB : B ≤ u.heap.size)
    (h : ∀ A' c' w', Got B (.slice A' (R.length + 1) c') (R ++ [p]) w' → (∀ w0, Below B w0 u → Below B w0 w') → wpList Try.prog ops Q rest (a.put o.dst (.slice A' (R.length + 1) c')) w') :
    wpList Try.prog ops Q (o :: rest) a u := by
  obtain ⟨i0, hi0', ix0, ix1, ix2⟩ := info_parts einfo
  refine wpList_append_own _ hgd s x 44 ho B 25 i0 _ 4 64 Try.underlying44 hi0' ix0 ix1 ix2 rfl (by decide) v R.length (erow R) hs hgot.row ⟨gb, 0, none⟩ 1 1 (ecells p) hx rfl (fun j q hj => ?n1) (fun q hq => ?n2) ?n3 ?n4 hB (fun v' w5 ho hgr _ => ?rest)
  case n1 => rw [addr_add, Nat.zero_add]; exact cell_of hblk (by simpa using hj)
  case n2 => exact erow_one [p] q (by simpa [erow] using hq)
  case n3 => unfold maxLen; omega
  case n4 => omega
  case rest =>
    have hlt := rowN_lt hgot.row
    have hke : ∀ q : Ent × Hd, Mine B q u → Mine B q w5 := fun q hq => by
      have hk : ∀ {l : List Nat} {x : Value}, Own B l x u → Own B l x w5 := fun hx => row_kept hx fun g' hg' => hgr.block g' (row_lt hx g' hg').2 (fun e => rows_apart hx hgot.row (by decide) hg' e.symm)
      exact ⟨hk hq.k, hk hq.v, hq.good⟩
    have hgot' : Got B v' (R ++ [p]) w5 := by
      refine ⟨by rw [List.length_append, erow_append]; simpa [erow] using ho, fun q hq => ?_⟩
      rcases List.mem_append.1 hq with hq | hq
      · exact hke q (hgot.each q hq)
      · rw [List.mem_singleton] at hq; subst hq; exact hke q hp
    obtain ⟨A', c', rfl⟩ := rowN_slice ho
    exact h A' c' w5 hgot' (fun w0 hb => hb.grown hgr hB fun k hk => (hlt k hk).1)

/-! One entry of a list -/

/-- What the reader of one entry answers. -/
def OnePost (w : World) (r lo hi : Nat) (l : List Nat) (x : Ending) (w' : World) : Prop :=
  (∃ (p : Ent × Hd) (rest : List Nat), p.1.may = true ∧ l = bytesForm p.1.form ++ rest ∧ x = .returned (.tuple #[p.1.at_ p.2, .int .i64 0]) ∧ Mine w.heap.size p w' ∧ Rd w' r lo hi rest ∧ w.grownBy w' (some r)) ∨
  (∃ n : Int, NoEnt l ∧ n ≠ 0 ∧ x = .returned (.tuple #[noE, .int .i64 n]) ∧ w.grownBy w' (some r))

set_option maxRecDepth 100000 in
set_option maxHeartbeats 4000000 in
theorem one_any {r lo hi : Nat} {l : List Nat} {w : World} (h : Rd w r lo hi l) (hl : l.length ≤ 1000000000000) :
    Calls Try.prog 63 #[.pointer (some ⟨r, 0, none⟩)] w (OnePost w r lo hi l) := by
  obtain ⟨w1, hw1⟩ : ∃ w1, w1 = w.alloc (.cells #[.slice none 0 0, .int .i64 0, .int .i64 0, .slice none 0 0] 25) := ⟨_, rfl⟩
  have HX1 : Hid (Ext w w1) := by rw [hw1]; exact ext_alloc _ _
  have HZ1 : Hid (w1.heap.size = w.heap.size + 1) := by rw [hw1]; simp [Hid]
  have HR1 : Hid (w1.heap[w.heap.size]? = some (.cells #[.slice none 0 0, .int .i64 0, .int .i64 0, .slice none 0 0] 25 (0, 0))) := by rw [hw1]; exact heap_at _ _ rfl
  have HRD := Lib.hid (h.below HX1.out h.top h.lt)
  have HLT := Lib.hid h.lt
  have HTOP := Lib.hid h.top
  have HBYT := Lib.hid h.byt
  have HL := Lib.hid hl
  clear h hl
  go_enter Try.func63, Try.ntmps63
  go_wp2_with fail
  rw [← hw1]
  clear hw1
  refine (left_any _ _ _ _ _ HRD.out).mono ?_
  rintro x _ ⟨rfl, rfl⟩
  go_wp2_with fail
  refine (Bytes_own HRD.out HL.out (by omega) (by have := HL.out; omega)).mono ?_
  rintro x w2 ⟨kA, kc, kb, k, rest, ho, hown, rfl, hrd, hg⟩
  have HO := Lib.hid ho
  have HK := Lib.hid hown
  have HRD2 := Lib.hid hrd
  have HG : Hid (w.grownBy w2 (some r)) := ⟨hg.os.trans HX1.out.os, hg.tape.trans HX1.out.tape, hg.output.trans HX1.out.output, Nat.le_trans HX1.out.size hg.size, fun i hi hne => (hg.block i (Nat.lt_of_lt_of_le hi HX1.out.size) hne).trans (HX1.out.block i hi)⟩
  have HR2 : Hid (w2.heap[w.heap.size]? = some (.cells #[.slice none 0 0, .int .i64 0, .int .i64 0, .slice none 0 0] 25 (0, 0))) := (hg.block _ (by have := HZ1.out; omega) (fun e => by injection e with e; have := HLT.out; omega)).trans HR1.out
  have HS2 : Hid (w1.heap.size ≤ w2.heap.size) := hg.size
  clear ho hown hrd hg
  by_cases hk : k = 0
  · subst hk
    have HRA := Lib.hid (read_any HK.out.bs (Nat.le_refl _) (fun x hx => HBYT.out x (HO.out.len.2.2 x hx)) (by have := HO.out.len.1; have := HL.out; omega))
    go_wp2_with fail
    refine HRA.out.mono ?_
    rintro x w3 ⟨hx3, hans⟩
    have HX3 := Lib.hid hx3
    have HR3 := Lib.hid (ext_heap hx3 HR2.out)
    have HEQ : Hid (l = bytesForm kb ++ rest) := by
      rcases HO.out with ⟨_, _, _, h⟩ | ⟨h, _⟩
      · exact h
      · exact absurd rfl h
    have hb3 := HR3.out
    have q0 := cell_of hb3 (k := 0) rfl
    have q1 := cell_of hb3 (k := 1) rfl
    have q2 := cell_of hb3 (k := 2) rfl
    have q3 := cell_of hb3 (k := 3) rfl
    have z0 := frozen_four hb3 (j := 0)
    have z1 := frozen_four hb3 (j := 1)
    have z2 := frozen_four hb3 (j := 2)
    have z3 := frozen_four hb3 (j := 3)
    have HNE : Hid (∀ w' : World, Below w.heap.size w3 w' → Below w.heap.size w2 w') := fun w' hb => Below.trans (hx3.mono (by have := HG.out.size; exact this)) hb
    clear hx3 hb3
    rcases hans with ⟨e, g, hi, rfl, h1, h2⟩ | ⟨hn, rfl⟩
    · have HI := Lib.hid hi
      have H1 := Lib.hid h1
      have H2 := Lib.hid h2
      clear hi h1 h2
      unfold Ent.at_
      go_wp2_with fail
      refine entry_ret (p := 2) (q := 3) (by kernel_rfl) rfl rfl rfl (set_four HR3.out) ?_
      have hn : w.heap.size < w2.heap.size := by have := HZ1.out; have := HS2.out; omega
      have hbel := HNE.out _ (Below.setCell (Below.setCell (Below.setCell (Below.setCell (Below.refl w.heap.size w3) (Nat.le_refl _) (.slice g.kA e.key.length g.kc) (p := ⟨w.heap.size, 0, none⟩)) (Nat.le_refl _) (.int .i64 e.seq) (p := ⟨w.heap.size, 1, none⟩)) (Nat.le_refl _) (.int .i64 e.kind) (p := ⟨w.heap.size, 2, none⟩)) (Nat.le_refl _) (.slice g.vA e.val.length g.vc) (p := ⟨w.heap.size, 3, none⟩))
      refine .inl ⟨(e, g), rest, HI.out.1, by rw [HEQ.out, HI.out.2], rfl, ⟨?_, ?_, Good.of_is HI.out (fun x hx => HBYT.out x (HO.out.len.2.2 x hx))⟩, HRD2.out.below hbel HTOP.out HLT.out, grownBy_below HG.out hbel⟩
      · exact ((((H1.out.far hn).far hn).far hn).far hn).base (Nat.le_of_lt hn)
      · exact ((((H2.out.far hn).far hn).far hn).far hn).base (Nat.le_of_lt hn)
    · have HN := Lib.hid hn
      clear hn
      unfold noE
      go_wp2_with fail
      refine entry_ret (p := 2) (q := 3) (by kernel_rfl) rfl rfl rfl (set_four HR3.out) ?_
      have hbel := HNE.out _ (Below.setCell (Below.setCell (Below.setCell (Below.setCell (Below.refl w.heap.size w3) (Nat.le_refl _) (.slice none 0 0) (p := ⟨w.heap.size, 0, none⟩)) (Nat.le_refl _) (.int .i64 0) (p := ⟨w.heap.size, 1, none⟩)) (Nat.le_refl _) (.int .i64 0) (p := ⟨w.heap.size, 2, none⟩)) (Nat.le_refl _) (.slice none 0 0) (p := ⟨w.heap.size, 3, none⟩))
      refine .inr ⟨4, fun e r' hm he => ?_, by decide, rfl, grownBy_below HG.out hbel⟩
      have hlen := Ent.form_len hm
      obtain ⟨e1, _, _⟩ := HO.out.same (.inl ⟨rfl, by rw [he]; have := (bytesForm_len (l := e.form) ⟨by omega⟩).2; rw [List.length_append]; omega, ⟨by omega⟩, he⟩)
      exact HN.out e ⟨hm, e1.symm⟩
  · have hk1 : (k != 0) = true := by simpa using hk
    have HKN := Lib.hid hk
    have hb3 := HR2.out
    have q0 := cell_of hb3 (k := 0) rfl
    have q1 := cell_of hb3 (k := 1) rfl
    have q2 := cell_of hb3 (k := 2) rfl
    have q3 := cell_of hb3 (k := 3) rfl
    have z0 := frozen_four hb3 (j := 0)
    have z1 := frozen_four hb3 (j := 1)
    have z2 := frozen_four hb3 (j := 2)
    have z3 := frozen_four hb3 (j := 3)
    clear hk hb3
    go_wp2_with fail
    refine entry_ret (p := 2) (q := 3) (by kernel_rfl) rfl rfl rfl (set_four HR2.out) ?_
    have hbel := Below.setCell (Below.setCell (Below.setCell (Below.setCell (Below.refl w.heap.size w2) (Nat.le_refl _) (.slice none 0 0) (p := ⟨w.heap.size, 0, none⟩)) (Nat.le_refl _) (.int .i64 0) (p := ⟨w.heap.size, 1, none⟩)) (Nat.le_refl _) (.int .i64 0) (p := ⟨w.heap.size, 2, none⟩)) (Nat.le_refl _) (.slice none 0 0) (p := ⟨w.heap.size, 3, none⟩)
    refine .inr ⟨k, fun e r' hm he => ?_, HKN.out, rfl, grownBy_below HG.out hbel⟩
    have hlen := Ent.form_len hm
    obtain ⟨_, e2, _⟩ := HO.out.same (.inl ⟨rfl, by rw [he]; have := (bytesForm_len (l := e.form) ⟨by omega⟩).2; rw [List.length_append]; omega, ⟨by omega⟩, he⟩)
    exact HKN.out e2

/-! Lists -/

def OkEnts (B : Nat) (most : Int) (l : List Nat) (v : Value) (rest : List Nat) (w : World) : Prop :=
  ∃ (R : List (Ent × Hd)) (mid : List Nat), Begins l R.length mid ∧ (R.length : Int) ≤ most ∧ AllEnt mid (R.map Prod.fst) rest ∧ Got B v R w
def ErrEnts (most : Int) (l : List Nat) (n : Int) : Prop := ErrCount most l n ∨ ∃ m mid, Begins l m mid ∧ (m : Int) ≤ most ∧ ∃ es rest, List.length es < m ∧ AllEnt mid es rest ∧ NoEnt rest
theorem holds_ents (B : Nat) (most : Int) (l : List Nat) (B' : Nat) (h : B' ≤ B) : Holds2 (OkEnts B most l) B' := by
  rintro v rest w b o u ⟨R, mid, h1, h2, h3, h4⟩ hb
  exact ⟨R, mid, h1, h2, h3, h4.kept fun g hg _ => Below.heap_setCell _ _ _ _ (by show g ≠ b; omega)⟩
theorem enters_lists1 : ∀ args w, (callFunc 63 args).run Try.prog w = .ok (.enter 63 args) w := enters_of Try.func63 (by kernel_rfl) rfl

set_option maxRecDepth 100000 in
set_option maxHeartbeats 4000000 in
theorem things_any (most : Int) (hm1 : -9223372036854775808 ≤ most) (hm2 : most ≤ 9223372036854775807) (r lo hi : Nat) (l : List Nat) (w : World) (h : Rd w r lo hi l) (hl : l.length ≤ 1000000000000) :
    Calls Try.prog 84 #[.pointer (some ⟨r, 0, none⟩), .int .i64 most, .func (.func 63) #[] #[]] w (LoosePost (OkEnts w.heap.size most l) (ErrEnts most l) w r lo hi) := by
  have HC := Lib.hid (count_loose most hm1 hm2 r lo hi l w h)
  have HL := Lib.hid hl
  have HR0 := Lib.hid h
  clear h hm1 hm2 hl
  go_enter Try.func84, Try.ntmps84
  go_wp2_with fail
  refine Calls.mono HC.out ?_
  rintro e w1 (⟨v, mid, ⟨n, hb, hle, rfl⟩, rfl, hr, hg⟩ | ⟨v, n, hn, hn0, rfl, hg⟩)
  · have hlr : mid.length ≤ l.length := by have := congrArg List.length hb.eq; simp at this; omega
    have HB := Lib.hid hb
    have HLE := Lib.hid hle
    have HML := Lib.hid hlr
    have HR1 := Lib.hid hr
    have HG1 := Lib.hid hg
    clear hb hle hlr hr hg
    go_wp2_with fail
    go_loopw [10, 11, 12, 23] (fun v _ _ i wr => ∃ (R : List (Ent × Hd)) (rest : List Nat), R.length ≤ n ∧ i = .int .u64 (R.length : Int) ∧ AllEnt mid (R.map Prod.fst) rest ∧ Rd wr r lo hi rest ∧ Got w.heap.size v R wr ∧ w.grownBy wr (some r)) (fun _ _ _ i _ => n - (intOf i).toNat)
    case atStart => exact ⟨[], mid, Nat.zero_le _, rfl, ⟨rfl, by simp⟩, HR1.out, Got.nil _ _, HG1.out⟩
    case round =>
      obtain ⟨R, rest, hk, rfl, hall, hrd, hgot, hg⟩ := hrel
      have HRD := Lib.hid hrd
      have HO := Lib.hid hgot
      have HG := Lib.hid hg
      have HA := Lib.hid hall
      have HLR : Hid (R.length + rest.length ≤ 1000000000000) := by
        have := hall.len; have h2 := HML.out; have h3 := HL.out; rw [List.length_map] at this; unfold Hid; omega
      clear hrd hgot hg hall
      by_cases hlt : R.length < n
      · have hd : decide (R.length < n) = true := by simp [hlt]
        have hd2 : decide ((R.length : Int) < (n : Int)) = true := by simp; omega
        have hI : (R.length : Int) + 1 ≤ 18446744073709551615 := by have := HLR.out; omega
        have hen := enters_lists1
        have HLTT := Lib.hid hlt
        go_wp2_with fail
        refine (one_any HRD.out (by have := HLR.out; omega)).mono ?_
        rintro e w2 (⟨p, rest', hmay, heq, rfl, hmine, hrd2, hg2⟩ | ⟨k, hno, hk0, rfl, hg2⟩)
        · have HRD2 := Lib.hid hrd2
          have HG2 := Lib.hid (grownBy_trans HG.out hg2)
          have HO2 := Lib.hid (HO.out.grown hg2 HR0.out.lt)
          have HMI : Hid (Mine w.heap.size p w2) := hmine.base HG.out.size
          have HALL : Hid (AllEnt mid ((R ++ [p]).map Prod.fst) rest') := by rw [List.map_append]; exact HA.out.snoc hmay heq
          clear hrd2 hg2 hmine hmay heq hen
          unfold Ent.at_
          go_upto_region 8 with (fail)
          obtain ⟨w4, hw4⟩ : ∃ w4, w4 = w2.alloc (.cells #[.slice p.2.kA p.1.key.length p.2.kc, .int .i64 p.1.seq, .int .i64 p.1.kind, .slice p.2.vA p.1.val.length p.2.vc] 25) := ⟨_, rfl⟩
          rw [← hw4]
          have HX4 : Hid (Ext w2 w4) := by rw [hw4]; exact ext_alloc _ _
          have HB4 : Hid (w4.heap[w2.heap.size]? = some (.cells #[.slice p.2.kA p.1.key.length p.2.kc, .int .i64 p.1.seq, .int .i64 p.1.kind, .slice p.2.vA p.1.val.length p.2.vc] 25 (0, 0))) := by rw [hw4]; exact heap_at _ _ rfl
          have c0 := cell_of HB4.out (k := 0) rfl
          have c1 := cell_of HB4.out (k := 1) rfl
          have c2 := cell_of HB4.out (k := 2) rfl
          have c3 := cell_of HB4.out (k := 3) rfl
          clear hw4
          go_wp2_with (at_builtin; refine wpList_pushent rfl (.tmp 34) (.tmp 36) rfl w.heap.size _ R rfl ((HO2.out.below HX4.out).below (ext_alloc _ _)) p w4.heap.size rfl ?blk ((HMI.out.below HX4.out).below (ext_alloc _ _)) ?len ?hB ?_)
          case blk => exact heap_at _ _ rfl
          case len => have := HLR.out; omega
          case hB => exact Nat.le_trans (Nat.le_trans HG2.out.size HX4.out.size) (ext_alloc _ _).size
          intro A3 c3' w3 hgot3 hb3
          have HBB : Hid (Below w.heap.size w2 w3) := hb3 _ (Below.alloc (HX4.out.mono HG2.out.size) (Nat.le_trans HG2.out.size HX4.out.size) _)
          have HO4 := Lib.hid hgot3
          clear hgot3 hb3 c0 c1 c2 c3
          go_wp2_with fail
          refine ⟨⟨R ++ [p], rest', by simp; have := HLTT.out; omega, by simp, HALL.out, HRD2.out.below HBB.out HR0.out.top HR0.out.lt, HO4.out, grownBy_below HG2.out HBB.out⟩, by have := HLTT.out; simp [intOf]; omega⟩
        · have HF : Hid (LoosePost (OkEnts w.heap.size most l) (ErrEnts most l) w r lo hi (.returned (.tuple #[.slice none 0 0, .int .i64 k])) (w2.alloc (.cells #[.slice none 0 0, .int .i64 0, .int .i64 0, .slice none 0 0] 25))) :=
            .inr ⟨_, k, .inr ⟨n, mid, HB.out, HLE.out, R.map Prod.fst, rest, by rw [List.length_map]; exact hlt, HA.out, hno⟩, hk0, rfl, grownBy_below (grownBy_trans HG.out hg2) (Below.alloc (Below.refl _ _) (grownBy_trans HG.out hg2).size _)⟩
          have hk1 : (k != 0) = true := by simpa using hk0
          clear hg2 hno hk0 hen
          unfold noE
          go_wp2_with fail
          go_ret2
          exact HF.out
      · have hd : decide (R.length < n) = false := by simp; omega
        have hd2 : decide ((R.length : Int) < (n : Int)) = false := by simp; omega
        have hn : n = R.length := by omega
        have HF : Hid (LoosePost (OkEnts w.heap.size most l) (ErrEnts most l) w r lo hi (.returned (.tuple #[u10, .int .i64 0])) wr) :=
          .inl ⟨_, rest, ⟨R, mid, by rw [← hn]; exact HB.out, by rw [← hn]; exact HLE.out, HA.out, HO.out⟩, rfl, HRD.out, HG.out⟩
        clear hn hlt
        go_wp2_with fail
        go_ret2
        exact HF.out
  · have HF : Hid (LoosePost (OkEnts w.heap.size most l) (ErrEnts most l) w r lo hi (.returned (.tuple #[.slice none 0 0, .int .i64 n])) w1) := .inr ⟨_, n, .inl hn, hn0, rfl, hg⟩
    have hn0' : (n != 0) = true := by simpa using hn0
    clear hn hg hn0
    go_wp2_with fail
    go_ret2
    exact HF.out

set_option maxHeartbeats 1000000 in
theorem whole_ents (p : Nat) (q : Nat) (ok : Value → List Nat → World → Prop) (err : Int → Prop) (r lo hi : Nat) (l : List Nat) (w : World) (h : Rd w r lo hi l) (hok : Holds2 ok w.heap.size)
    (hread : ∀ v, Rd ((w.alloc (.cells #[v, .bool true] 96)).alloc (.cells #[v, .bool true] 96)) (w.heap.size + 1) lo hi l →
      Calls Try.prog 83 #[.pointer (some ⟨w.heap.size + 1, 0, none⟩), .pointer (some ⟨p, 0, none⟩), .pointer (some ⟨q, 0, none⟩)] ((w.alloc (.cells #[v, .bool true] 96)).alloc (.cells #[v, .bool true] 96))
        (LoosePost ok err ((w.alloc (.cells #[v, .bool true] 96)).alloc (.cells #[v, .bool true] 96)) (w.heap.size + 1) lo hi)) :
    Calls Try.prog 82 #[.pointer (some ⟨r, 0, none⟩), .func (.func 83) #[] #[.pointer (some ⟨p, 0, none⟩), .pointer (some ⟨q, 0, none⟩)]] w (WholePost (.slice none 0 0) ok err w r lo hi l) := by
  obtain ⟨v, h1, hB⟩ := h.ex
  have hB' := hB
  obtain ⟨A, c, rfl, hlc, hcm, hnil, hby⟩ := hB
  have HC := Lib.hid (hread _ (rd_copy h h1))
  have HO := Lib.hid hok
  have c0 := h1.c0
  have c1 := h1.c1
  have f0 := h1.f0
  have f1 := h1.f1
  have hr := h1.lt
  have H1 := Lib.hid h1
  have HR := Lib.hid h
  have HB := Lib.hid hB'
  clear h h1 hlc hcm hnil hby hread hB' hok
  go_enter Try.func82, Try.ntmps82
  go_wp2_with fail
  refine (none_open _ _ _ _ H1.out).mono ?_
  rintro e w1 ⟨rfl, rfl⟩
  go_wp2_with fail
  refine Calls.mono HC.out ?_
  rintro e w1 (⟨v1, rest, hv, rfl, hrd, hg⟩ | ⟨v1, n, hn, hn0, rfl, hg⟩)
  · have hr1 : RObj w1 r (.slice A l.length c) true := ((H1.out.alloc _).alloc _).grown hg (by intro h; injection h with h; omega)
    obtain ⟨v2, h2, hB2⟩ := hrd.ex
    have ap := HR.out.apart
    have hsz : w.heap.size < w1.heap.size := by have := hg.size; simp at this; omega
    have hfin : WholePost (.slice none 0 0) ok err w r lo hi l (.returned (.tuple #[v1, .int .i64 0])) ((w1.setCell ⟨r, 0, none⟩ v2).setCell ⟨r, 1, none⟩ (.bool true)) := by
      refine .inl ⟨v1, rest, HO.out _ _ _ _ _ _ (HO.out _ _ _ _ _ _ hv hr) hr, rfl, ⟨⟨v2, (hr1.set v2).set1 true, (hB2.setCell (by simpa using ap) _).setCell (by simpa using ap) _⟩, ap, ?_, hrd.byt⟩, grown_two r v2 (.bool true) hr hg⟩
      have := HR.out.top
      simp [World.setCell]; omega
    have HF := Lib.hid hfin
    have d0 := h2.c0
    have d1 := h2.c1
    have e0 := hr1.c0
    have e1 := hr1.c1
    have g0 := hr1.f0
    have g1 := hr1.f1
    obtain ⟨A2, c2, rfl, _, _, _, _⟩ := hB2
    clear hfin hr1 hrd h2 hv
    go_wp2_with fail
    go_ret2
    exact HF.out
  · have hr1 : RObj w1 r (.slice A l.length c) true := ((H1.out.alloc _).alloc _).grown hg (by intro h; injection h with h; omega)
    have hw1 : RObj w1 w.heap.size (.slice A l.length c) true := ((RObj.new w _ _).alloc _).grown hg (by intro h; injection h with h; omega)
    have ap := HR.out.apart
    have top := HR.out.top
    have hsz : w.heap.size < w1.heap.size := by have := hg.size; simp at this; omega
    have hB1 : Bs w1 lo hi (.slice A l.length c) l := ((HB.out.alloc top _).alloc (by simp; omega) _).grown hg (by simp; omega) (fun k hk => by injection hk with hk; omega)
    have hfin : WholePost (.slice none 0 0) ok err w r lo hi l (.returned (.tuple #[(.slice none 0 0), .int .i64 n])) ((w1.setCell ⟨r, 0, none⟩ (.slice A l.length c)).setCell ⟨r, 1, none⟩ (.bool true)) := by
      refine .inr ⟨n, hn, hn0, rfl, ⟨⟨_, (hr1.set _).set1 true, (hB1.setCell (by simpa using ap) _).setCell (by simpa using ap) _⟩, ap, ?_, HR.out.byt⟩, grown_two r _ (.bool true) hr hg⟩
      simp [World.setCell]; omega
    have HF := Lib.hid hfin
    have d0 := hw1.c0
    have d1 := hw1.c1
    have e0 := hr1.c0
    have e1 := hr1.c1
    have g0 := hr1.f0
    have g1 := hr1.f1
    have hn0' : (n != 0) = true := by simpa using hn0
    clear hfin hr1 hw1 hB1
    go_wp2_with fail
    go_ret2
    exact HF.out

set_option maxHeartbeats 400000 in
theorem takes_clo (p q : Nat) (most : Int) (hm1 : -9223372036854775808 ≤ most) (hm2 : most ≤ 9223372036854775807) (r lo hi : Nat) (l : List Nat) (w : World) (h : Rd w r lo hi l) (hl : l.length ≤ 1000000000000)
    (hp : w.cell? ⟨p, 0, none⟩ = some (.int .i64 most)) (hq : w.cell? ⟨q, 0, none⟩ = some (.func (.func 63) #[] #[])) :
    Calls Try.prog 83 #[.pointer (some ⟨r, 0, none⟩), .pointer (some ⟨p, 0, none⟩), .pointer (some ⟨q, 0, none⟩)] w (LoosePost (OkEnts w.heap.size most l) (ErrEnts most l) w r lo hi) := by
  have HC := Lib.hid (things_any most hm1 hm2 r lo hi l w h hl)
  clear h hl hm1 hm2
  go_enter Try.func83, Try.ntmps83
  go_wp2_with fail
  refine Calls.mono HC.out ?_
  rintro e w1 (⟨v1, rest, hv, rfl, hrd, hg⟩ | ⟨v1, n, hn, hn0, rfl, hg⟩)
  · have HF : Hid (LoosePost (OkEnts w.heap.size most l) (ErrEnts most l) w r lo hi (.returned (.tuple #[v1, .int .i64 0])) w1) := .inl ⟨v1, rest, hv, rfl, hrd, hg⟩
    clear hv hrd hg
    go_wp2_with fail
    go_ret2
    exact HF.out
  · have HF : Hid (LoosePost (OkEnts w.heap.size most l) (ErrEnts most l) w r lo hi (.returned (.tuple #[v1, .int .i64 n])) w1) := .inr ⟨v1, n, hn, hn0, rfl, hg⟩
    clear hn hn0 hg
    go_wp2_with fail
    go_ret2
    exact HF.out

theorem take_nil (w : World) : (binOp .eql 83 (.func (.func 63) #[] #[]) .nilFunc).run Try.prog w = .ok (.bool false) w := by kernel_rfl

set_option maxHeartbeats 400000 in
theorem takes_any (most : Int) (hm1 : -9223372036854775808 ≤ most) (hm2 : most ≤ 9223372036854775807) (r lo hi : Nat) (l : List Nat) (w : World) (h : Rd w r lo hi l) (hl : l.length ≤ 1000000000000) :
    Calls Try.prog 62 #[.pointer (some ⟨r, 0, none⟩), .int .i64 most, .func (.func 63) #[] #[]] w (WholePost (.slice none 0 0) (OkEnts w.heap.size most l) (ErrEnts most l) w r lo hi l) := by
  have hmf := mkf
  have hfn := take_nil
  have HC := Lib.hid (whole_ents w.heap.size (w.heap.size + 1) (OkEnts (w.heap.size + 4) most l) (ErrEnts most l) r lo hi l ((w.alloc (.cells #[.int .i64 most] 3)).alloc (.cells #[.func (.func 63) #[] #[]] 83)) ((h.alloc _).alloc _)
    (holds_ents _ _ _ _ (by simp)) (fun v hv => by
      have hc := takes_clo w.heap.size (w.heap.size + 1) most hm1 hm2 _ lo hi l _ hv hl
        (by rw [World.cell?_alloc_past _ _ _ (by simp; omega), World.cell?_alloc_past _ _ _ (by simp; omega), World.cell?_alloc_past _ _ _ (by simp), World.cell?_alloc_at _ _ _ _ rfl]; rfl)
        (by rw [World.cell?_alloc_past _ _ _ (by simp), World.cell?_alloc_past _ _ _ (by simp), World.cell?_alloc_at _ _ _ _ (by simp)]; rfl)
      simpa using hc))
  clear h hm1 hm2 hl
  go_enter Try.func62, Try.ntmps62
  go_wp2_with fail
  refine Calls.mono HC.out ?_
  intro e w1 hpost
  have hpost := WholePost.weaken (ok' := OkEnts w.heap.size most l) (err' := ErrEnts most l) (w := w)
    (fun v rest w' => by rintro ⟨xs, mid, h1, h2, h3, h4⟩; exact ⟨xs, mid, h1, h2, h3, h4.base (by omega)⟩) (fun _ h => h) (fun w' hg => grown_alloc (grown_alloc hg)) hpost
  have HP := Lib.hid hpost
  rcases hpost with ⟨v1, rest, _, rfl, _, _⟩ | ⟨n, _, _, rfl, _, _⟩
  · go_wp2_with fail
    go_ret2
    exact HP.out
  · go_wp2_with fail
    go_ret2
    exact HP.out

end Go.Proofs.Ytfalpagimmaipaa
