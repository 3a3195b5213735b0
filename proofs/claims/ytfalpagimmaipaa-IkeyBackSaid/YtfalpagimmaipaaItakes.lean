/- Lists of entries: what ikey's Lists and the reference's answer. -/
import Derived.Test.YtfalpagimmaipaaItake
import Derived.Test.YtfalpagimmaipaaIrread
import Derived.Maps.AppendAt
namespace Go.Proofs.Ytfalpagimmaipaa
open Go.ChangeShapes Go.WideShapes Go.ChangeAt Go.RowKit

/-- What Lists answers. -/
def ListsAns (w : World) (b : List Nat) (x : Ending) (w' : World) : Prop :=
  Ext w w' ∧ ((∃ (R : List (Ent × Hd)) (v : Value), IsL b (R.map Prod.fst) ∧ x = .returned (.tuple #[v, .int .i64 0]) ∧ Got w.heap.size v R w') ∨ ((∀ es, ¬ IsL b es) ∧ x = .returned (.tuple #[.slice none 0 0, .int .i64 4])))

theorem ErrEnts.no {b : List Nat} {n : Int} {es : List Ent} (h : ErrEnts 65536 b n) : ¬ IsL b es := by
  intro hl
  rcases h with (⟨_, h⟩ | ⟨_, _, h⟩ | ⟨_, _, m, rest, hb, hm⟩) | ⟨m, mid, hb, _, xs, rest, hlt, ha, hno⟩
  · omega
  · exact h _ _ hl.begins
  · have := (hl.begins.unique hb).1; have := hl.1; omega
  · exact ha.no hb hlt hno hl

set_option maxRecDepth 100000 in
set_option maxHeartbeats 4000000 in
theorem elists_any {w : World} {lo hi : Nat} {v : Value} {b : List Nat} (hv : Bs w lo hi v b) (hhi : hi ≤ w.heap.size) (hb : ∀ x ∈ b, x < 256) (hl : b.length ≤ 1000000000000) : Calls Try.prog 31 #[v] w (ListsAns w b) := by
  have HO := Lib.hid (open_any v lo hi b w hv hhi hl hb)
  have HL := Lib.hid hl
  obtain ⟨A, c, rfl, _, _, _, _⟩ := hv
  clear hhi hb hl
  go_enter Try.func31, Try.ntmps31
  go_wp2_with fail
  refine Calls.mono HO.out ?_
  rintro x w2 ⟨r, rlo, rhi, rfl, hrd, hr, hlo, hb2⟩
  have HX2 : Hid (Ext w w2) := hb2
  have HR := Lib.hid hr
  have HT := Lib.hid (takes_any 65536 (by decide) (by decide) r rlo rhi b w2 hrd HL.out)
  clear hrd hr hlo hb2
  go_wp2_with fail
  refine HT.out.mono ?_
  rintro x w3 (⟨v, rest, ⟨R, mid, h1, h2, h3, h4⟩, rfl, hrd, hg⟩ | ⟨n, herr, hn, rfl, hrd, hg⟩)
  · have HX3 : Hid (Ext w w3) := Below.trans HX2.out ((Below.refl _ _).grown hg HX2.out.size (fun k hk => by injection hk with hk; have := HR.out; omega))
    have HGOT : Hid (Got w.heap.size v R w3) := h4.base HX2.out.size
    have HEND := Lib.hid (end_any _ _ _ _ _ hrd)
    have HB := Lib.hid h1
    have HA := Lib.hid h3
    have HM : Hid (R.length ≤ 65536) := by unfold Hid; omega
    clear hrd hg h1 h2 h3 h4
    by_cases hr0 : rest = []
    · subst hr0
      have he : endErr [] = 0 := rfl
      rw [he] at HEND
      clear he
      go_wp2_with fail
      refine HEND.out.mono ?_
      rintro x _ ⟨rfl, rfl⟩
      go_wp2_with fail
      go_ret2
      refine ⟨HX3.out, .inl ⟨R, _, AllEnt.is (xs := R.map Prod.fst) (by rw [List.length_map]; exact HB.out) (by rw [List.length_map]; exact HM.out) HA.out, rfl, HGOT.out⟩⟩
    · have he : endErr rest = 4 := if_neg hr0
      rw [he] at HEND
      have HN0 := Lib.hid hr0
      clear he hr0
      go_wp2_with fail
      refine HEND.out.mono ?_
      rintro x _ ⟨rfl, rfl⟩
      go_wp2_with fail
      go_ret2
      refine ⟨HX3.out, .inr ⟨fun es hes => HN0.out (AllEnt.rest (xs := R.map Prod.fst) (by rw [List.length_map]; exact HB.out) HA.out hes), rfl⟩⟩
  · have HX3 : Hid (Ext w w3) := Below.trans HX2.out ((Below.refl _ _).grown hg HX2.out.size (fun k hk => by injection hk with hk; have := HR.out; omega))
    have hn1 : (n != 0) = true := by simpa using hn
    have HERR := Lib.hid herr
    clear hrd hg herr hn
    go_wp2_with fail
    go_ret2
    exact ⟨HX3.out, .inr ⟨fun es => HERR.out.no, rfl⟩⟩

/-! The reference's -/

/-- A row of entries; the row's block is apart from theirs. -/
structure Held (B : Nat) (v : Value) (R : List (Ent × Hd)) (w : World) : Prop where
  row : w.ownsRow B 25 4 v R.length (erow R)
  each : ∀ p ∈ R, ∃ lo hi, B ≤ lo ∧ hi ≤ w.heap.size ∧ Em w lo hi p.1 p.2 ∧ ∀ g, v.ownBlock = some g → g < lo ∨ hi ≤ g
theorem Held.nil (B : Nat) (w : World) : Held B (.slice none 0 0) [] w := ⟨World.ownsRow_nil _ _ _ _, fun p hp => by cases hp⟩
theorem Em.grown {w w' : World} {lo hi : Nat} {e : Ent} {g : Hd} {row : Option Nat} (m : Em w lo hi e g) (hg : w.grownBy w' row) (hB : hi ≤ w.heap.size) (hr : ∀ k, row = some k → k < lo ∨ hi ≤ k) : Em w' lo hi e g := ⟨m.k.grown hg hB hr, m.v.grown hg hB hr, m.bk, m.bv, m.s1, m.s2, m.d1, m.d2⟩
theorem Held.grown {B q : Nat} {v : Value} {R : List (Ent × Hd)} {w w' : World} (h : Held B v R w) (hg : w.grownBy w' (some q)) (hq : q < B) : Held B v R w' := by
  refine ⟨rowN_kept h.row fun g hgo => hg.block g (rowN_lt h.row g hgo).2.1 (fun e => by injection e with e; have := (rowN_lt h.row g hgo).1; omega), fun p hp => ?_⟩
  obtain ⟨lo, hi, h1, h2, h3, h4⟩ := h.each p hp
  exact ⟨lo, hi, h1, Nat.le_trans h2 hg.size, h3.grown hg h2 (fun k hk => by injection hk with hk; omega), h4⟩
theorem Held.below {B : Nat} {v : Value} {R : List (Ent × Hd)} {w w' : World} (h : Held B v R w) (hx : Ext w w') : Held B v R w' := by
  refine ⟨rowN_kept h.row fun g hgo => hx.block g (rowN_lt h.row g hgo).2.1, fun p hp => ?_⟩
  obtain ⟨lo, hi, h1, h2, h3, h4⟩ := h.each p hp
  exact ⟨lo, hi, h1, Nat.le_trans h2 hx.size, h3.below hx h2, h4⟩
theorem Held.es {B : Nat} {A : Option Addr} {c : Nat} {R : List (Ent × Hd)} {w : World} (h : Held B (.slice A R.length c) R w) : Es w 0 w.heap.size A R := by
  refine ⟨?_, fun p hp => ?_⟩
  · rcases h.row.2 with ⟨h1, h2⟩ | ⟨g, cap, cur, hv, hg, hh, r⟩
    · injection h1 with e1 e2 _
      have : R = [] := List.eq_nil_of_length_eq_zero e2
      subst this; exact Sl.nil _ _ _ _
    · injection hv with e1 _ _
      subst e1
      refine .inr ⟨g, 0, rfl, Nat.zero_le _, (Array.getElem?_eq_some_iff.1 hh).1, fun i u hu => ?_⟩
      have := h.row.cells (g := g) rfl i u hu
      rwa [addr_add] at this
  · obtain ⟨lo, hi, _, h2, h3, _⟩ := h.each p hp
    exact h3.wide (Nat.zero_le _) h2

theorem wpList_pushheld {ops : Array Oper} {rest : List Oper} {o : Oper} {a : Act} {Q : Exit → Act → World → Prop} {u : World} (hgd : o.guard = none) (s x : Operand)
    (ho : o.op = .call { callee := .builtin .append, args := #[s, x], argTypes := #[44, 44] }) (B : Nat) (v : Value) (R : List (Ent × Hd)) (hs : a.eval s = v) (hgot : Held B v R u)
    (p : Ent × Hd) (gb : Nat) (hx : a.eval x = .slice (some ⟨gb, 0, none⟩) 1 1) (hblk : u.heap[gb]? = some (.cells (ecells p).toArray 25 (0, 0)))
    (hp : ∃ lo hi, B ≤ lo ∧ hi ≤ u.heap.size ∧ Em u lo hi p.1 p.2 ∧ ∀ g, v.ownBlock = some g → g < lo ∨ hi ≤ g) (hlen : R.length ≤ 1000000000000) (hB : B ≤ u.heap.size)
    (h : ∀ A' c' w', Held B (.slice A' (R.length + 1) c') (R ++ [p]) w' → (∀ w0, Below B w0 u → Below B w0 w') → wpList Try.prog ops Q rest (a.put o.dst (.slice A' (R.length + 1) c')) w') :
    wpList Try.prog ops Q (o :: rest) a u := by
  obtain ⟨i0, hi0', ix0, ix1, ix2⟩ := info_parts einfo
  refine wpList_append_own_at _ hgd s x 44 ho B 25 i0 _ 4 64 Try.underlying44 hi0' ix0 ix1 ix2 rfl (by decide) v R.length (erow R) hs hgot.row ⟨gb, 0, none⟩ 1 1 (ecells p) hx rfl (fun j q hj => ?n1) (fun q hq => ?n2) ?n3 ?n4 hB (fun v' w5 ho hgr _ hat => ?rest)
  case n1 => rw [addr_add, Nat.zero_add]; exact cell_of hblk (by simpa using hj)
  case n2 => exact erow_one [p] q (by simpa [erow] using hq)
  case n3 => unfold maxLen; omega
  case n4 => omega
  case rest =>
    have hlt := rowN_lt hgot.row
    have hke : ∀ q : Ent × Hd, (∃ lo hi, B ≤ lo ∧ hi ≤ u.heap.size ∧ Em u lo hi q.1 q.2 ∧ ∀ g, v.ownBlock = some g → g < lo ∨ hi ≤ g) → ∃ lo hi, B ≤ lo ∧ hi ≤ w5.heap.size ∧ Em w5 lo hi q.1 q.2 ∧ ∀ g, v'.ownBlock = some g → g < lo ∨ hi ≤ g := by
      rintro q ⟨lo, hi, h1, h2, h3, h4⟩
      refine ⟨lo, hi, h1, Nat.le_trans h2 hgr.size, h3.grown hgr h2 h4, fun g hg => ?_⟩
      rcases hat with e | e
      · exact h4 g (e ▸ hg)
      · rw [e] at hg; injection hg with hg; omega
    have hgot' : Held B v' (R ++ [p]) w5 := by
      refine ⟨by rw [List.length_append, erow_append]; simpa [erow] using ho, fun q hq => ?_⟩
      rcases List.mem_append.1 hq with hq | hq
      · exact hke q (hgot.each q hq)
      · rw [List.mem_singleton] at hq; subst hq; exact hke q hp
    obtain ⟨A', c', rfl⟩ := rowN_slice ho
    exact h A' c' w5 hgot' (fun w0 hb => hb.grown hgr hB fun k hk => (hlt k hk).1)

theorem Ent.form_le {e : Ent} (h : e.may = true) : e.form.length ≤ 65620 := by
  obtain ⟨u1, u2, u3, u4⟩ := Ent.may_u64 h
  obtain ⟨h1, h2, h3, h4, h5⟩ := mayN_iff.1 h
  have a1 := (bytesForm_len u1).1
  have a2 := form_len64 u2
  have a3 := form_len64 u3
  have a4 := (bytesForm_len u4).1
  unfold Ent.form
  split <;> simp only [List.length_append, List.length_nil] <;> rcases h5 with ⟨h5, h6⟩ | ⟨h5, h6⟩ <;> omega

/-- What the reference's Lists answers. -/
def RListsAns (w : World) (b : List Nat) (x : Ending) (w' : World) : Prop :=
  Ext w w' ∧ ((∃ (R : List (Ent × Hd)) (A : Option Addr) (c : Nat), IsL b (R.map Prod.fst) ∧ x = .returned (.tuple #[.slice A R.length c, .int .i64 0]) ∧ Es w' 0 w'.heap.size A R) ∨ ((∀ es, ¬ IsL b es) ∧ x = .returned (.tuple #[.slice none 0 0, .int .i64 4])))

set_option maxRecDepth 100000 in
set_option maxHeartbeats 8000000 in
theorem rlists_any {w : World} {lo hi : Nat} {v : Value} {b : List Nat} (hv : Bs w lo hi v b) (hhi : hi ≤ w.heap.size) (hb : ∀ x ∈ b, x < 256) (hl : b.length ≤ 1000000000000) : Calls Try.prog 32 #[v] w (RListsAns w b) := by
  obtain ⟨A, c, rfl, q1, q2, q3, q4⟩ := hv
  obtain ⟨w1, hw1⟩ : ∃ w1, w1 = w.alloc (.cells #[.slice A b.length c] 75) := ⟨_, rfl⟩
  have HX1 : Hid (Ext w w1) := by rw [hw1]; exact ext_alloc _ _
  have HZ1 : Hid (w1.heap.size = w.heap.size + 1) := by rw [hw1]; simp [Hid]
  obtain ⟨q, hq⟩ : ∃ q, q = w.heap.size := ⟨_, rfl⟩
  have hq0 : Qd w1 q lo hi b := by
    have hbs : Bs w lo hi (.slice A b.length c) b := ⟨A, c, rfl, q1, q2, q3, q4⟩
    exact ⟨⟨.slice A b.length c, by rw [hw1, hq]; exact heap_at _ _ rfl, hbs.below HX1.out hhi⟩, by omega, Nat.le_trans hhi HX1.out.size, hb⟩
  have HQ1 := Lib.hid hq0
  have HQW := Lib.hid hq
  have HTOP : Hid (hi ≤ q) := by unfold Hid; omega
  have HL := Lib.hid hl
  have HBY := Lib.hid hb
  clear hhi hb hl q1 q2 q3 q4 hq0
  go_enter Try.func32, Try.ntmps32
  go_wp2_with fail
  rw [← hw1, ← hq]
  clear hw1 hq
  refine (RNumber_out HQ1.out).mono ?_
  rintro x w2 ⟨n, k, mid, ho, rfl, hqd, hg⟩
  have HO := Lib.hid ho
  have HQ2 := Lib.hid hqd
  have HG2 : Hid (Ext w w2) := Below.trans HX1.out ((Below.refl _ _).grown hg HX1.out.size (fun k hk => by injection hk with hk; have := HQW.out; omega))
  have HS2 : Hid (w1.heap.size ≤ w2.heap.size) := hg.size
  clear ho hqd hg
  by_cases hk : k = 0
  rotate_left
  · have hk1 : (k != 0) = true := by simpa using hk
    have HNO : Hid (∀ es, ¬ IsL b es) := fun es h => by
      rcases HO.out with ⟨h0, _⟩ | ⟨_, h0, _⟩
      · exact hk h0
      · exact h0 _ _ h.begins
    clear hk
    go_wp2_with fail
    go_ret2
    exact ⟨HG2.out, .inr ⟨HNO.out, rfl⟩⟩
  subst hk
  have HB : Hid (Begins b n mid) := by
    rcases HO.out with ⟨_, h⟩ | ⟨h, _⟩
    · exact h
    · cases h
  by_cases hn : 65536 < n
  · have d : decide ((65536 : Int) < (n : Int)) = true := decide_eq_true (by omega)
    have dn : decide (65536 < n) = true := decide_eq_true hn
    have HNO : Hid (∀ es, ¬ IsL b es) := fun es h => by have := (h.begins.unique HB.out).1; have := h.1; omega
    clear hn
    go_wp2_with fail
    go_ret2
    exact ⟨HG2.out, .inr ⟨HNO.out, rfl⟩⟩
  have d : decide ((65536 : Int) < (n : Int)) = false := decide_eq_false (by omega)
  have dn : decide (65536 < n) = false := decide_eq_false hn
  have hn2 : n ≤ 65536 := by omega
  have HML : Hid (mid.length ≤ b.length) := by have := congrArg List.length HB.out.eq; simp at this; unfold Hid; omega
  have HBM : Hid (∀ x ∈ mid, x < 256) := HQ2.out.byt
  have HN := Lib.hid hn2
  clear hn HO
  go_wp2_with fail
  go_loopw [7, 8, 9, 10, 11, 12] (fun v i _ _ _ _ wr => ∃ (R : List (Ent × Hd)) (rest : List Nat), R.length ≤ n ∧ i = .int .i64 (R.length : Int) ∧ AllEnt mid (R.map Prod.fst) rest ∧ Qd wr q lo hi rest ∧ Held w1.heap.size v R wr ∧ Hid (Ext w wr ∧ w1.heap.size ≤ wr.heap.size)) (fun _ i _ _ _ _ _ => n - (intOf i).toNat)
  case atStart => exact ⟨[], mid, Nat.zero_le _, rfl, ⟨rfl, by simp⟩, HQ2.out, Held.nil _ _, ⟨HG2.out, HS2.out⟩⟩
  case round =>
    obtain ⟨R, rest, hk, rfl, hall, hqd, hheld, HXX⟩ := hrel
    have HQD := Lib.hid hqd
    have HH := Lib.hid hheld
    have HA := Lib.hid hall
    have HLR : Hid (R.length + rest.length ≤ 1000000000000) := by
      have := hall.len; have h2 := HML.out; have h3 := HL.out; rw [List.length_map] at this; unfold Hid; omega
    clear hqd hheld hall
    have hcv : IntKind.i64.wrap (n : Int) = (n : Int) := by rw [IntKind.wrap_i64]; omega
    have hcv2 : wrap64 (n : Int) = (n : Int) := by unfold wrap64; omega
    by_cases hlt : R.length < n
    · have d1 : decide ((R.length : Int) < (n : Int)) = true := decide_eq_true (by omega)
      have d1n : decide (R.length < n) = true := decide_eq_true hlt
      have HLTT := Lib.hid hlt
      go_wp2_with fail
      refine (RBytes_slice HQD.out (by have := HLR.out; omega) (by decide) (by decide)).mono ?_
      rintro x w3 ⟨kA, kc, kb, k, rest', ho, hbs, rfl, hqd, hg⟩
      have HO := Lib.hid ho
      have HK3 := Lib.hid hbs
      have HQ3 := Lib.hid hqd
      have HX3 : Hid (Ext w w3) := HXX.out.1.grown hg HXX.out.1.size (fun k hk => by injection hk with hk; have := HQW.out; omega)
      have HH3 := Lib.hid (HH.out.grown hg (by have := HQW.out; have := HZ1.out; omega))
      have HS3 : Hid (w1.heap.size ≤ w3.heap.size ∧ wr.heap.size ≤ w3.heap.size) := ⟨Nat.le_trans HXX.out.2 hg.size, hg.size⟩
      clear ho hbs hqd hg
      by_cases hk0 : k = 0
      rotate_left
      · have hk1 : (k != 0) = true := by simpa using hk0
        have HNO : Hid (∀ es, ¬ IsL b es) := fun es h => by
          refine HA.out.no HB.out (by rw [List.length_map]; exact HLTT.out) (fun e r' hm he => ?_) h
          have hlen := Ent.form_le hm
          obtain ⟨_, e2, _⟩ := HO.out.same (.inl ⟨rfl, by omega, ⟨by omega⟩, he⟩)
          exact hk0 e2
        clear hk0
        go_wp2_with fail
        go_ret2
        exact ⟨HX3.out, .inr ⟨HNO.out, rfl⟩⟩
      subst hk0
      have HEQ : Hid (rest = bytesForm kb ++ rest') := by
        rcases HO.out with ⟨_, _, _, h⟩ | ⟨h, _⟩
        · exact h
        · exact absurd rfl h
      have HRA := Lib.hid (rread_new HK3.out (Nat.le_refl _) (fun x hx => HQD.out.byt x (HO.out.len.2.2 x hx)) (by have := HO.out.len.1; have := HLR.out; omega))
      go_wp2_with fail
      refine HRA.out.mono ?_
      rintro x w4 ⟨hx4, (⟨e, g, hi', rfl, hem⟩ | ⟨hno, rfl⟩)⟩
      rotate_left
      · have HX4 : Hid (Ext w w4) := Ext.trans HX3.out hx4
        have HNO : Hid (∀ es, ¬ IsL b es) := fun es h => by
          refine HA.out.no HB.out (by rw [List.length_map]; exact HLTT.out) (fun e r' hm he => ?_) h
          have hlen := Ent.form_le hm
          obtain ⟨e1, _, _⟩ := HO.out.same (.inl ⟨rfl, by omega, ⟨by omega⟩, he⟩)
          exact hno e ⟨hm, e1.symm⟩
        clear hx4 hno
        unfold noE
        go_wp2_with fail
        go_ret2
        exact ⟨Ext.trans HX4.out (ext_alloc _ _), .inr ⟨HNO.out, rfl⟩⟩
      have HX4 : Hid (Ext w3 w4) := hx4
      have HI := Lib.hid hi'
      have HEM := Lib.hid hem
      clear hx4 hi' hem
      unfold Ent.at_
      go_upto_region 13 with (fail)
      obtain ⟨w5, hw5⟩ : ∃ w5, w5 = w4.alloc (.cells #[.slice g.kA e.key.length g.kc, .int .i64 e.seq, .int .i64 e.kind, .slice g.vA e.val.length g.vc] 25) := ⟨_, rfl⟩
      rw [← hw5]
      have HX5 : Hid (Ext w4 w5) := by rw [hw5]; exact ext_alloc _ _
      have HB5 : Hid (w5.heap[w4.heap.size]? = some (.cells #[.slice g.kA e.key.length g.kc, .int .i64 e.seq, .int .i64 e.kind, .slice g.vA e.val.length g.vc] 25 (0, 0))) := by rw [hw5]; exact heap_at _ _ rfl
      have c0 := cell_of HB5.out (k := 0) rfl
      have c1 := cell_of HB5.out (k := 1) rfl
      have c2 := cell_of HB5.out (k := 2) rfl
      have c3 := cell_of HB5.out (k := 3) rfl
      have HH5 := Lib.hid ((HH3.out.below HX4.out).below HX5.out)
      have HEM5 := Lib.hid (HEM.out.below HX5.out (Nat.le_refl _))
      have HROW := Lib.hid (rowN_lt HH3.out.row)
      clear hw5
      go_wp2_with (at_builtin; refine wpList_pushheld rfl (.tmp 47) (.tmp 49) rfl w1.heap.size _ R rfl (HH5.out.below (ext_alloc _ _)) (e, g) w5.heap.size rfl ?blk ?each ?len ?hB ?_)
      case blk => exact heap_at _ _ rfl
      case each => exact ⟨w3.heap.size, HS3.out.1, w4.heap.size, Nat.le_trans HX5.out.size (Nat.le_succ _), HEM5.out.below (ext_alloc _ _) HX5.out.size, fun g' hg' => .inl (HROW.out g' hg').2.1⟩
      case len => have := HLR.out; omega
      case hB => exact Nat.le_trans (Nat.le_trans (Nat.le_trans HS3.out.1 HX4.out.size) HX5.out.size) (ext_alloc _ _).size
      intro A6 c6 w6 hh6 hb6
      have HS5 : Hid (w1.heap.size ≤ w5.heap.size) := Nat.le_trans (Nat.le_trans HS3.out.1 HX4.out.size) HX5.out.size
      have HB6 : Hid (Below w1.heap.size w3 w6) := hb6 _ (Below.alloc (Below.trans (HX4.out.mono HS3.out.1) (HX5.out.mono (Nat.le_trans HS3.out.1 HX4.out.size))) HS5.out _)
      have HH6 := Lib.hid hh6
      have HQ6 := Lib.hid (HQ3.out.below HB6.out (by have := HTOP.out; have := HQW.out; have := HZ1.out; omega) (by have := HQW.out; have := HZ1.out; omega))
      have HALL : Hid (AllEnt mid ((R ++ [(e, g)]).map Prod.fst) rest') := by
        rw [List.map_append]
        exact HA.out.snoc HI.out.1 (by rw [HEQ.out, HI.out.2])
      have HX6 : Hid (Ext w w6 ∧ w1.heap.size ≤ w6.heap.size) := ⟨Below.trans HX3.out (HB6.out.mono HX1.out.size), Nat.le_trans HS3.out.1 HB6.out.size⟩
      clear hh6 hb6 c0 c1 c2 c3
      go_wp2_with fail
      go_roundw
      case rel => exact ⟨R ++ [(e, g)], rest', by simp; omega, by simp; try go_num, HALL.out, HQ6.out, by simpa using HH6.out, HX6⟩
      case measure => have := HLTT.out; simp [intOf]; omega
    · have d1 : decide ((R.length : Int) < (n : Int)) = false := decide_eq_false (by omega)
      have d1n : decide (R.length < n) = false := decide_eq_false hlt
      have hnn : R.length = n := by omega
      have HNN := Lib.hid hnn
      have HLEFT := Lib.hid (RLeft_any _ _ _ _ _ HQD.out)
      obtain ⟨A', c', hv'⟩ := rowN_slice HH.out.row
      subst hv'
      clear hnn hlt
      by_cases hr0 : rest.length = 0
      · have f1 : decide ((0 : Int) < (rest.length : Int)) = false := decide_eq_false (by omega)
        have f1n : decide (0 < rest.length) = false := decide_eq_false (by omega)
        have HR0 : Hid (rest = []) := List.eq_nil_of_length_eq_zero hr0
        clear hr0
        go_wp2_with fail
        refine HLEFT.out.mono ?_
        rintro x _ ⟨rfl, rfl⟩
        go_wp2_with fail
        go_ret2
        have hA := HA.out
        rw [HR0.out] at hA
        exact ⟨HXX.out.1, .inl ⟨R, A', c', AllEnt.is (xs := R.map Prod.fst) (by rw [List.length_map, HNN.out]; exact HB.out) (by rw [List.length_map, HNN.out]; exact HN.out) hA, rfl, HH.out.es⟩⟩
      · have f1 : decide ((0 : Int) < (rest.length : Int)) = true := decide_eq_true (by omega)
        have f1n : decide (0 < rest.length) = true := decide_eq_true (by omega)
        have HR0 : Hid (rest ≠ []) := fun h => hr0 (by rw [h]; rfl)
        clear hr0
        go_wp2_with fail
        refine HLEFT.out.mono ?_
        rintro x _ ⟨rfl, rfl⟩
        go_wp2_with fail
        go_ret2
        exact ⟨HXX.out.1, .inr ⟨fun es hes => HR0.out (AllEnt.rest (xs := R.map Prod.fst) (by rw [List.length_map, HNN.out]; exact HB.out) HA.out hes), rfl⟩⟩
end Go.Proofs.Ytfalpagimmaipaa
