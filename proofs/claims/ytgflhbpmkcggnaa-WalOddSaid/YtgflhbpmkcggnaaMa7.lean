/- Ymem Ymay JCbits JCtable JMword JMclaim JCtaken JMsum JDclone JMrow JMput Yput, joined. -/
import Derived.Test.YtgflhbpmkcggnaaMa6
import Derived.Test.YtgflhbpmkcggnaaMa5
import Derived.Deep.DeepCutAuto
import Derived.Test.YtgflhbpmkcggnaaMa1
import Derived.WalkLawsBesides
import Derived.WalkSpells
import Derived.ProofKit
import Derived.Outline
import Derived.Laws.Rows
import Derived.Laws.Tables
import Derived.Deep.WholeRow
import Derived.Laws.ResultCell
import Derived.Test.YtgflhbpmkcggnaaMa3
import Derived.Test.YtgflhbpmkcggnaaMa2
import Derived.RegionTactic

/- Batches in memory. -/
namespace Go.Proofs.Ytgflhbpmkcggnaa
open Go.ChangeShapes Go.WideShapes Go.ChangeAt Go.RowKit

/-- A batch, as it lies there. -/
structure Bx where
  idx : Int
  A : Option Addr
  c : Nat
  L : List (Ent × Hd)
def Bx.val (x : Bx) : Value := .agg #[.int .i64 x.idx, .slice x.A x.L.length x.c]
def Bx.bat (x : Bx) : Bat := ⟨x.idx, x.L.map Prod.fst⟩
structure Bm (w : World) (lo hi : Nat) (x : Bx) : Prop where
  es : Es w lo hi x.A x.L
  i1 : -9223372036854775808 ≤ x.idx
  i2 : x.idx ≤ 9223372036854775807
  ln : x.L.length ≤ 1000000000000
theorem Bm.below {w w' : World} {lo hi B : Nat} {x : Bx} (h : Bm w lo hi x) (hb : Below B w w') (hB : hi ≤ B) : Bm w' lo hi x := ⟨h.es.below hb hB, h.i1, h.i2, h.ln⟩
theorem Bm.wide {w : World} {lo hi lo' hi' : Nat} {x : Bx} (h : Bm w lo hi x) (h1 : lo' ≤ lo) (h2 : hi ≤ hi') : Bm w lo' hi' x := ⟨h.es.wide h1 h2, h.i1, h.i2, h.ln⟩
theorem Bm.ext {w w' : World} {lo hi : Nat} {x : Bx} (h : Bm w lo hi x) (hb : Ext w w') (hB : hi ≤ w.heap.size) : Bm w' lo hi x := h.below hb hB

/-- A batch's cells. -/
def bcells (x : Bx) : List Value := [.int .i64 x.idx, .slice x.A x.L.length x.c]
theorem bcells_length (x : Bx) : (bcells x).length = 2 := rfl
def brow (X : List Bx) : List Value := X.flatMap bcells
theorem brow_length (X : List Bx) : (brow X).length = X.length * 2 := by
  unfold brow
  induction X with
  | nil => rfl
  | cons a l ih => rw [List.flatMap_cons, List.length_append, ih, bcells_length, List.length_cons]; omega
theorem brow_append (L R : List Bx) : brow (L ++ R) = brow L ++ brow R := by simp [brow]
theorem brow_at (L : List Bx) {k j : Nat} (hk : k < L.length) (hj : j < 2) : (brow L)[k * 2 + j]? = (bcells L[k])[j]? := by
  unfold brow
  induction L generalizing k with
  | nil => simp at hk
  | cons a l ih =>
    rw [List.flatMap_cons]
    cases k with
    | zero => rw [List.getElem?_append_left (by rw [bcells_length]; omega)]; simp
    | succ k =>
      rw [List.getElem?_append_right (by rw [bcells_length]; omega), bcells_length, show (k + 1) * 2 + j - 2 = k * 2 + j by omega]
      simpa using ih (k := k) (by simpa using hk)
theorem brow_one (L : List Bx) : ∀ u ∈ brow L, u.oneCell' = true := by
  intro u hu
  unfold brow at hu
  obtain ⟨p, _, h⟩ := List.mem_flatMap.1 hu
  simp only [bcells, List.mem_cons, List.not_mem_nil, or_false] at h
  rcases h with rfl | rfl <;> rfl
/-- Batches in a row. -/
structure Bts (w : World) (lo hi : Nat) (A : Option Addr) (X : List Bx) : Prop where
  outer : Sl w lo hi A (brow X)
  each : ∀ x ∈ X, Bm w lo hi x
theorem Bts.below {w w' : World} {lo hi B : Nat} {A : Option Addr} {X : List Bx} (h : Bts w lo hi A X) (hb : Below B w w') (hB : hi ≤ B) : Bts w' lo hi A X := ⟨h.outer.below hb hB, fun p hp => (h.each p hp).below hb hB⟩
theorem Bts.wide {w : World} {lo hi lo' hi' : Nat} {A : Option Addr} {X : List Bx} (h : Bts w lo hi A X) (h1 : lo' ≤ lo) (h2 : hi ≤ hi') : Bts w lo' hi' A X := ⟨h.outer.wide h1 h2, fun p hp => (h.each p hp).wide h1 h2⟩
theorem Bts.nil (w : World) (lo hi : Nat) (A : Option Addr) : Bts w lo hi A [] := ⟨.inl rfl, fun _ h => (by simp at h)⟩
theorem Bts.at_ {w : World} {lo hi : Nat} {A : Option Addr} {X : List Bx} (h : Bts w lo hi A X) {k : Nat} (hk : k < X.length) :
    ∃ b o, A = some ⟨b, o, none⟩ ∧ b < hi ∧ w.cell? ⟨b, o + k * 2, none⟩ = some (.int .i64 X[k].idx) ∧ w.cell? ⟨b, o + k * 2 + 1, none⟩ = some (.slice X[k].A X[k].L.length X[k].c) := by
  obtain ⟨b, o, rfl, _, hb, _⟩ := Sl.at_ h.outer (i := k * 2) (by rw [brow_length]; omega)
  have hc : ∀ j u, (brow X)[j]? = some u → w.cell? ⟨b, o + j, none⟩ = some u := by
    rcases h.outer with h0 | ⟨b', o', he, _, _, hc⟩
    · have := congrArg List.length h0
      rw [brow_length] at this
      simp at this; omega
    · injection he with he
      injection he with e1 e2
      subst e1 e2
      exact hc
  have hj := fun (j : Nat) (hj : j < 2) (u : Value) (hu : (bcells X[k])[j]? = some u) => hc (k * 2 + j) u ((brow_at X hk hj).trans hu)
  refine ⟨b, o, rfl, hb, hj 0 (by decide) _ rfl, ?_⟩
  rw [Nat.add_assoc]; exact hj 1 (by decide) _ rfl
theorem Bts.base {w : World} {lo hi : Nat} {A : Option Addr} {X : List Bx} (h : Bts w lo hi A X) (h0 : 0 < X.length) : ∃ b o, A = some ⟨b, o, none⟩ := by
  obtain ⟨b, o, e, _⟩ := h.at_ h0
  exact ⟨b, o, e⟩
theorem Bts.get {w : World} {lo hi b o : Nat} {X : List Bx} (h : Bts w lo hi (some ⟨b, o, none⟩) X) {k : Nat} {x : Bx} (hk : X[k]? = some x) :
    w.cell? ⟨b, o + k * 2, none⟩ = some (.int .i64 x.idx) ∧ w.cell? ⟨b, o + k * 2 + 1, none⟩ = some (.slice x.A x.L.length x.c) := by
  obtain ⟨hlt, rfl⟩ := List.getElem?_eq_some_iff.1 hk
  obtain ⟨_, _, he, _, c0, c1⟩ := h.at_ hlt
  injection he with he; injection he with e1 e2; subst e1 e2
  exact ⟨c0, c1⟩

/-- A batch in memory of its own. -/
structure Gb (B : Nat) (x : Bx) (w : World) : Prop where
  got : Got B (.slice x.A x.L.length x.c) x.L w
  i1 : -9223372036854775808 ≤ x.idx
  i2 : x.idx ≤ 9223372036854775807
  ln : x.L.length ≤ 1000000000000
theorem Got.es {B n c : Nat} {X : Option Addr} {R : List (Ent × Hd)} {A : World} (h : Got B (.slice X n c) R A) : Es A 0 A.heap.size X R := by
  have hn : n = R.length := by
    obtain ⟨A', c', e⟩ := rowN_slice h.row
    injection e
  subst hn
  exact ⟨rowE_sl h.row, fun p hp => (h.each p hp).em⟩
theorem Gb.bm {B : Nat} {x : Bx} {w : World} (h : Gb B x w) : Bm w 0 w.heap.size x := ⟨h.got.es, h.i1, h.i2, h.ln⟩
theorem Gb.base {B B' : Nat} {x : Bx} {w : World} (h : Gb B x w) (hB : B' ≤ B) : Gb B' x w := ⟨h.got.base hB, h.i1, h.i2, h.ln⟩
theorem Gb.ext {B : Nat} {x : Bx} {w w' : World} (h : Gb B x w) (hx : Ext w w') : Gb B x w' := ⟨h.got.below hx, h.i1, h.i2, h.ln⟩
/-- What changes blocks that bear neither entries nor bytes leaves it. -/
def NotGot (w : World) (g : Nat) : Prop := ∀ (cur : Array Value) (t : TypeId), w.heap[g]? = some (.cells cur t (0, 0)) → t ≠ 48 ∧ t ≠ 5
theorem Got.chg {B : Nat} {v : Value} {R : List (Ent × Hd)} {w w' : World} {S : Nat → Prop} (h : Got B v R w) (hc : Chg S w w') (hS : ∀ g, S g → g < B ∨ NotGot w g) : Got B v R w' := by
  have kp : ∀ {s n : Nat} {e : TypeId} {v : Value} {xs : List Value}, (e = 48 ∨ e = 5) → w.ownsRow B e s v n xs → w'.ownsRow B e s v n xs := fun he h => rowN_kept h fun g hg => by
    obtain ⟨h1, h2, cur, h3⟩ := rowN_lt h g hg
    refine hc.block g h2 fun hs => ?_
    rcases hS g hs with h4 | h4
    · omega
    · have := h4 _ _ h3
      rcases he with he | he
      · exact this.1 he
      · exact this.2 he
  exact ⟨kp (.inl rfl) h.row, fun p hp => ⟨kp (.inr rfl) (h.each p hp).k, kp (.inr rfl) (h.each p hp).v, (h.each p hp).good⟩⟩
theorem Gb.chg {B : Nat} {x : Bx} {w w' : World} {S : Nat → Prop} (h : Gb B x w) (hc : Chg S w w') (hS : ∀ g, S g → g < B ∨ NotGot w g) : Gb B x w' := ⟨h.got.chg hc hS, h.i1, h.i2, h.ln⟩

/-- A row of batches that grows, of a call's own, and what they hold. -/
structure Gbs (B : Nat) (v : Value) (X : List Bx) (w : World) : Prop where
  row : w.ownsRow B 24 2 v X.length (brow X)
  each : ∀ x ∈ X, Gb B x w
theorem Gbs.nil (B : Nat) (w : World) : Gbs B (.slice none 0 0) [] w := ⟨⟨by simp [brow], .inl ⟨rfl, rfl⟩⟩, fun _ h => (by simp at h)⟩
theorem rowB_sl {A : World} {B n c : Nat} {X : Option Addr} {R : List Bx} (h : A.ownsRow B 24 2 (.slice X n c) n (brow R)) : Sl A 0 A.heap.size X (brow R) := by
  rcases h.2 with ⟨he, rfl⟩ | ⟨g, cap, cur, he, hb, hh, hn, hm, hcs, hx⟩
  · left
    exact List.eq_nil_of_length_eq_zero (by simpa using h.1)
  · injection he with he _ _
    subst he
    refine .inr ⟨g, 0, rfl, Nat.zero_le _, (Array.getElem?_eq_some_iff.1 hh).1, fun i u hu => ?_⟩
    rw [Nat.zero_add, cell_of_row A g i cur _ (0, 0) hh]
    rw [← hx, List.getElem?_take] at hu
    split at hu
    · rw [← Array.getElem?_toList]; exact hu
    · cases hu
theorem Gbs.slice {B : Nat} {v : Value} {X : List Bx} {w : World} (h : Gbs B v X w) : ∃ A c, v = .slice A X.length c := rowN_slice h.row
theorem Gbs.bts {B c : Nat} {A : Option Addr} {X : List Bx} {w : World} (h : Gbs B (.slice A X.length c) X w) : Bts w 0 w.heap.size A X := ⟨rowB_sl h.row, fun x hx => (h.each x hx).bm⟩
theorem Gbs.ext {B : Nat} {v : Value} {X : List Bx} {w w' : World} (h : Gbs B v X w) (hx : Ext w w') : Gbs B v X w' :=
  ⟨rowN_kept h.row fun g hg => hx.block g (rowN_lt h.row g hg).2.1, fun x hm => (h.each x hm).ext hx⟩
end Go.Proofs.Ytgflhbpmkcggnaa

/- wal's May, and the reference's. -/
namespace Go.Proofs.Ytgflhbpmkcggnaa
open Go.ChangeShapes Go.WideShapes Go.ChangeAt Go.RowKit

set_option maxRecDepth 100000 in
set_option maxHeartbeats 4000000 in
theorem wmay_any {w : World} {lo hi : Nat} {x : Bx} (h : Bm w lo hi x) (hhi : hi ≤ w.heap.size) :
    Calls Try.prog 13 #[x.val] w fun e w' => ∃ z : Bool, (z = true ↔ x.bat.may) ∧ e = .returned (.bool z) ∧ Ext w w' := by
  obtain ⟨n, A, c, L⟩ := x
  have HE : Hid (Es w lo hi A L) := h.es
  have HHI := Lib.hid hhi
  have HL : Hid (L.length ≤ 1000000000000) := h.ln
  obtain ⟨P, hP⟩ : ∃ P, P = (Bx.bat ⟨n, A, c, L⟩).may := ⟨_, rfl⟩
  have HP : Hid (P ↔ 1 ≤ n ∧ n ≤ 2147483647 ∧ L.length ≤ 65536 ∧ (L.all fun p => p.1.may) = true) := by
    refine Lib.hid ?_
    rw [hP]
    simp [Bx.bat, Bat.may]
  rw [← hP]
  clear hP h hhi
  unfold Bx.val
  have dn1 : decide (n < 1) = decide (n < 1) := rfl
  clear dn1
  by_cases h1 : n < 1
  · have d1 : decide (n < 1) = true := decide_eq_true h1
    have HF : Hid (¬ P) := fun hp => by have := HP.out.1 hp; omega
    clear h1
    go_enter Try.func13, Try.ntmps13
    go_wp2_with fail
    go_ret
    exact ⟨false, ⟨fun h => (by cases h), fun hp => absurd hp HF.out⟩, rfl, ext_alloc _ _⟩
  by_cases h2 : 2147483647 < n
  · have d1 : decide (n < 1) = false := decide_eq_false h1
    have d2 : decide (2147483647 < n) = true := decide_eq_true h2
    have HF : Hid (¬ P) := fun hp => by have := HP.out.1 hp; omega
    clear h1 h2
    go_enter Try.func13, Try.ntmps13
    go_wp2_with fail
    go_ret
    exact ⟨false, ⟨fun h => (by cases h), fun hp => absurd hp HF.out⟩, rfl, ext_alloc _ _⟩
  by_cases h3 : 65536 < L.length
  · have d1 : decide (n < 1) = false := decide_eq_false h1
    have d2 : decide (2147483647 < n) = false := decide_eq_false h2
    have d3 : decide (65536 < (L.length : Int)) = true := decide_eq_true (by omega)
    have d3n : decide (65536 < L.length) = true := decide_eq_true h3
    have HF : Hid (¬ P) := fun hp => by have := HP.out.1 hp; omega
    clear h1 h2 h3
    go_enter Try.func13, Try.ntmps13
    go_wp2_with fail
    go_ret
    exact ⟨false, ⟨fun h => (by cases h), fun hp => absurd hp HF.out⟩, rfl, ext_alloc _ _⟩
  have d1 : decide (n < 1) = false := decide_eq_false h1
  have d2 : decide (2147483647 < n) = false := decide_eq_false h2
  have d3 : decide (65536 < (L.length : Int)) = false := decide_eq_false (by omega)
  have d3n : decide (65536 < L.length) = false := decide_eq_false h3
  have HN : Hid (P ↔ (L.all fun p => p.1.may) = true) := HP.out.trans ⟨fun h => h.2.2.2, fun h => ⟨by omega, by omega, by omega, h⟩⟩
  clear h1 h2 h3 HP
  go_enter Try.func13, Try.ntmps13
  go_upto_region 1 with (fail)
  obtain ⟨w0, hw0⟩ : ∃ w0, w0 = w.alloc (.cells #[.int .i64 n, .slice A L.length c] 24) := ⟨_, rfl⟩
  rw [← hw0]
  have HX0 : Hid (Ext w w0) := by rw [hw0]; exact ext_alloc _ _
  have HB0 : Hid (w0.heap[w.heap.size]? = some (.cells #[.int .i64 n, .slice A L.length c] 24 (0, 0))) := by rw [hw0]; exact heap_at _ _ rfl
  have k0 := cell_of HB0.out (k := 0) rfl
  have k1 := cell_of HB0.out (k := 1) rfl
  clear hw0
  go_wp2_with fail
  clear k0 k1 d1 d2 d3 d3n
  go_loopw [22] (fun a wr => ∃ i : Nat, a = .int .i64 (i : Int) ∧ i ≤ L.length ∧ Hid ((L.take i).all (fun p => p.1.may) = true) ∧ Hid (Ext w wr)) (fun a _ => L.length - (intOf a).toNat)
  case atStart => exact ⟨0, rfl, by omega, by simp [Hid], HX0⟩
  case round =>
    obtain ⟨i, rfl, hm, HR, HX⟩ := hrel
    by_cases hlt : i < L.length
    · have d : decide ((i : Int) < (L.length : Int)) = true := decide_eq_true (by omega)
      have dn : decide (i < L.length) = true := decide_eq_true hlt
      obtain ⟨b, o, hA⟩ := HE.out.base (by omega)
      subst hA
      obtain ⟨p, hp⟩ : ∃ p, L[i]? = some p := ⟨_, List.getElem?_eq_getElem hlt⟩
      obtain ⟨c0, c1, c2, c3⟩ := (HE.out.below HX.out HHI.out).get hp
      have HPP := Lib.hid hp
      have n1 : (0 : Int) ≤ (i : Int) := by omega
      have n2 : (i : Int) < (L.length : Int) := by omega
      have hw2 : wrap64 ((i : Int) + 1) = ((i + 1 : Nat) : Int) := by have := HL.out; unfold wrap64; omega
      clear hp
      go_upto_region 6 with (fail)
      obtain ⟨w4, hw4⟩ : ∃ w4, w4 = wr.alloc (.cells #[.slice p.2.kA p.1.key.length p.2.kc, .int .i64 p.1.seq, .int .i64 p.1.kind, .slice p.2.vA p.1.val.length p.2.vc] 48) := ⟨_, rfl⟩
      rw [← hw4]
      have HX4 : Hid (Ext wr w4) := by rw [hw4]; exact ext_alloc _ _
      have HB4 : Hid (w4.heap[wr.heap.size]? = some (.cells #[.slice p.2.kA p.1.key.length p.2.kc, .int .i64 p.1.seq, .int .i64 p.1.kind, .slice p.2.vA p.1.val.length p.2.vc] 48 (0, 0))) := by rw [hw4]; exact heap_at _ _ rfl
      clear hw4 c0 c1 c2 c3
      have c0 := cell_of HB4.out (k := 0) rfl
      have c1 := cell_of HB4.out (k := 1) rfl
      have c2 := cell_of HB4.out (k := 2) rfl
      have c3 := cell_of HB4.out (k := 3) rfl
      go_wp2_with fail
      refine (may_any _ _ _ _ _ _ _ _ _).mono ?_
      rintro x w9 ⟨rfl, hx9⟩
      have HX9 : Hid (Ext w w9) := Ext.trans HX.out (Ext.trans HX4.out hx9)
      clear hx9 c0 c1 c2 c3
      obtain ⟨z, hz⟩ : ∃ z, z = mayN p.1.key.length p.1.seq p.1.kind p.1.val.length := ⟨_, rfl⟩
      rw [← hz]
      have HZ := Lib.hid hz
      clear hz
      cases z with
      | false =>
        go_wp2_with fail
        go_ret
        exact ⟨false, ⟨fun h => (by cases h), fun hp => by rw [HN.out, all_not (f := fun p : Ent × Hd => p.1.may) HPP.out HZ.out.symm] at hp; cases hp⟩, rfl, HX9.out⟩
      | true =>
        go_wp2_with fail
        go_roundw
        case rel => exact ⟨i + 1, by rw [hw2], by omega, Lib.hid (all_next (f := fun p : Ent × Hd => p.1.may) HR.out HPP.out HZ.out.symm), HX9⟩
        case measure => rw [hw2]; simp [intOf]; omega
    · have d : decide ((i : Int) < (L.length : Int)) = false := decide_eq_false (by omega)
      have dn : decide (i < L.length) = false := decide_eq_false hlt
      have HM : Hid (L.all (fun p => p.1.may) = true) := by have h := HR.out; rwa [List.take_of_length_le (by omega)] at h
      clear hlt hm
      go_wp2_with fail
      go_ret
      exact ⟨true, ⟨fun _ => HN.out.2 HM.out, fun _ => rfl⟩, rfl, HX.out⟩
end Go.Proofs.Ytgflhbpmkcggnaa

/- What crc does to its register, bit by bit. -/
namespace Go.Proofs.Ytgflhbpmkcggnaa.Fm
open Go.ChangeShapes Go.WideShapes Go.ChangeAt Go.RowKit

theorem and_one (m : Nat) (h : m < 4294967296) : bits .and .u32 (m : Int) 1 = ((m % 2 : Nat) : Int) := by
  have := u32_and_nat m 1 h (by omega)
  rw [nat_mask1] at this
  exact this
theorem and_all (p : Nat) (h : p < 4294967296) : bits .and .u32 (p : Int) 4294967295 = (p : Int) := by
  have := u32_and_nat p 4294967295 h (by omega)
  rw [show p &&& 4294967295 = p % 4294967296 from Nat.and_two_pow_sub_one_eq_mod p 32, Nat.mod_eq_of_lt h] at this
  exact this
theorem and_none (p : Nat) (h : p < 4294967296) : bits .and .u32 (p : Int) 0 = 0 := by
  have := u32_and_nat p 0 h (by omega)
  simpa using this
theorem and_mask (p m : Nat) (hp : p < 4294967296) (h : m < 4294967296) : bits .and .u32 (p : Int) (-bits .and .u32 (m : Int) 1 % 4294967296) = ((m % 2 * p : Nat) : Int) := by
  rw [and_one m h]
  rcases Nat.mod_two_eq_zero_or_one m with k | k
  · rw [k]; simpa using and_none p hp
  · rw [k]; simpa using and_all p hp
theorem xor_u32 {a b : Nat} (h : a < 4294967296) (k : b < 4294967296) : bits .xor .u32 (a : Int) (b : Int) = ((a ^^^ b : Nat) : Int) := u32_xor_nat a b h k
theorem sh_bits {m : Nat} (h : m < 4294967296) : bits .xor .u32 ((m : Int) / 2) (bits .and .u32 2197175160 (-bits .and .u32 (m : Int) 1 % 4294967296)) = (sh m : Nat) := by
  have e := and_mask 2197175160 m (by omega) h
  have e1 : ((2197175160 : Nat) : Int) = 2197175160 := rfl
  rw [e1] at e
  have e2 : ((m / 2 : Nat) : Int) = (m : Int) / 2 := by omega
  have hb : m % 2 * 2197175160 < 4294967296 := by omega
  rw [e, ← e2, xor_u32 (by omega) hb]
  rfl

theorem shifted_any (s n : Nat) (hs : s < 4294967296) (hn : n ≤ 100) (w : World) :
    Calls Try.prog 92 #[.int .u32 (s : Int), .int .i64 (n : Int)] w fun e w' => e = .returned (.int .u32 (shn n s : Nat)) ∧ w = w' := by
  have HS := Lib.hid hs
  clear hs
  go_enter Try.func92, Try.ntmps92
  go_wp2_with fail
  go_loop [0, 7] (fun x i => ∃ (k m : Nat), k ≤ n ∧ i = .int .i64 (k : Int) ∧ x = .int .u32 (m : Int) ∧ Hid (m = shn k s)) (fun _ i => n - (intOf i).toNat)
  case atStart => exact ⟨0, s, Nat.zero_le _, rfl, rfl, Lib.hid rfl⟩
  case round =>
    obtain ⟨k, m, hk, rfl, rfl, hm⟩ := hrel
    have e := Lib.hid (sh_bits (m := m) (by rw [hm.out]; exact shn_lt HS.out))
    by_cases hlt : k < n
    · go_wp2_with fail
      go_round
      case rel => exact ⟨k + 1, sh m, by omega, by go_num, by rw [e.out], Lib.hid (by rw [hm.out, shn_succ'])⟩
      case measure => simp [intOf]; omega
    · go_wp2_with fail
      go_ret
      obtain rfl : k = n := by omega
      exact ⟨by rw [hm.out]; rfl, rfl⟩
end Go.Proofs.Ytgflhbpmkcggnaa.Fm

/- crc's table, as the shifts of each half. -/
namespace Go.Proofs.Ytgflhbpmkcggnaa.Fm
open Go.ChangeShapes Go.WideShapes Go.ChangeAt Go.RowKit

/-- Words of 32 bits, as the cells of an array. -/
def rowv (l : List Nat) : Array Value := (l.map fun n : Nat => Value.int .u32 (n : Int)).toArray
theorem rowv_size (l : List Nat) : (rowv l).size = l.length := by simp [rowv]
theorem rowv_one (l : List Nat) : (rowv l).all (·.oneCell') = true := by
  simp only [rowv, List.all_toArray, List.all_eq_true, List.mem_map]
  rintro x ⟨n, _, rfl⟩
  rfl
theorem rowv_get (l : List Nat) (i : Nat) (h : i < l.length) : (rowv l)[i]? = some (.int .u32 (l[i] : Int)) := by simp [rowv, List.getElem?_eq_getElem h]
theorem rowv_set (l : List Nat) (i x : Nat) : (rowv l).setIfInBounds i (.int .u32 (x : Int)) = rowv (l.set i x) := by simp [rowv, List.map_set]
/-- Block b is an array of the type t that has these words. -/
def Arr (w : World) (b : Nat) (t : TypeId) (l : List Nat) : Prop := w.heap[b]? = some (.cells (rowv l) t (0, 0))
theorem Arr.cell {w : World} {b : Nat} {t : TypeId} {l : List Nat} (h : Arr w b t l) (i : Nat) (hi : i < l.length) : w.cell? ⟨b, i, none⟩ = some (.int .u32 (l[i] : Int)) := by
  rw [cell_of_row w b i _ t _ h, rowv_get l i hi]
theorem Arr.free {w : World} {b : Nat} {t : TypeId} {l : List Nat} (h : Arr w b t l) (i : Nat) : w.frozen? ⟨b, i, none⟩ = false := frozen_of_row w b i _ t h
theorem Arr.set {w : World} {b : Nat} {t : TypeId} {l : List Nat} (h : Arr w b t l) (i x : Nat) : Arr (w.setCell ⟨b, i, none⟩ (.int .u32 (x : Int))) b t (l.set i x) := by
  unfold Arr
  rw [heap_setCell_same w b i _ t _ h, rowv_set]
theorem Arr.far {w : World} {b : Nat} {t : TypeId} {l : List Nat} (h : Arr w b t l) {p : Addr} (hp : b ≠ p.block) (u : Value) : Arr (w.setCell p u) b t l := by
  unfold Arr
  rw [heap_setCell_other w p b u hp]; exact h
theorem Arr.below {w w' : World} {b B : Nat} {t : TypeId} {l : List Nat} (h : Arr w b t l) (hb : Below B w w') (hlt : b < B) : Arr w' b t l := by
  unfold Arr
  rw [hb.block b hlt]; exact h

/-- The first k of n words are f's, the others 0. -/
def part (f : Nat → Nat) (n k : Nat) : List Nat := (List.range n).map fun i => if i < k then f i else 0
theorem part_length (f : Nat → Nat) (n k : Nat) : (part f n k).length = n := by simp [part]
theorem part_set (f : Nat → Nat) (n k : Nat) : (part f n k).set k (f k) = part f n (k + 1) := by
  apply List.ext_getElem
  · simp [part]
  · intro i h1 h2
    rw [List.getElem_set]
    simp only [part, List.getElem_map, List.getElem_range]
    split
    · rename_i h; subst h; simp
    · rename_i h
      by_cases h3 : i < k
      · simp [h3, show i < k + 1 by omega]
      · simp [h3, show ¬ i < k + 1 by omega]
theorem part_all (f : Nat → Nat) (n : Nat) : part f n n = (List.range n).map f := by
  unfold part
  apply List.map_congr_left
  intro i hi
  simp at hi
  simp [hi]
theorem words_get (f : Nat → Nat) (n i : Nat) (h : i < ((List.range n).map f).length) : ((List.range n).map f)[i] = f i := by simp

/-- An array in a block that the call made: who stores into it, changes nothing that was there before. -/
theorem below_set {B : Nat} {w0 w : World} (h : Below B w0 w) {b : Nat} (hb : B ≤ b) (i : Nat) (u : Value) : Below B w0 (w.setCell ⟨b, i, none⟩ u) := h.setCell hb u

theorem Arr.setRow {w : World} {b : Nat} {t : TypeId} {l : List Nat} (h : Arr w b t l) (r : List Nat) : Arr (w.setRow b (rowv r)) b t r := setRow_heap w b _ _ t (0, 0) h
theorem Arr.farRow {w : World} {b g : Nat} {t : TypeId} {l : List Nat} (h : Arr w b t l) (hp : b ≠ g) (r : Array Value) : Arr (w.setRow g r) b t l := by
  unfold Arr
  rw [setRow_other w g b r hp]; exact h
theorem below_row {B : Nat} {w0 w : World} (h : Below B w0 w) {g : Nat} (hb : B ≤ g) (r : Array Value) : Below B w0 (w.setRow g r) :=
  h.trans ⟨rfl, rfl, rfl, by simp, fun k hk => setRow_other w g k r (by omega)⟩
theorem info16 : (Try.prog.info? 108).map (·.size) = some 16 := by kernel_rfl
theorem sixteen (f : Nat → Nat) : (rowv (part f 16 0)) = #[.int .u32 0, .int .u32 0, .int .u32 0, .int .u32 0, .int .u32 0, .int .u32 0, .int .u32 0, .int .u32 0, .int .u32 0, .int .u32 0, .int .u32 0, .int .u32 0, .int .u32 0, .int .u32 0, .int .u32 0, .int .u32 0] := by
  simp [part, rowv, List.range_succ]
theorem table_any (w : World) : Calls Try.prog 74 #[] w fun e w' => e = .returned (.agg (rowv ((List.range 16).map (shn 4)))) ∧ Below w.heap.size w w' := by
  have H0 := Lib.hid (sixteen (shn 4))
  go_enter Try.func74, Try.ntmps74
  go_wp2_with fail
  rw [← H0.out]
  go_loopw [3] (fun i wr => ∃ k : Nat, k ≤ 16 ∧ i = .int .i64 (k : Int) ∧ Arr wr w.heap.size 108 (part (shn 4) 16 0) ∧ Arr wr (w.heap.size + 1) 108 (part (shn 4) 16 k) ∧ Below w.heap.size w wr) (fun i _ => 16 - (intOf i).toNat)
  case atStart =>
    refine ⟨0, by omega, rfl, ?_, ?_, ?_⟩
    · exact heap_alloc2_old _ _ _
    · exact heap_alloc2_new _ _ _
    · exact ((Below.refl _ _).alloc (Nat.le_refl _) _).alloc (by simp) _
  case round =>
    obtain ⟨k, hk, rfl, ha, hc, hb⟩ := hrel
    have HA := Lib.hid ha
    have HC := Lib.hid hc
    have HB := Lib.hid hb
    by_cases hlt : k < 16
    · have hcell := hc.cell k (by rw [part_length]; exact hlt)
      have hfree := hc.free k
      clear ha hc hb
      go_wp2_with fail
      refine (shifted_any k 4 (by omega) (by omega) _).mono ?_
      rintro e w1 ⟨rfl, rfl⟩
      go_wp2_with fail
      go_roundw
      case rel =>
        refine ⟨k + 1, by omega, by go_num, HA.out.far (by simp) _, ?_, below_set HB.out (by omega) _ _⟩
        have := HC.out.set k (shn 4 k)
        rw [part_set] at this
        exact this
      case measure => simp [intOf]; omega
    · clear ha hc hb
      obtain rfl : k = 16 := by omega
      go_wp2_with (first | (refine wpList_load_row rfl 108 (.tmp 1) rfl (w.heap.size + 1) rfl 108 _ (0, 0) _ HC.out Try.underlying108 rfl info16 ?_) | (refine wpList_store_row rfl 108 (.tmp 0) (.tmp 12) rfl w.heap.size (rowv (part (shn 4) 16 16)) rfl rfl 108 _ HA.out info16 (by simp [rowv_size, part_length]) (rowv_one _) ?_))
      have HR := HA.out.setRow (part (shn 4) 16 16)
      refine bodyPost_ret (v := .agg (rowv (part (shn 4) 16 16))) (results_cell_row Try.results74 _ _ w.heap.size 108 _ (0, 0) _ rfl HR Try.underlying108 rfl (by simp [rowv_size, part_length, info16])) rfl ⟨by rw [part_all], below_row HB.out (Nat.le_refl _) _⟩
end Go.Proofs.Ytgflhbpmkcggnaa.Fm

/- Words of four bytes, as an array and as a number. -/
namespace Go.Proofs.Ytgflhbpmkcggnaa.Fm
open Go.ChangeShapes Go.WideShapes Go.ChangeAt Go.RowKit

/-- The cells of four bytes. -/
def w4 (l : List Nat) : Array Value := (bv l).toArray
theorem w4_be (n : Nat) : w4 (be4 n) = #[.int .u8 ((n / 16777216 % 256 : Nat) : Int), .int .u8 ((n / 65536 % 256 : Nat) : Int), .int .u8 ((n / 256 % 256 : Nat) : Int), .int .u8 ((n % 256 : Nat) : Int)] := rfl
theorem w4_part (f : Nat → Nat) : w4 (part f 4 0) = #[.int .u8 0, .int .u8 0, .int .u8 0, .int .u8 0] := by simp [part, w4, bv, List.range_succ]
/-- The i-th byte of a word, the highest first. -/
def byteAt (n i : Nat) : Nat := n / 2 ^ (8 * (3 - i)) % 256
theorem be4_words (n : Nat) : (List.range 4).map (byteAt n) = be4 n := by simp [List.range_succ, byteAt, be4]
theorem w4_get (l : List Nat) (i : Nat) (h : i < l.length) : (w4 l)[i]? = some (.int .u8 (l[i] : Int)) := by simp [w4, bv, List.getElem?_eq_getElem h]
theorem w4_set (l : List Nat) (i x : Nat) : (w4 l).setIfInBounds i (.int .u8 (x : Int)) = w4 (l.set i x) := by simp [w4, bv, List.map_set]
theorem w4_size (l : List Nat) : (w4 l).size = l.length := by simp [w4, bv]
theorem w4_one (l : List Nat) : (w4 l).all (·.oneCell') = true := by
  simp only [w4, bv, List.all_toArray, List.all_eq_true, List.mem_map]
  rintro x ⟨n, _, rfl⟩
  rfl
/-- Block b is an array of bytes. -/
def Ab (w : World) (b : Nat) (t : TypeId) (l : List Nat) : Prop := w.heap[b]? = some (.cells (w4 l) t (0, 0))
theorem Ab.cell {w : World} {b : Nat} {t : TypeId} {l : List Nat} (h : Ab w b t l) (i : Nat) (hi : i < l.length) : w.cell? ⟨b, i, none⟩ = some (.int .u8 (l[i] : Int)) := by
  rw [cell_of_row w b i _ t _ h, w4_get l i hi]
theorem Ab.free {w : World} {b : Nat} {t : TypeId} {l : List Nat} (h : Ab w b t l) (i : Nat) : w.frozen? ⟨b, i, none⟩ = false := frozen_of_row w b i _ t h
theorem Ab.set {w : World} {b : Nat} {t : TypeId} {l : List Nat} (h : Ab w b t l) (i x : Nat) : Ab (w.setCell ⟨b, i, none⟩ (.int .u8 (x : Int))) b t (l.set i x) := by
  unfold Ab
  rw [heap_setCell_same w b i _ t _ h, w4_set]
theorem Ab.far {w : World} {b : Nat} {t : TypeId} {l : List Nat} (h : Ab w b t l) {p : Addr} (hp : b ≠ p.block) (u : Value) : Ab (w.setCell p u) b t l := by
  unfold Ab
  rw [heap_setCell_other w p b u hp]; exact h
theorem Ab.below {w w' : World} {b B : Nat} {t : TypeId} {l : List Nat} (h : Ab w b t l) (hb : Below B w w') (hlt : b < B) : Ab w' b t l := by
  unfold Ab
  rw [hb.block b hlt]; exact h
theorem Ab.setRow {w : World} {b : Nat} {t : TypeId} {l : List Nat} (h : Ab w b t l) (r : List Nat) : Ab (w.setRow b (w4 r)) b t r := setRow_heap w b _ _ t (0, 0) h
/-- An array's bytes, as a slice. -/
theorem Ab.bs {w : World} {b : Nat} {t : TypeId} {l : List Nat} (h : Ab w b t l) (hl : l.length ≤ 100) : Bs w 0 w.heap.size (.slice (some ⟨b, 0, none⟩) l.length l.length) l := by
  have hlt : b < w.heap.size := (Array.getElem?_eq_some_iff.1 h).1
  refine ⟨_, _, rfl, Nat.le_refl _, by simp [maxLen]; omega, (fun h => by cases h), .inr ⟨b, 0, rfl, Nat.zero_le _, hlt, fun i u hu => ?_⟩⟩
  rw [cell_of_row w b _ _ t _ h, Nat.zero_add]
  simpa [w4] using hu

theorem info4 : (Try.prog.info? 81).map (·.size) = some 4 := by kernel_rfl
theorem byte_bits {n i : Nat} (hi : i < 4) : (n : Int) / 2 ^ (8 * (3 - i)) % 256 = ((byteAt n i : Nat) : Int) := by
  unfold byteAt
  match i, hi with
  | 0, _ => simp
  | 1, _ => simp
  | 2, _ => simp
  | 3, _ => simp

theorem wordOf_any (n : Nat) (hn : n < 4294967296) (w : World) : Calls Try.prog 47 #[.int .u32 (n : Int)] w fun e w' => e = .returned (.agg (w4 (be4 n))) ∧ Below w.heap.size w w' := by
  have H0 := Lib.hid (w4_part (byteAt n))
  have HN := Lib.hid hn
  clear hn
  go_enter Try.func47, Try.ntmps47
  go_wp2_with fail
  rw [← H0.out]
  go_loopw [5] (fun i wr => ∃ k : Nat, k ≤ 4 ∧ i = .int .i64 (k : Int) ∧ Ab wr w.heap.size 81 (part (byteAt n) 4 0) ∧ Ab wr (w.heap.size + 1) 81 (part (byteAt n) 4 k) ∧ Below w.heap.size w wr) (fun i _ => 4 - (intOf i).toNat)
  case atStart =>
    refine ⟨0, by omega, rfl, ?_, ?_, ?_⟩
    · exact heap_alloc2_old _ _ _
    · exact heap_alloc2_new _ _ _
    · exact ((Below.refl _ _).alloc (Nat.le_refl _) _).alloc (by simp) _
  case round =>
    obtain ⟨k, hk, rfl, ha, hc, hb⟩ := hrel
    have HA := Lib.hid ha
    have HC := Lib.hid hc
    have HB := Lib.hid hb
    by_cases hlt : k < 4
    · have hcell := hc.cell k (by rw [part_length]; exact hlt)
      have hfree := hc.free k
      have HX := Lib.hid (byte_bits (n := n) hlt)
      clear ha hc hb
      go_wp2_with fail
      rw [HX.out]
      go_roundw
      case rel =>
        refine ⟨k + 1, by omega, by go_num, HA.out.far (by simp) _, ?_, below_set HB.out (by omega) _ _⟩
        have := HC.out.set k (byteAt n k)
        rw [part_set] at this
        exact this
      case measure => simp [intOf]; omega
    · clear ha hc hb
      obtain rfl : k = 4 := by omega
      go_wp2_with (first | (refine wpList_load_row rfl 81 (.tmp 3) rfl (w.heap.size + 1) rfl 81 _ (0, 0) _ HC.out Try.underlying81 rfl info4 ?_) | (refine wpList_store_row rfl 81 (.tmp 2) (.tmp 17) rfl w.heap.size (w4 (part (byteAt n) 4 4)) rfl rfl 81 _ HA.out info4 (by simp [w4_size, part_length]) (w4_one _) ?_))
      have HR := HA.out.setRow (part (byteAt n) 4 4)
      refine bodyPost_ret (v := .agg (w4 (part (byteAt n) 4 4))) (results_cell_row Try.results47 _ _ w.heap.size 81 _ (0, 0) _ rfl HR Try.underlying81 rfl (by simp [w4_size, part_length, info4])) rfl ⟨by rw [part_all, be4_words], below_row HB.out (Nat.le_refl _) _⟩

/-- A number out of its bytes, one after another. -/
theorem num4_snoc (l : List Nat) (c : Nat) : num4 (l ++ [c]) = num4 l * 256 + c := by simp [num4]
theorem num4_take {l : List Nat} {k : Nat} (h : k < l.length) : num4 (l.take (k + 1)) = num4 (l.take k) * 256 + l[k] := by rw [List.take_succ_eq_append_getElem h, num4_snoc]
theorem num4_lt3 {l : List Nat} (h : l.length = 4) (hb : ∀ c ∈ l, c < 256) {k : Nat} (hk : k < 4) : num4 (l.take k) < 16777216 := by
  obtain ⟨a, b, c, d, rfl⟩ := list4 h
  have ha := hb a (by simp)
  have hb' := hb b (by simp)
  have hc := hb c (by simp)
  match k, hk with
  | 0, _ => simp [num4]
  | 1, _ => simp [num4]; omega
  | 2, _ => simp [num4]; omega
  | 3, _ => simp [num4]; omega
theorem or_byte {m c : Nat} (hm : m < 16777216) (hc : c < 256) : bits .or .u32 ((m : Int) * 256 % 4294967296) (c : Int) = ((m * 256 + c : Nat) : Int) := by
  have e : (m : Int) * 256 % 4294967296 = ((m * 256 : Nat) : Int) := by omega
  rw [e, u32_or_nat _ _ (by omega) (by omega)]
  have : m * 256 ||| c = m * 256 + c := by
    have := Nat.shiftLeft_add_eq_or_of_lt (i := 8) (b := c) (by simpa using hc) m
    simpa [Nat.shiftLeft_eq] using this.symm
  rw [this]

theorem idx0 (a b c d : Nat) (w : World) : (Instr.index 81 (.agg #[.int .u8 (a : Int), .int .u8 (b : Int), .int .u8 (c : Int), .int .u8 (d : Int)]) (.int .i64 0)).run Try.prog w = .ok (.int .u8 (a : Int)) w := by kernel_rfl
theorem idx1 (a b c d : Nat) (w : World) : (Instr.index 81 (.agg #[.int .u8 (a : Int), .int .u8 (b : Int), .int .u8 (c : Int), .int .u8 (d : Int)]) (.int .i64 1)).run Try.prog w = .ok (.int .u8 (b : Int)) w := by kernel_rfl
theorem idx2 (a b c d : Nat) (w : World) : (Instr.index 81 (.agg #[.int .u8 (a : Int), .int .u8 (b : Int), .int .u8 (c : Int), .int .u8 (d : Int)]) (.int .i64 2)).run Try.prog w = .ok (.int .u8 (c : Int)) w := by kernel_rfl
theorem idx3 (a b c d : Nat) (w : World) : (Instr.index 81 (.agg #[.int .u8 (a : Int), .int .u8 (b : Int), .int .u8 (c : Int), .int .u8 (d : Int)]) (.int .i64 3)).run Try.prog w = .ok (.int .u8 (d : Int)) w := by kernel_rfl
theorem run_index4 {l : List Nat} (h : l.length = 4) {k : Nat} (hk : k < 4) {y : Nat} (hy : l[k]? = some y) (w : World) :
    (Instr.index 81 (.agg (w4 l)) (.int .i64 (k : Int))).run Try.prog w = .ok (.int .u8 (y : Int)) w := by
  obtain ⟨a, b, c, d, rfl⟩ := list4 h
  match k, hk with
  | 0, _ => simp at hy; subst hy; exact idx0 a b c d w
  | 1, _ => simp at hy; subst hy; exact idx1 a b c d w
  | 2, _ => simp at hy; subst hy; exact idx2 a b c d w
  | 3, _ => simp at hy; subst hy; exact idx3 a b c d w

set_option maxRecDepth 100000 in
theorem number_any (l : List Nat) (h4 : l.length = 4) (hb : ∀ c ∈ l, c < 256) (w : World) : Calls Try.prog 86 #[.agg (w4 l)] w fun e w' => e = .returned (.int .u32 (num4 l : Nat)) ∧ Below w.heap.size w w' := by
  have H4 := Lib.hid h4
  have HL := Lib.hid hb
  have HA : Hid (Ab (w.alloc (.cells (w4 l) 81)) w.heap.size 81 l) := heap_alloc_new _ _
  have HB := Lib.hid ((Below.refl w.heap.size w).alloc (Nat.le_refl _) (.cells (w4 l) 81))
  obtain ⟨W, hW⟩ : ∃ W, W = w.alloc (.cells (w4 l) 81) := ⟨_, rfl⟩
  rw [← hW] at HA HB
  have HW := Lib.hid hW
  clear hW h4 hb
  go_enter Try.func86, Try.ntmps86
  obtain ⟨a, b, c, d, hl⟩ := list4 H4.out
  have HW4 : Hid (w4 l = #[.int .u8 (a : Int), .int .u8 (b : Int), .int .u8 (c : Int), .int .u8 (d : Int)]) := by rw [hl]; rfl
  have c0 := HA.out.cell 0 (by rw [H4.out]; omega)
  have c1 := HA.out.cell 1 (by rw [H4.out]; omega)
  have c2 := HA.out.cell 2 (by rw [H4.out]; omega)
  have c3 := HA.out.cell 3 (by rw [H4.out]; omega)
  simp only [hl, List.getElem_cons_zero, List.getElem_cons_succ] at c0 c1 c2 c3
  clear hl
  go_upto_region 2 with (fail)
  rw [← HW.out]
  go_wp2_with fail
  rw [← HW4.out]
  go_loop [3, 7] (fun r i => ∃ (k m : Nat), k ≤ 4 ∧ i = .int .i64 (k : Int) ∧ r = .int .u32 (m : Int) ∧ Hid (m = num4 (l.take k))) (fun _ i => 4 - (intOf i).toNat)
  case atStart => exact ⟨0, 0, Nat.zero_le _, rfl, rfl, Lib.hid rfl⟩
  case round =>
    obtain ⟨k, m, hk, rfl, rfl, hm⟩ := hrel
    by_cases hlt : k < 4
    · have hkl : k < l.length := by rw [H4.out]; exact hlt
      obtain ⟨y, hy⟩ : ∃ y, y = l[k] := ⟨_, rfl⟩
      have hix := run_index4 H4.out hlt (y := y) (by rw [List.getElem?_eq_getElem hkl, hy]) W
      have HM : Hid (m < 16777216) := by rw [hm.out]; exact num4_lt3 H4.out HL.out hlt
      have hc256 : y < 256 := by rw [hy]; exact HL.out _ (List.getElem_mem hkl)
      have HO := Lib.hid (or_byte HM.out hc256)
      have HT : Hid (num4 (l.take (k + 1)) = m * 256 + y) := by rw [hm.out, hy]; exact num4_take hkl
      clear hy
      go_wp2_with fail
      go_round
      case rel => exact ⟨k + 1, m * 256 + y, by omega, by go_num, by rw [HO.out], Lib.hid HT.out.symm⟩
      case measure => simp [intOf]; omega
    · go_wp2_with fail
      go_ret
      obtain rfl : k = 4 := by omega
      exact ⟨by rw [hm.out, List.take_of_length_le (by rw [H4.out]; exact Nat.le_refl _)]; rfl, HB.out⟩
end Go.Proofs.Ytgflhbpmkcggnaa.Fm

/- Size, and what a length claims. -/
namespace Go.Proofs.Ytgflhbpmkcggnaa.Fm
open Go.ChangeShapes Go.WideShapes Go.ChangeAt Go.RowKit

/-- How many bytes a frame of so many has, of any number. -/
def isize (n : Int) : Int := if 1 ≤ n ∧ n ≤ 1048576 then n + 8 else 0
theorem isize_nat (n : Nat) : isize (n : Int) = (fsize n : Nat) := by
  unfold isize fsize
  by_cases h : 1 ≤ n ∧ n ≤ 1048576
  · rw [if_pos h, if_pos (by omega)]; rfl
  · rw [if_neg h, if_neg (by omega)]; rfl
theorem size_any (n : Int) (w : World) : Calls Try.prog 60 #[.int .i64 n] w fun e w' => e = .returned (.int .i64 (isize n)) ∧ w = w' := by
  by_cases h : n < 1
  · have hd : decide (n < 1) = true := by simp [h]
    have hr : isize n = 0 := by unfold isize; rw [if_neg (by omega)]
    rw [hr]
    clear h
    go_enter Try.func60, Try.ntmps60
    go_wp2_with fail
    go_ret
    exact ⟨rfl, rfl⟩
  · have hd : decide (n < 1) = false := by simp; omega
    by_cases k : n ≤ 1048576
    · have hd2 : decide ((1048576 : Int) < n) = false := by simp; omega
      have hr : isize n = 8 + n := by unfold isize; rw [if_pos (by omega)]; omega
      have hn : 1 ≤ n := by omega
      rw [hr]
      clear h
      go_enter Try.func60, Try.ntmps60
      go_wp2_with fail
      go_ret
      exact ⟨rfl, rfl⟩
    · have hd2 : decide ((1048576 : Int) < n) = true := by simp; omega
      have hr : isize n = 0 := by unfold isize; rw [if_neg (by omega)]
      rw [hr]
      clear h k
      go_enter Try.func60, Try.ntmps60
      go_wp2_with fail
      go_ret
      exact ⟨rfl, rfl⟩

theorem run_arr (b o n c : Nat) (h : 4 ≤ n) (w : World) : (Instr.arrayAt 81 (.slice (some ⟨b, o, none⟩) n c)).run Try.prog w = .ok (.pointer (some ⟨b, o, none⟩)) w := by
  unfold Instr.arrayAt
  simp [go_sem]
  omega

/-- The first four bytes, cell by cell. -/
theorem By.four {w : World} {lo hi : Nat} {A : Option Addr} {l : List Nat} (h : By w lo hi A l) (h4 : 4 ≤ l.length) : ∃ b o x0 x1 x2 x3, A = some ⟨b, o, none⟩ ∧ l.take 4 = [x0, x1, x2, x3] ∧
    w.cell? ⟨b, o, none⟩ = some (.int .u8 (x0 : Int)) ∧ w.cell? ⟨b, o + 1, none⟩ = some (.int .u8 (x1 : Int)) ∧ w.cell? ⟨b, o + 2, none⟩ = some (.int .u8 (x2 : Int)) ∧ w.cell? ⟨b, o + 3, none⟩ = some (.int .u8 (x3 : Int)) := by
  obtain ⟨x0, x1, x2, x3, r, rfl⟩ : ∃ a b c d r, l = a :: b :: c :: d :: r := by
    match l, h4 with
    | a :: b :: c :: d :: r, _ => exact ⟨a, b, c, d, r, rfl⟩
  rcases h with h | ⟨b, o, e, _, _, hc⟩
  · simp [bv] at h
  · exact ⟨b, o, x0, x1, x2, x3, e, rfl, by simpa using hc 0 (.int .u8 (x0 : Int)) (by simp [bv]), hc 1 (.int .u8 (x1 : Int)) (by simp [bv]), hc 2 (.int .u8 (x2 : Int)) (by simp [bv]), hc 3 (.int .u8 (x3 : Int)) (by simp [bv])⟩

set_option maxRecDepth 100000 in
set_option maxHeartbeats 1000000 in
theorem claimed_any (v : Value) (lo hi : Nat) (l : List Nat) (w : World) (hv : Bs w lo hi v l) (hl : ∀ c ∈ l, c < 256) :
    Calls Try.prog 64 #[v] w fun e w' => e = .returned (.int .i64 (claimed l : Nat)) ∧ Below w.heap.size w w' := by
  have HL := Lib.hid hl
  obtain ⟨A, c, rfl, q1, q2, q3, hby⟩ := hv
  by_cases h8 : l.length < 8
  · have hd : decide ((l.length : Int) < 8) = true := by simp; omega
    have hr : claimed l = 0 := by unfold claimed; rw [if_pos h8]
    rw [hr]
    clear h8 q1 q2 q3 hl
    go_enter Try.func64, Try.ntmps64
    go_wp2_with fail
    go_ret
    exact ⟨rfl, Below.refl _ _⟩
  · have hd : decide ((l.length : Int) < 8) = false := by simp; omega
    have hr : claimed l = fsize (num4 (l.take 4)) := by unfold claimed; rw [if_neg h8]
    have hl4 : (l.take 4).length = 4 := by simp; omega
    have HN := Lib.hid (num4_lt hl4 (fun c hc => hl c (List.mem_of_mem_take hc)))
    have HNUM := Lib.hid (number_any (l.take 4) hl4 (fun c hc => hl c (List.mem_of_mem_take hc)))
    obtain ⟨b0, o0, x0, x1, x2, x3, rfl, hT, c0, c1, c2, c3⟩ := By.four hby (by omega)
    have hW4 : Hid (w4 (l.take 4) = #[.int .u8 (x0 : Int), .int .u8 (x1 : Int), .int .u8 (x2 : Int), .int .u8 (x3 : Int)]) := by rw [hT]; rfl
    have hn8 : 8 ≤ l.length := by omega
    have hc8 : 8 ≤ c := by omega
    have ha := run_arr b0 o0 4 c (by omega) w
    rw [hr]
    clear h8 q1 q3 hl hr hT
    go_enter Try.func64, Try.ntmps64
    go_wp2_with fail
    rw [← hW4.out]
    refine (HNUM.out _).mono ?_
    rintro e w1 ⟨rfl, hb1⟩
    have HB := Lib.hid hb1
    clear hb1
    have hw64 : wrap64 (num4 (l.take 4) : Int) = (num4 (l.take 4) : Int) := by have := HN.out; unfold wrap64; omega
    have HS := Lib.hid (size_any (num4 (l.take 4) : Int) w1)
    rw [isize_nat] at HS
    go_wp2_with fail
    rw [hw64]
    refine HS.out.mono ?_
    rintro e w2 ⟨rfl, rfl⟩
    clear hw64
    go_wp2_with fail
    go_ret
    exact ⟨rfl, HB.out⟩
end Go.Proofs.Ytgflhbpmkcggnaa.Fm

/- crc takes bytes by halves, and answers the register behind them. -/
namespace Go.Proofs.Ytgflhbpmkcggnaa.Fm
open Go.ChangeShapes Go.WideShapes Go.ChangeAt Go.RowKit

def halves : List Nat := (List.range 16).map (shn 4)
theorem halves_length : halves.length = 16 := by simp [halves]
theorem mask15 {m : Nat} (h : m < 4294967296) : bits .and .u32 (m : Int) 15 = ((m % 16 : Nat) : Int) := by
  have := u32_and_nat m 15 h (by omega)
  rw [nat_mask4] at this
  exact this
theorem half_bits {m : Nat} (h : m < 4294967296) : bits .xor .u32 ((m : Int) / 16) ((halves[m % 16]'(by rw [halves_length]; omega) : Nat) : Int) = (shn 4 m : Nat) := by
  have e : halves[m % 16]'(by rw [halves_length]; omega) = shn 4 (m % 16) := words_get (shn 4) 16 (m % 16) _
  have e2 : ((m / 16 : Nat) : Int) = (m : Int) / 16 := by omega
  rw [e, ← e2, xor_u32 (by omega) (shn4_lt16 (by omega)), ← shn4]

theorem reg_take (s : Nat) (l : List Nat) {k : Nat} (h : k < l.length) : reg s (l.take (k + 1)) = shn 8 (reg s (l.take k) ^^^ l[k]) := by
  rw [List.take_succ_eq_append_getElem h, reg_snoc]
theorem reg_take_lt {s : Nat} {l : List Nat} (hs : s < 4294967296) (hl : ∀ c ∈ l, c < 256) (k : Nat) : reg s (l.take k) < 4294967296 := reg_lt hs fun c hc => hl c (List.mem_of_mem_take hc)

set_option maxHeartbeats 1000000 in
theorem taken_any (s : Nat) (hs : s < 4294967296) (v : Value) (lo hi : Nat) (l : List Nat) (w : World) (hv : Bs w lo hi v l) (hhi : hi ≤ w.heap.size) (hl : ∀ c ∈ l, c < 256) :
    Calls Try.prog 75 #[.agg (rowv halves), .int .u32 (s : Int), v] w fun e w' => e = .returned (.int .u32 (reg s l : Nat)) ∧ Below w.heap.size w w' := by
  have HS := Lib.hid hs
  have HL := Lib.hid hl
  obtain ⟨A, c, rfl, q1, q2, q3, hby⟩ := hv
  have hlen : l.length ≤ 9223372036854775807 := by unfold maxLen at q2; omega
  clear hs hl q1 q2 q3
  have hA : Arr (w.alloc (.cells (rowv halves) 108)) w.heap.size 108 halves := heap_alloc_new _ _
  have HA := Lib.hid hA
  have hby2 : By (w.alloc (.cells (rowv halves) 108)) lo hi A l := Sl.alloc hby hhi _
  have HBY := Lib.hid hby2
  have HB := Lib.hid ((Below.refl w.heap.size w).alloc (Nat.le_refl _) (.cells (rowv halves) 108))
  obtain ⟨W, hW⟩ : ∃ W, W = w.alloc (.cells (rowv halves) 108) := ⟨_, rfl⟩
  have HW := Lib.hid hW
  rw [← hW] at HA HBY HB
  clear hA hby hby2 hW
  go_enter Try.func75, Try.ntmps75
  go_wp2_with fail
  rw [← HW.out]
  go_loop [1, 12] (fun r i => ∃ (k m : Nat), k ≤ l.length ∧ i = .int .i64 (k : Int) ∧ r = .int .u32 (m : Int) ∧ Hid (m = reg s (l.take k))) (fun _ i => l.length - (intOf i).toNat)
  case atStart => exact ⟨0, s, Nat.zero_le _, rfl, rfl, Lib.hid rfl⟩
  case round =>
    obtain ⟨k, m, hk, rfl, rfl, hm⟩ := hrel
    by_cases hlt : k < l.length
    · obtain ⟨b, o, rfl, _, _, hcell⟩ := HBY.out.at_ hlt
      have hmlt := Lib.hid (show m < 4294967296 by rw [hm.out]; exact reg_take_lt HS.out HL.out k)
      have hc256 := HL.out l[k] (List.getElem_mem hlt)
      have hx := Lib.hid (xor_u32 hmlt.out (show l[k] < 4294967296 by omega))
      go_wp2_with fail
      rw [hx.out]
      go_loop [1, 20] (fun r j => ∃ (i x : Nat), i ≤ 2 ∧ j = .int .i64 (i : Int) ∧ r = .int .u32 (x : Int) ∧ Hid (x = shn (4 * i) (m ^^^ l[k]))) (fun _ j => 2 - (intOf j).toNat)
      case atStart => exact ⟨0, m ^^^ l[k], Nat.zero_le _, rfl, rfl, Lib.hid rfl⟩
      case round =>
        obtain ⟨i, x, hi2, rfl, rfl, hx2⟩ := hrel
        have hxlt : x < 4294967296 := by rw [hx2.out]; exact shn_lt (xor_lt hmlt.out (by omega))
        by_cases hlt2 : i < 2
        · have hcell2 := HA.out.cell (x % 16) (by rw [halves_length]; omega)
          have hmask := mask15 hxlt
          have HB2 := Lib.hid (half_bits hxlt)
          have h16 : x % 16 < 16 := by omega
          go_wp2_with fail
          go_round
          case rel => exact ⟨i + 1, shn 4 x, by omega, by go_num, by rw [HB2.out], Lib.hid (by rw [hx2.out, ← shn_add]; congr 1)⟩
          case measure => simp [intOf]; omega
        · obtain rfl : i = 2 := by omega
          clear hxlt
          go_wp2_with fail
          go_round
          case rel => exact ⟨k + 1, x, by omega, by go_num, rfl, Lib.hid (by rw [hx2.out, reg_take s l hlt, hm.out])⟩
          case measure => simp [intOf]; omega
    · go_wp2_with fail
      go_ret
      obtain rfl : k = l.length := by omega
      exact ⟨by rw [hm.out, List.take_length]; rfl, HB.out⟩
end Go.Proofs.Ytgflhbpmkcggnaa.Fm

/- Sum answers the sum. -/
namespace Go.Proofs.Ytgflhbpmkcggnaa.Fm
open Go.ChangeShapes Go.WideShapes Go.ChangeAt Go.RowKit

theorem xor_ones32 {m : Nat} (h : m < 4294967296) : bits BinOp.xor IntKind.u32 IntKind.u32.max (m : Int) = ((m ^^^ ones : Nat) : Int) := by
  have e : IntKind.u32.max = ((4294967295 : Nat) : Int) := by kernel_rfl
  rw [e, xor_u32 (by omega) h, Nat.xor_comm]
  rfl

theorem table_halves (w : World) : Calls Try.prog 74 #[] w fun e w' => e = .returned (.agg (rowv halves)) ∧ Below w.heap.size w w' := table_any w

theorem reg_flat (s : Nat) (ls : List (List Nat)) {k : Nat} (h : k < ls.length) : reg s (ls.take (k + 1)).flatten = reg (reg s (ls.take k).flatten) ls[k] := by
  rw [flat_take_succ ls h, reg_append]

set_option maxHeartbeats 1000000 in
theorem sum_any (A : Option Addr) (c lo hi : Nat) (vs : List Value) (ls : List (List Nat)) (w : World) (h : Rows2 w lo hi A vs ls) (hhi : hi ≤ w.heap.size) (hc : c ≤ maxLen) (hlc : ls.length ≤ c) (hl : ∀ l ∈ ls, ∀ x ∈ l, x < 256) :
    Calls Try.prog 48 #[.slice A ls.length c] w fun e w' => e = .returned (.int .u32 (crc ls.flatten : Nat)) ∧ Below w.heap.size w w' := by
  have hlen : ls.length ≤ 9223372036854775807 := by unfold maxLen at hc; omega
  have HL := Lib.hid hl
  have HROW := Lib.hid h
  have htop : ∀ k : Nat, reg ones (ls.take k).flatten < 4294967296 := fun k => reg_lt ones_lt fun x hx => by
    obtain ⟨l, hl1, hl2⟩ := List.mem_flatten.1 hx
    exact hl l (List.mem_of_mem_take hl1) x hl2
  have HT := Lib.hid htop
  clear hc hlc hl h htop
  go_enter Try.func48, Try.ntmps48
  go_wp2_with fail
  refine (table_halves _).mono ?_
  rintro e w1 ⟨rfl, hb1⟩
  have hz1 := hb1.size
  have HB1 := Lib.hid hb1
  clear hb1
  go_wp2_with (refine wpList_store_row rfl 108 (.tmp 3) (.tmp 7) rfl w1.heap.size (rowv halves) rfl rfl 108 _ (heap_alloc_new _ _) info16 (by simp [rowv_size, halves_length]) (rowv_one _) ?_)
  obtain ⟨W, hW⟩ : ∃ W, W = (w1.alloc (Obj.cells #[Value.int IntKind.u32 0, Value.int IntKind.u32 0, Value.int IntKind.u32 0, Value.int IntKind.u32 0, Value.int IntKind.u32 0, Value.int IntKind.u32 0, Value.int IntKind.u32 0, Value.int IntKind.u32 0, Value.int IntKind.u32 0, Value.int IntKind.u32 0, Value.int IntKind.u32 0, Value.int IntKind.u32 0, Value.int IntKind.u32 0, Value.int IntKind.u32 0, Value.int IntKind.u32 0, Value.int IntKind.u32 0] 108)).setRow w1.heap.size (rowv halves) := ⟨_, rfl⟩
  have HA : Hid (Arr W w1.heap.size 108 halves) := by rw [hW]; exact setRow_heap _ _ _ _ _ (0, 0) (heap_alloc_new _ _)
  have HB : Hid (Below w.heap.size w W) := by rw [hW]; exact below_row (HB1.out.alloc hz1 _) hz1 _
  have HZ : Hid (w1.heap.size < W.heap.size) := by rw [hW]; simp [Hid]
  rw [← hW]
  clear hW HB1
  go_loopw [4, 10] (fun r i wr => ∃ (k m : Nat), k ≤ ls.length ∧ i = .int .i64 (k : Int) ∧ r = .int .u32 (m : Int) ∧ Hid (m = reg ones (ls.take k).flatten) ∧ Arr wr w1.heap.size 108 halves ∧ w1.heap.size < wr.heap.size ∧ Below w.heap.size w wr) (fun _ i _ => ls.length - (intOf i).toNat)
  case atStart => exact ⟨0, ones, Nat.zero_le _, rfl, rfl, Lib.hid rfl, HA.out, HZ.out, HB.out⟩
  case round =>
    obtain ⟨k, m, hk, rfl, rfl, hm, ha, hz, hb⟩ := hrel
    have HA2 := Lib.hid ha
    have HB2 := Lib.hid hb
    have HM := Lib.hid (show m < 4294967296 by rw [hm.out]; exact HT.out k)
    clear ha hb
    by_cases hlt : k < ls.length
    · have hwr := HROW.out.below HB2.out hhi
      obtain ⟨b, o, A', c', rfl, hcell, q1, q2, q3, q4⟩ := hwr.at_ hlt
      have HV : Hid (Bs wr lo hi (.slice A' ls[k].length c') ls[k]) := ⟨A', c', rfl, q1, q2, q3, q4⟩
      clear hwr q1 q2 q3 q4
      go_wp2_with (refine wpList_load_row rfl 108 (.tmp 3) rfl w1.heap.size rfl 108 _ (0, 0) _ HA2.out Try.underlying108 rfl info16 ?_)
      refine (taken_any m HM.out _ lo hi ls[k] wr HV.out (by omega) (fun x hx => HL.out _ (List.getElem_mem hlt) x hx)).mono ?_
      rintro e w2 ⟨rfl, hb2⟩
      have HB3 := Lib.hid hb2
      have hz2 := hb2.size
      clear hb2
      go_wp2_with fail
      go_roundw
      case rel => exact ⟨k + 1, _, by omega, by go_num, rfl, Lib.hid (by rw [reg_flat ones ls hlt, hm.out]), HA2.out.below HB3.out hz, by omega, HB2.out.trans (HB3.out.mono (by omega))⟩
      case measure => simp [intOf]; omega
    · have HX := Lib.hid (xor_ones32 HM.out)
      go_wp2_with fail
      go_ret
      obtain rfl : k = ls.length := by omega
      exact ⟨by rw [HX.out, hm.out, List.take_length]; rfl, HB2.out⟩

/-- A row of one slice of bytes, in a block that was made for it. -/
theorem rows_one {w : World} {lo hi : Nat} {v : Value} {l : List Nat} (h : Bs w lo hi v l) (hhi : hi ≤ w.heap.size) : Rows2 (w.alloc (.cells #[v] 29)) 0 (w.heap.size + 1) (some ⟨w.heap.size, 0, none⟩) [v] [l] := by
  refine ⟨.inr ⟨w.heap.size, 0, rfl, Nat.zero_le _, by omega, fun i u hu => ?_⟩, rfl, fun i u r hu hr => ?_⟩
  · rw [World.cell?_alloc_at _ _ _ _ rfl, Nat.zero_add]
    simpa using hu
  · cases i with
    | zero => simp at hu hr; subst hu hr; exact (h.alloc hhi _).wide (Nat.zero_le _) (by omega)
    | succ i => simp at hu

end Go.Proofs.Ytgflhbpmkcggnaa.Fm

/- slices.Clone at bytes. -/
namespace Go.Proofs.Ytgflhbpmkcggnaa.Fm
open Go.RowKit
theorem nilq (A : Option Addr) (n c : Nat) (w : World) : (binOp .eql 29 (.slice A n c) (.slice none 0 0)).run Try.prog w = .ok (.bool A.isNone) w := Lib.run_eql_slice_nil w _ _ A n c 0 0 Try.underlying29

theorem own_empty (w : World) (e : TypeId) : (w.alloc (.cells #[] e)).ownsRow w.heap.size e 1 (.slice (some ⟨w.heap.size, 0, none⟩) 0 0) 0 [] :=
  ⟨by simp, .inr ⟨w.heap.size, 0, _, rfl, Nat.le_refl _, heap_alloc_new w _, Nat.le_refl _, by simp [maxLen], by simp, by simp⟩⟩

set_option maxHeartbeats 400000 in
theorem clone_any (v : Value) (lo hi : Nat) (l : List Nat) (w : World) (h : Bs w lo hi v l) (hhi : hi ≤ w.heap.size) (hl : l.length ≤ 1099511627776) :
    Calls Try.prog 61 #[v] w (NewBy w l) := by
  obtain ⟨i0, hi0, hz0, hz1, hz2⟩ := info_parts t5info
  have HI := Lib.hid hi0
  clear hi0
  obtain ⟨A, c, rfl, h1, h2, hnil, hby⟩ := h
  rcases A with _ | a
  · obtain rfl := hnil rfl
    have hl0 : l = [] := by simpa using h1
    subst hl0
    have hq := nilq none 0 0
    clear h1 h2 hl
    go_enter Try.func61, Try.ntmps61
    go_wp2_with fail
    go_ret
    exact ⟨_, rfl, World.ownsRow_nil _ _ _ _, Below.refl _ _⟩
  · have hq := fun n => nilq (some a) n c
    have HL := Lib.hid hl
    clear h1 h2 hl hnil
    go_enter Try.func61, Try.ntmps61
    go_wp2_with (at_builtin; refine wpList_addall rfl (.tmp 5) (.tmp 6) 29 rfl w.heap.size 5 i0 (.int .u8 0) 1 Try.underlying29 HI.out hz0 hz1 hz2 rfl _ _ _ rfl (own_empty w _) lo hi (some a) l.length c (bv l) rfl ?c1 ?c2 ?c3 (bv_one l) ?c4 ?c5 ?c6 ?_)
    case c1 => intro h; cases h
    case c2 => exact bv_length l
    case c3 => exact Sl.alloc hby hhi _
    case c4 => have := HL.out; unfold maxLen; omega
    case c5 => have := HL.out; omega
    case c6 => simp
    intro v1 w1 hown1 hb1
    go_wp2
    go_ret
    exact ⟨v1, rfl, by simpa using hown1, hb1 _ ((Below.refl _ _).alloc (Nat.le_refl _) _)⟩
end Go.Proofs.Ytgflhbpmkcggnaa.Fm

/- slices.Grow and Concat at bytes. -/
namespace Go.Proofs.Ytgflhbpmkcggnaa.Fm
open Go.ChangeShapes Go.WideShapes Go.ChangeAt Go.RowKit

/-- An empty row of the call's own. -/
def Fresh (w : World) (e : Ending) (w' : World) : Prop := ∃ v, e = .returned v ∧ w'.ownsRow w.heap.size 5 1 v 0 [] ∧ Below w.heap.size w w'

set_option maxHeartbeats 400000 in
theorem grow_nil (n : Nat) (hn : n ≤ 1099511627776) (w : World) :
    Calls Try.prog 76 #[.slice none 0 0, .int .i64 n] w (Fresh w) := by
  obtain ⟨i0, hi0, hz0, hz1, hz2⟩ := info_parts t5info
  have HI := Lib.hid hi0
  clear hi0
  have hw : wrap64 ((n : Int) - 0) = (n : Int) := by unfold wrap64; omega
  have hd : decide ((n : Int) < 0) = false := by simp
  by_cases h0 : n = 0
  · subst h0
    clear hn hw
    go_enter Try.func76, Try.ntmps76
    go_wp2_with fail
    go_ret
    exact ⟨_, rfl, World.ownsRow_nil _ _ _ _, Below.refl _ _⟩
  · have hd2 : decide ((0 : Int) < (n : Int)) = true := by simp; omega
    have hd3 : decide (0 < n) = true := by simp; omega
    have hbig : Builtin.nextslicecap (0 + n) 0 * i0.bytes ≤ 281474976710656 := by
      have := growslice_fits (need := 0 + n) (old := 0) (bytes := i0.bytes) (by omega) (by rw [hz2]; omega)
      exact this
    have hG : n ≤ grownCap w (0 + n) 0 5 := by have := grownCap_ge w (0 + n) 0 5; omega
    have hG63 : grownCap w (0 + n) 0 5 ≤ maxLen := grownCap_le_maxLen w (0 + n) 0 5 (by unfold maxLen; omega)
    have hr := fun ty => Lib.run_append_grow_zeros (P := Try.prog) w 29 3 ty 5 i0 (.int .u8 0) .i64 .i64 Try.underlying29 Try.underlying3 HI.out hz0 none 0 0 [] (run_firstCells_none _ _ _ _ _) n (by omega) (by omega) (by omega) (by omega) (by rw [hz2]; omega) hbig
    obtain ⟨G, hGe⟩ : ∃ G, G = grownCap w (0 + n) 0 5 := ⟨_, rfl⟩
    rw [← hGe] at hr hG hG63
    have HR := Lib.hid hr
    have HG := Lib.hid hG63
    have hn' : (n : Int) ≤ 1099511627776 := by omega
    clear hr hbig hGe hn hw hG63
    go_enter Try.func76, Try.ntmps76
    go_wp2_with (at_builtin; refine Lib.wpList_append_run _ rfl (.tmp 20) (.tmp 21) _ _ rfl _ _ rfl rfl _ _ (HR.out _) ?_)
    go_ret
    have hG63 := HG.out
    refine ⟨_, rfl, ⟨by simp, .inr ⟨w.heap.size, G, Builtin.zeroCells #[Value.int IntKind.u8 0] n ++ Builtin.zeroCells #[Value.int IntKind.u8 0] (G - n), rfl, Nat.le_refl _, heap_alloc_new w _, Nat.zero_le _, hG63, ?_, by simp⟩⟩, ((Below.refl _ _).alloc (Nat.le_refl _) _).drew⟩
    rw [Array.size_append, size_zeroCells, size_zeroCells]; simp; omega

set_option maxHeartbeats 800000 in
theorem concat_any (A : Option Addr) (c lo hi : Nat) (vs : List Value) (ls : List (List Nat)) (w : World) (h : Rows2 w lo hi A vs ls) (hhi : hi ≤ w.heap.size) (hc : c ≤ maxLen) (hlc : ls.length ≤ c)
    (hl : ls.flatten.length ≤ 1099511627776) : Calls Try.prog 49 #[.slice A ls.length c] w (NewBy w ls.flatten) := by
  obtain ⟨i0, hi0, hz0, hz1, hz2⟩ := info_parts t5info
  have HI := Lib.hid hi0
  have HC := Lib.hid hc
  have HL := Lib.hid hl
  have HLC := Lib.hid hlc
  clear hi0 hc hl hlc
  go_enter Try.func49, Try.ntmps49
  go_wp2_with fail
  go_loop [3, 5, 11] (fun s _ i => ∃ k : Nat, k ≤ ls.length ∧ i = .int .i64 (k : Int) ∧ s = .int .i64 (tot ls k : Int)) (fun _ _ i => ls.length - (intOf i).toNat)
  case atStart => exact ⟨0, Nat.zero_le _, rfl, by rw [tot_zero]; rfl⟩
  case round =>
    obtain ⟨k, hk, rfl, rfl⟩ := hrel
    by_cases hlt : k < ls.length
    · obtain ⟨b, o, A', c', rfl, hcell, h1, h2, _, _⟩ := h.at_ hlt
      have HS := Lib.hid (tot_succ ls hlt)
      have hd : decide (k < ls.length) = true := by simp [hlt]
      have hb : (tot ls k : Int) + (ls[k].length : Int) ≤ 1099511627776 := by
        have e := HS.out
        have := HL.out
        have := tot_le ls (k + 1)
        omega
      have hb2 : (k : Int) + 1 ≤ 9223372036854775807 := by have := HC.out; have := HLC.out; unfold maxLen at *; omega
      have hd2 : decide ((tot ls k : Int) + (ls[k].length : Int) < 0) = false := by simp; omega
      clear h1 h2
      go_wp2_with fail
      go_round
      case rel => exact ⟨k + 1, by omega, by go_num, by rw [HS.out]; go_num⟩
      case measure => simp [intOf]; omega
    · obtain rfl : k = ls.length := by omega
      have hd : decide (ls.length < ls.length) = false := by simp
      have hb2 : tot ls ls.length ≤ 1099511627776 := by rw [tot_all]; exact HL.out
      have HB := Lib.hid hb2
      clear hb2 hlt hk
      go_wp2_with fail
      refine (grow_nil _ HB.out _).mono ?_
      rintro e w1 ⟨v1, rfl, hown1, hb1⟩
      have h0 := h
      have h := h.below hb1 hhi
      go_wp2_with fail
      go_loopw [6, 8, 27] (fun v _ i wr => ∃ k : Nat, k ≤ ls.length ∧ i = .int .i64 (k : Int) ∧ wr.ownsRow w.heap.size 5 1 v (tot ls k) (bv (ls.take k).flatten) ∧ Below w.heap.size w wr) (fun _ _ i _ => ls.length - (intOf i).toNat)
      case atStart => exact ⟨0, Nat.zero_le _, rfl, by rw [tot_zero]; simpa [bv] using hown1, hb1⟩
      case round =>
        obtain ⟨k, hk, rfl, hown, hb⟩ := hrel
        have hwr : Rows2 wr lo hi A vs ls := h0.below hb hhi
        have hsz := hb.size
        by_cases hlt : k < ls.length
        · obtain ⟨b, o, A', c', rfl, hcell, _, _, hnil, hby⟩ := hwr.at_ hlt
          have HS := Lib.hid (tot_succ ls hlt)
          have HF := Lib.hid (flat_take_succ ls hlt)
          have hd : decide (k < ls.length) = true := by simp [hlt]
          have hb2 : (k : Int) + 1 ≤ 9223372036854775807 := by have := HC.out; have := HLC.out; unfold maxLen at *; omega
          have HB2 := Lib.hid (show tot ls k + ls[k].length ≤ 1099511627776 by have := HL.out; have := tot_le ls (k + 1); rw [tot_succ ls hlt] at this; omega)
          go_wp2_with (at_builtin; refine wpList_addall rfl (.tmp 31) (.tmp 32) 29 rfl w.heap.size 5 i0 (.int .u8 0) 1 Try.underlying29 HI.out hz0 hz1 hz2 rfl _ _ _ rfl hown lo hi A' ls[k].length c' (bv ls[k]) rfl hnil ?c2 ?c3 (bv_one _) ?c4 ?c5 hsz ?_)
          case c2 => exact bv_length _
          case c3 => exact hby
          case c4 => have := HB2.out; unfold maxLen; omega
          case c5 => have := HB2.out; omega
          intro v2 w2 hown2 hb2'
          have hown3 : w2.ownsRow w.heap.size 5 1 v2 (tot ls (k + 1)) (bv (ls.take (k + 1)).flatten) := by rw [HS.out, HF.out, bv_append]; exact hown2
          have hb3 := hb2' _ hb
          clear hown2 hb2' hown
          go_wp2
          go_roundw
          case rel => exact ⟨k + 1, by omega, by go_num, hown3, hb3⟩
          case measure => simp [intOf]; omega
        · obtain rfl : k = ls.length := by omega
          have hd : decide (ls.length < ls.length) = false := by simp
          have hown3 : wr.ownsRow w.heap.size 5 1 u6 ls.flatten.length (bv ls.flatten) := by rw [tot_all, List.take_length] at hown; exact hown
          clear hown
          go_wp2_with fail
          go_ret
          exact ⟨u6, rfl, hown3, hb⟩

end Go.Proofs.Ytgflhbpmkcggnaa.Fm

/- The frame around a payload. -/
namespace Go.Proofs.Ytgflhbpmkcggnaa.Fm
open Go.ChangeShapes Go.WideShapes Go.ChangeAt Go.RowKit

/-- Bytes in a row of the call's own, from block B on. -/
def Own (B : Nat) (l : List Nat) (v : Value) (u : World) : Prop := u.ownsRow B 5 1 v l.length (bv l)
theorem Mono.own (B : Nat) (l : List Nat) : Mono (Own B l) := fun _ _ _ h hu => own_below h hu (Nat.le_refl _)

theorem word_cells (n : Nat) (hn : n < 4294967296) : ∃ x0 x1 x2 x3, be4 n = [x0, x1, x2, x3] ∧ ∀ w, Calls Try.prog 47 #[.int .u32 (n : Int)] w fun e w' => e = .returned (.agg #[.int .u8 (x0 : Int), .int .u8 (x1 : Int), .int .u8 (x2 : Int), .int .u8 (x3 : Int)]) ∧ Below w.heap.size w w' :=
  ⟨_, _, _, _, rfl, fun w => wordOf_any n hn w⟩

/-- What Put answers. -/
def PutAns (w : World) (p : List Nat) (e : Ending) (w' : World) : Prop :=
  Below w.heap.size w w' ∧ ∃ v, ((p.length = 0 ∧ v = .slice none 0 0 ∧ e = .returned (.tuple #[v, .int .i64 2])) ∨ (1048576 < p.length ∧ v = .slice none 0 0 ∧ e = .returned (.tuple #[v, .int .i64 3])) ∨
    (1 ≤ p.length ∧ p.length ≤ 1048576 ∧ e = .returned (.tuple #[v, .int .i64 0]) ∧ Own w.heap.size (frame p) v w'))

set_option maxRecDepth 100000 in
set_option maxHeartbeats 4000000 in
theorem put_any {w : World} {lo hi : Nat} {v : Value} {p : List Nat} (hv : Bs w lo hi v p) (hhi : hi ≤ w.heap.size) (hp : ∀ x ∈ p, x < 256) :
    Calls Try.prog 27 #[v] w (PutAns w p) := by
  have HV := Lib.hid hv
  have HP := Lib.hid hp
  obtain ⟨A, c, rfl, q1, q2, q3, _⟩ := hv
  have hlen : p.length ≤ 9223372036854775807 := by unfold maxLen at q2; omega
  by_cases h0 : p.length = 0
  · have hd : ((p.length : Int) == 0) = true := by simp [h0]
    have hz := h0
    clear h0 q1 q2 q3 hp
    go_enter Try.func27, Try.ntmps27
    go_wp2_with fail
    go_ret2
    exact ⟨Below.refl _ _, _, .inl ⟨hz, rfl, rfl⟩⟩
  · have hd : ((p.length : Int) == 0) = false := by simpa using h0
    by_cases hbig : 1048576 < p.length
    · have hd2 : decide ((1048576 : Int) < (p.length : Int)) = true := by simp; omega
      have hz := Lib.hid hbig
      clear h0 q1 q2 q3 hp hbig
      go_enter Try.func27, Try.ntmps27
      go_wp2_with fail
      go_ret2
      exact ⟨Below.refl _ _, _, .inr (.inl ⟨hz.out, rfl, rfl⟩)⟩
    · have hd2 : decide ((1048576 : Int) < (p.length : Int)) = false := by simp; omega
      have HMAY : Hid (mayP p) := ⟨by omega, by omega, hp⟩
      have hconv : (p.length : Int) % 4294967296 = (p.length : Int) := by omega
      obtain ⟨x0, x1, x2, x3, hx, hcx⟩ := word_cells p.length (by omega)
      obtain ⟨y0, y1, y2, y3, hy, hcy⟩ := word_cells (crc (be4 p.length ++ p)) HMAY.out.crc
      have HX := Lib.hid hx
      have HY := Lib.hid hy
      have HCX := Lib.hid hcx
      have HCY := Lib.hid hcy
      clear h0 q1 q2 q3 hp hbig hx hy hcx hcy
      go_enter Try.func27, Try.ntmps27
      go_wp2_with fail
      refine (HCX.out _).mono ?_
      rintro e w1 ⟨rfl, hb1⟩
      have HB1 := Lib.hid hb1
      clear hb1 hconv
      go_wp2_with fail
      obtain ⟨w2, hw2⟩ : ∃ w2, w2 = w1.alloc (.cells #[.int .u8 (x0 : Int), .int .u8 (x1 : Int), .int .u8 (x2 : Int), .int .u8 (x3 : Int)] 81) := ⟨_, rfl⟩
      have HX2 : Hid (Ext w1 w2) := by rw [hw2]; exact ext_alloc _ _
      have HAB : Hid (Ab w2 w1.heap.size 81 (be4 p.length)) := by rw [hw2]; unfold Hid Ab; rw [HX.out]; exact heap_at w1 _ rfl
      have HB2 : Hid (Below w.heap.size w w2) := HB1.out.trans (HX2.out.mono HB1.out.size)
      have hwz : w2.heap.size = w1.heap.size + 1 := by rw [hw2]; simp
      have HBA : Hid (Bs w2 0 w2.heap.size (.slice (some ⟨w1.heap.size, 0, none⟩) 4 4) (be4 p.length)) := HAB.out.bs (by simp [be4_length])
      have HPV : Hid (Bs w2 0 w2.heap.size (.slice A p.length c) p) := (HV.out.below HB2.out hhi).wide (Nat.zero_le _) (Nat.le_trans hhi HB2.out.size)
      have hsum := sum_any _ 2 _ _ _ [be4 p.length, p] _ (rows_lit w2 [.slice (some ⟨w1.heap.size, 0, none⟩) 4 4, .slice A p.length c] [be4 p.length, p] rfl (fun i v l hv hl => by
        match i with
        | 0 => simp at hv hl; subst hv hl; exact ⟨_, _, HBA.out, Nat.le_refl _⟩
        | 1 => simp at hv hl; subst hv hl; exact ⟨_, _, HPV.out, Nat.le_refl _⟩
        | i + 2 => simp at hv)) (by simp) (by simp [maxLen]) (by simp) (by intro l hl x hx; simp at hl; rcases hl with rfl | rfl; exact be4_lt _ x hx; exact HP.out x hx)
      have e1 : [be4 p.length, p].flatten = be4 p.length ++ p := by simp
      rw [e1, hwz] at hsum
      rw [← hw2]
      have HSUM := Lib.hid hsum
      have HW2 := Lib.hid hw2
      clear hsum e1
      refine Calls.mono HSUM.out ?_
      rintro e w3 ⟨rfl, hb3⟩
      have HB3 : Hid (Ext w2 w3) := (ext_alloc _ _).trans hb3
      clear hb3 hw2
      go_wp2_with fail
      refine (HCY.out _).mono ?_
      rintro e w4 ⟨rfl, hb4⟩
      have HB4 : Hid (Ext w2 w4) := HB3.out.trans hb4
      clear hb4
      go_wp2_with fail
      obtain ⟨w5, hw5⟩ : ∃ w5, w5 = w4.alloc (.cells #[.int .u8 (y0 : Int), .int .u8 (y1 : Int), .int .u8 (y2 : Int), .int .u8 (y3 : Int)] 81) := ⟨_, rfl⟩
      rw [← hw5]
      have HX45 : Hid (Ext w4 w5) := by rw [hw5]; exact ext_alloc _ _
      have HX25 : Hid (Ext w2 w5) := Ext.trans HB4.out HX45.out
      have HX5 : Hid (Below w.heap.size w w5) := HB2.out.trans (HX25.out.mono HB2.out.size)
      have HAC : Hid (Ab w5 w4.heap.size 81 (be4 (crc (be4 p.length ++ p)))) := by rw [hw5]; unfold Hid Ab; rw [HY.out]; exact heap_at w4 _ rfl
      have HBC5 : Hid (Bs w5 0 w5.heap.size (.slice (some ⟨w4.heap.size, 0, none⟩) 4 4) (be4 (crc (be4 p.length ++ p)))) := HAC.out.bs (by simp [be4_length])
      have HBA5 : Hid (Bs w5 0 w5.heap.size (.slice (some ⟨w1.heap.size, 0, none⟩) 4 4) (be4 p.length)) := (HBA.out.below HX25.out (Nat.le_refl _)).wide (Nat.le_refl _) HX25.out.size
      have HPV5 : Hid (Bs w5 0 w5.heap.size (.slice A p.length c) p) := (HPV.out.below HX25.out (Nat.le_refl _)).wide (Nat.le_refl _) HX25.out.size
      have HFE : Hid ([be4 p.length, be4 (crc (be4 p.length ++ p)), p].flatten = frame p) := by simp [Hid, frame]
      have HFL : Hid ([be4 p.length, be4 (crc (be4 p.length ++ p)), p].flatten.length ≤ 1099511627776) := by rw [HFE.out]; unfold Hid; rw [frame_length]; have := HMAY.out.2.1; omega
      clear hw5
      go_upto_region 7 with (fail)
      refine flow (by kernel_rfl) [Is (.slice (some ⟨w1.heap.size, 0, none⟩) 4 4), Is (.slice (some ⟨w4.heap.size, 0, none⟩) 4 4), Is (.slice A p.length c), Rws 3 [be4 p.length, be4 (crc (be4 p.length ++ p)), p], Own w.heap.size (frame p), Own w.heap.size (frame p), Is (.int .i64 0)] (by kernel_rfl) (by kernel_rfl) ?mono (fun f => ?obl) ?fin
      case mono =>
        simp only [List.forall_mem_cons, List.not_mem_nil, false_imp_iff, implies_true, and_true]
        exact ⟨.is _, .is _, .is _, .rws _ _, Mono.own _ _, Mono.own _ _, .is _⟩
      case fin =>
        intro g u hu hg
        simp only [puts, Act.put, List.setIfInBounds_toArray, List.set_cons_zero, List.set_cons_succ]
        have h5 : Own w.heap.size (frame p) (g 5) u := hg 5 (by decide)
        have h6 : g 6 = .int .i64 0 := hg 6 (by decide)
        obtain ⟨v, hv⟩ : ∃ v, v = g 5 := ⟨_, rfl⟩
        rw [← hv] at h5 ⊢
        rw [h6]
        obtain ⟨Av, cv, rfl, _, _, _, _⟩ := Sl.of_own h5
        have H5 := Lib.hid h5
        clear h5 hv
        go_wp2_with fail
        go_ret2
        exact ⟨HX5.out.trans (((Ext.drew w5).trans hu).mono HX5.out.size), _, .inr (.inr ⟨HMAY.out.1, HMAY.out.2.1, rfl, H5.out⟩)⟩
      case obl =>
        refine ⟨fun u hu hd => ?_, ?_⟩
        · go_simp
          exact ⟨Ext.refl _, rfl⟩
        refine ⟨fun u hu hd => ?_, ?_⟩
        · simp only [Act.put, List.setIfInBounds_toArray, List.set_cons_zero, List.set_cons_succ]
          go_simp
          exact ⟨Ext.refl _, rfl⟩
        refine ⟨fun u hu hd => ?_, ?_⟩
        · simp only [Act.put, List.setIfInBounds_toArray, List.set_cons_zero, List.set_cons_succ]
          go_simp
          exact ⟨Ext.refl _, rfl⟩
        refine ⟨fun u hu hd => ?_, ?_⟩
        · simp only [Act.put, List.setIfInBounds_toArray, List.set_cons_zero, List.set_cons_succ]
          have e0 : f 0 = (.slice (some ⟨w1.heap.size, 0, none⟩) 4 4) := hd 0 (by kernel_rfl)
          have e1 : f 1 = (.slice (some ⟨w4.heap.size, 0, none⟩) 4 4) := hd 1 (by kernel_rfl)
          have e2 : f 2 = (.slice A p.length c) := hd 2 (by kernel_rfl)
          have hx0 := Lib.hid (show Bs u 0 w5.heap.size (.slice (some ⟨w1.heap.size, 0, none⟩) 4 4) (be4 p.length) ∧ w5.heap.size ≤ u.heap.size from ⟨HBA5.out.below ((Ext.drew w5).trans hu) (Nat.le_refl _), hu.size⟩)
          have hx1 := Lib.hid (show Bs u 0 w5.heap.size (.slice (some ⟨w4.heap.size, 0, none⟩) 4 4) (be4 (crc (be4 p.length ++ p))) ∧ w5.heap.size ≤ u.heap.size from ⟨HBC5.out.below ((Ext.drew w5).trans hu) (Nat.le_refl _), hu.size⟩)
          have hx2 := Lib.hid (show Bs u 0 w5.heap.size (.slice A p.length c) p ∧ w5.heap.size ≤ u.heap.size from ⟨HPV5.out.below ((Ext.drew w5).trans hu) (Nat.le_refl _), hu.size⟩)
          have hr := Lib.hid (rws_lit u [.slice (some ⟨w1.heap.size, 0, none⟩) 4 4, .slice (some ⟨w4.heap.size, 0, none⟩) 4 4, .slice A p.length c] [be4 p.length, be4 (crc (be4 p.length ++ p)), p] 3 rfl rfl (fun i v l hv hl => by
            match i with
            | 0 => simp at hv hl; subst hv hl; exact ⟨_, _, hx0.out⟩
            | 1 => simp at hv hl; subst hv hl; exact ⟨_, _, hx1.out⟩
            | 2 => simp at hv hl; subst hv hl; exact ⟨_, _, hx2.out⟩
            | i + 3 => simp at hv))
          go_simp
          exact ⟨below_new _ _, hr.out⟩
        refine ⟨fun u hu hd => ?_, ?_⟩
        · simp only [Act.put, List.setIfInBounds_toArray, List.set_cons_zero, List.set_cons_succ]
          obtain ⟨hn, g, h, e3, hh, x, hr⟩ := (show Rws 3 [be4 p.length, be4 (crc (be4 p.length ++ p)), p] (f 3) u from hd 3 (by kernel_rfl))
          have HR := Lib.hid hr
          clear hr hn
          go_simp
          refine (concat_any _ 3 _ _ _ [be4 p.length, be4 (crc (be4 p.length ++ p)), p] u HR.out hh (by simp [maxLen]) (by simp) HFL.out).mono ?_
          rintro e w9 ⟨v9, rfl, hown, hb9⟩
          refine ⟨_, rfl, hb9, ?_⟩
          rw [HFE.out] at hown
          exact ownsRow_base hown (Nat.le_trans HX5.out.size hu.size)
        refine ⟨fun u hu hd => ?_, ?_⟩
        · simp only [Act.put, List.setIfInBounds_toArray, List.set_cons_zero, List.set_cons_succ]
          have h4 : Own w.heap.size (frame p) (f 4) u := hd 4 (by kernel_rfl)
          go_simp
          exact ⟨Ext.refl _, h4⟩
        refine ⟨fun u hu hd => ?_, ?_⟩
        · simp only [Act.put, List.setIfInBounds_toArray, List.set_cons_zero, List.set_cons_succ]
          go_simp
          exact ⟨Ext.refl _, rfl⟩
        trivial
end Go.Proofs.Ytgflhbpmkcggnaa.Fm

/- wal's Put: form, aboveBound. -/
namespace Go.Proofs.Ytgflhbpmkcggnaa
open Go.ChangeShapes Go.WideShapes Go.ChangeAt Go.RowKit

/-- How many bytes keys and values have. -/
def esz (L : List (Ent × Hd)) : Nat := (L.map fun p => p.1.key.length + p.1.val.length).sum
theorem esz_next {L : List (Ent × Hd)} {i : Nat} {p : Ent × Hd} (hp : L[i]? = some p) : esz (L.take (i + 1)) = esz (L.take i) + (p.1.key.length + p.1.val.length) := by
  unfold esz
  rw [List.take_add_one, hp]
  simp
theorem esz_take (L : List (Ent × Hd)) (i : Nat) : esz (L.take i) ≤ esz L := by
  have h : esz L = esz (L.take i) + esz (L.drop i) := by unfold esz; rw [← List.sum_append, ← List.map_append, List.take_append_drop]
  omega
theorem Ent.form_ge {e : Ent} (h : e.may = true) : e.key.length + e.val.length ≤ e.form.length := by
  have hu := Ent.may_u64 h
  have h1 := (bytesForm_len hu.1).2
  have h2 := (bytesForm_len hu.2.2.2).2
  have hm := mayN_iff.1 h
  unfold Ent.form
  simp only [List.length_append]
  rcases hm.2.2.2.2 with ⟨hk, _⟩ | ⟨hk, hv⟩
  · rw [if_pos hk]; omega
  · rw [if_neg (by omega)]; omega
theorem lf_ge : ∀ {L : List (Ent × Hd)}, (∀ e ∈ L.map Prod.fst, e.may = true) → esz L ≤ (lf (L.map Prod.fst)).length
  | [], _ => by simp [esz]
  | p :: L, h => by
    have ih := lf_ge (L := L) fun e he => h e (by rw [List.map_cons]; exact List.mem_cons_of_mem _ he)
    have h1 := h p.1 (by simp)
    have h2 := Ent.form_ge h1
    have h3 := (bytesForm_len (l := p.1.form) ⟨by have := Ent.form_len h1; omega⟩).2
    rw [List.map_cons, lf_cons, List.length_append]
    have h4 : esz (p :: L) = (p.1.key.length + p.1.val.length) + esz L := by simp [esz]
    omega
theorem Bx.form_ge {x : Bx} (h : x.bat.may) : esz x.L ≤ x.bat.form.length := by
  have h1 := lf_ge (L := x.L) h.2.2.2
  have h2 := (bytesForm_len (lform_u64 h.2.2.2 h.2.2.1)).2
  unfold Bat.form
  rw [List.length_append]
  have h3 : (lform x.bat.es).length = (Go.Proofs.Ytgflhbpmkcggnaa.form x.bat.es.length).length + (lf (x.L.map Prod.fst)).length := by
    unfold lform; rw [List.length_append]; rfl
  omega
theorem Bat.form_pos {b : Bat} (h : b.may) : 1 ≤ b.form.length := by
  have h2 := (bytesForm_len (lform_u64 h.2.2.2 h.2.2.1)).2
  unfold Bat.form
  rw [List.length_append]
  omega
theorem lf_lt {es : List Ent} (h : ∀ e ∈ es, (∀ x ∈ e.key, x < 256) ∧ ∀ x ∈ e.val, x < 256) : ∀ x ∈ lf es, x < 256 := by
  intro x hx
  unfold lf at hx
  obtain ⟨l, hl, hx⟩ := List.mem_flatten.1 hx
  obtain ⟨e, he, rfl⟩ := List.mem_map.1 hl
  unfold bytesForm at hx
  rcases List.mem_append.1 hx with h1 | h1
  · exact form_bytes _ x h1
  · exact Ent.form_lt (h e he).1 (h e he).2 x h1
theorem Bat.form_lt {b : Bat} (h : ∀ e ∈ b.es, (∀ x ∈ e.key, x < 256) ∧ ∀ x ∈ e.val, x < 256) : ∀ x ∈ b.form, x < 256 := by
  intro x hx
  unfold Bat.form at hx
  rcases List.mem_append.1 hx with h1 | h1
  · exact form_bytes _ x h1
  · unfold bytesForm at h1
    rcases List.mem_append.1 h1 with h2 | h2
    · exact form_bytes _ x h2
    · unfold lform at h2
      rcases List.mem_append.1 h2 with h3 | h3
      · exact form_bytes _ x h3
      · exact lf_lt h x h3
theorem Bm.bytes {w : World} {lo hi : Nat} {x : Bx} (h : Bm w lo hi x) : ∀ e ∈ x.bat.es, (∀ y ∈ e.key, y < 256) ∧ ∀ y ∈ e.val, y < 256 := by
  intro e he
  obtain ⟨p, hp, rfl⟩ := List.mem_map.1 he
  exact ⟨(h.es.each p hp).bk, (h.es.each p hp).bv⟩

set_option maxRecDepth 100000 in
set_option maxHeartbeats 4000000 in
theorem above_any {w : World} {lo hi : Nat} {A : Option Addr} {c : Nat} {L : List (Ent × Hd)} (h : Es w lo hi A L) (hhi : hi ≤ w.heap.size) (hlen : L.length ≤ 1000000000000) (hm : ∀ p ∈ L, p.1.key.length + p.1.val.length ≤ 100000) :
    Calls Try.prog 26 #[.slice A L.length c] w fun x w' => x = .returned (.bool (decide (1048576 < esz L))) ∧ Ext w w' := by
  have HE := Lib.hid h
  have HHI := Lib.hid hhi
  have HL := Lib.hid hlen
  have HM := Lib.hid hm
  clear h hhi hlen hm
  go_enter Try.func26, Try.ntmps26
  go_wp2_with fail
  go_loopw [3, 8] (fun s a wr => ∃ i t : Nat, s = .int .i64 (t : Int) ∧ t ≤ 1048576 ∧ a = .int .i64 (i : Int) ∧ i ≤ L.length ∧ Hid (t = esz (L.take i)) ∧ Hid (Ext w wr)) (fun _ a _ => L.length - (intOf a).toNat)
  case atStart => exact ⟨0, 0, rfl, by omega, rfl, by omega, by simp [Hid, esz], Lib.hid (Ext.refl _)⟩
  case round =>
    obtain ⟨i, t, rfl, ht, rfl, hm, HR, HX⟩ := hrel
    by_cases hlt : i < L.length
    · have d : decide ((i : Int) < (L.length : Int)) = true := decide_eq_true (by omega)
      have dn : decide (i < L.length) = true := decide_eq_true hlt
      obtain ⟨b, o, hA⟩ := HE.out.base (by omega)
      subst hA
      obtain ⟨p, hp⟩ : ∃ p, L[i]? = some p := ⟨_, List.getElem?_eq_getElem hlt⟩
      obtain ⟨c0, c1, c2, c3⟩ := (HE.out.below HX.out HHI.out).get hp
      have HPP := Lib.hid hp
      have hpm := HM.out p (List.mem_of_getElem? hp)
      have n1 : (0 : Int) ≤ (i : Int) := by omega
      have n2 : (i : Int) < (L.length : Int) := by omega
      have hw2 : wrap64 ((i : Int) + 1) = ((i + 1 : Nat) : Int) := by have := HL.out; unfold wrap64; omega
      obtain ⟨kn, hkn⟩ : ∃ kn, kn = p.1.key.length := ⟨_, rfl⟩
      obtain ⟨vn, hvn⟩ : ∃ vn, vn = p.1.val.length := ⟨_, rfl⟩
      have hw3 : wrap64 ((kn : Int) + (vn : Int)) = ((kn + vn : Nat) : Int) := by unfold wrap64; omega
      have hw4 : wrap64 ((t : Int) + ((kn + vn : Nat) : Int)) = ((t + (kn + vn) : Nat) : Int) := by unfold wrap64; omega
      have HT : Hid (t + (kn + vn) = esz (L.take (i + 1))) := by rw [esz_next hp, ← HR.out, hkn, hvn]; exact Lib.hid rfl
      have HLE := Lib.hid (esz_take L (i + 1))
      rw [← hkn] at c0
      rw [← hvn] at c3
      clear hp hpm hkn hvn
      go_upto_region 5 with (fail)
      obtain ⟨w4, hw4'⟩ : ∃ w4, w4 = wr.alloc (.cells #[.slice p.2.kA kn p.2.kc, .int .i64 p.1.seq, .int .i64 p.1.kind, .slice p.2.vA vn p.2.vc] 48) := ⟨_, rfl⟩
      rw [← hw4']
      have HX4 : Hid (Ext w w4) := by rw [hw4']; exact Ext.trans HX.out (ext_alloc _ _)
      have HB4 : Hid (w4.heap[wr.heap.size]? = some (.cells #[.slice p.2.kA kn p.2.kc, .int .i64 p.1.seq, .int .i64 p.1.kind, .slice p.2.vA vn p.2.vc] 48 (0, 0))) := by rw [hw4']; exact heap_at _ _ rfl
      clear hw4' c0 c1 c2 c3
      have c0 := cell_of HB4.out (k := 0) rfl
      have c3 := cell_of HB4.out (k := 3) rfl
      have HW3 := Lib.hid hw3
      have HW4 := Lib.hid hw4
      clear hw3 hw4
      go_upto_region 6 with (fail)
      rw [HW3.out, HW4.out]
      obtain ⟨t2, ht2⟩ : ∃ t2, t2 = t + (kn + vn) := ⟨_, rfl⟩
      rw [← ht2] at HT ⊢
      clear ht2 HW3 HW4
      by_cases hb : 1048576 < t2
      · have d2 : decide ((1048576 : Int) < (t2 : Int)) = true := decide_eq_true (by omega)
        have d2n : decide (1048576 < t2) = true := decide_eq_true hb
        have HBB := Lib.hid hb
        clear hb
        go_wp2_with fail
        go_ret
        exact ⟨by rw [decide_eq_true (by have := HT.out; have := HLE.out; have := HBB.out; omega)]; rfl, HX4.out⟩
      · have d2 : decide ((1048576 : Int) < (t2 : Int)) = false := decide_eq_false (by omega)
        have d2n : decide (1048576 < t2) = false := decide_eq_false hb
        go_wp2_with fail
        go_roundw
        case rel => exact ⟨i + 1, t2, rfl, by omega, by rw [hw2], by omega, HT, HX4⟩
        case measure => rw [hw2]; simp [intOf]; omega
    · have d : decide ((i : Int) < (L.length : Int)) = false := decide_eq_false (by omega)
      have dn : decide (i < L.length) = false := decide_eq_false hlt
      have HMM : Hid (¬ 1048576 < esz L) := by have h := HR.out; rw [List.take_of_length_le (by omega)] at h; unfold Hid; omega
      clear hlt hm ht
      go_wp2_with fail
      go_ret
      exact ⟨by rw [decide_eq_false HMM.out]; rfl, HX.out⟩

set_option maxRecDepth 100000 in
set_option maxHeartbeats 4000000 in
theorem wform_any {w : World} {lo hi : Nat} {x : Bx} (h : Bm w lo hi x) (hhi : hi ≤ w.heap.size) (hmay : x.bat.may) :
    Calls Try.prog 28 #[x.val] w (NewBy w x.bat.form) := by
  have HM := Lib.hid hmay
  have HU := Lib.hid (Bat.may_u64 hmay)
  have HFL := Lib.hid (Bat.form_len hmay)
  have HLL := Lib.hid (lform_len hmay.2.2.2 hmay.2.2.1)
  have HEs := Lib.hid h
  have HHI := Lib.hid hhi
  obtain ⟨n, A, c, L⟩ := x
  have hn1 : 1 ≤ n := hmay.1
  have hn2 : n ≤ 2147483647 := hmay.2.1
  obtain ⟨m, rfl⟩ : ∃ m : Nat, n = (m : Int) := ⟨n.toNat, by omega⟩
  have HF : Hid ((Bx.bat ⟨(m : Int), A, c, L⟩).form = Go.Proofs.Ytgflhbpmkcggnaa.form m ++ bytesForm (lform (L.map Prod.fst))) := by
    unfold Bat.form Bx.bat
    simp [Hid]
  obtain ⟨w0, hw0⟩ : ∃ w0, w0 = w.alloc (.cells #[.int .i64 (m : Int), .slice A L.length c] 24) := ⟨_, rfl⟩
  have HX0 : Hid (Ext w w0) := by rw [hw0]; exact ext_alloc _ _
  have HB0 : Hid (w0.heap[w.heap.size]? = some (.cells #[.int .i64 (m : Int), .slice A L.length c] 24 (0, 0))) := by rw [hw0]; exact heap_at _ _ rfl
  have HLI := Lib.hid (elist_any (c := c) ((HEs.out.ext HX0.out HHI.out).es) (Nat.le_trans HHI.out HX0.out.size) HEs.out.ln)
  have HMB : Hid ((∀ e ∈ L.map Prod.fst, e.may = true) ∧ (L.map Prod.fst).length ≤ 65536) := ⟨hmay.2.2.2, hmay.2.2.1⟩
  have hm64 : (m : Int) ≤ 18446744073709551615 := by omega
  have hu64 : U64 m := ⟨by omega⟩
  clear h hhi hmay hn1
  unfold Bx.val
  dsimp only
  go_enter Try.func28, Try.ntmps28
  go_upto_region 1 with (fail)
  rw [← hw0]
  clear hw0
  have k1 := cell_of HB0.out (k := 1) rfl
  go_wp2_with fail
  refine HLI.out.mono ?_
  rintro e w1 ⟨hx1, (⟨_, _, v1, rfl, hown1⟩ | ⟨hno, _⟩)⟩
  case inr => exact absurd ⟨HMB.out.2, HMB.out.1⟩ hno
  have HX1 := Lib.hid hx1
  have HO1 := Lib.hid hown1
  obtain ⟨A1, c1, rfl⟩ := hown1.slice
  clear k1 hx1 hown1
  have k0 := cell_of (ext_heap HX1.out HB0.out) (k := 0) rfl
  go_wp2_with fail
  refine (number_any m hu64 w1).mono ?_
  rintro e w2 ⟨v2, rfl, hown2, hx2⟩
  have HX2 : Hid (Ext w1 w2) := hx2
  have HO2 : Hid (Own w1.heap.size (Go.Proofs.Ytgflhbpmkcggnaa.form m) v2 w2) := hown2
  obtain ⟨A2, c2, rfl⟩ := HO2.out.slice
  clear k0 hx2 hown2
  go_wp2_with fail
  refine (bytes_any _ 0 w1.heap.size _ w2 (HO1.out.bs.below HX2.out (Nat.le_refl _)) HX2.out.size (by have := HLL.out; exact Nat.le_trans this (by omega))).mono ?_
  rintro e w3 ⟨v3, rfl, hown3, hx3⟩
  have HX3 : Hid (Ext w2 w3) := hx3
  have HO3 : Hid (Own w2.heap.size (bytesForm (lform (L.map Prod.fst))) v3 w3) := hown3
  obtain ⟨A3, c3, rfl⟩ := HO3.out.slice
  clear hx3 hown3
  have g1 : Bs w3 0 w3.heap.size (.slice A2 (Go.Proofs.Ytgflhbpmkcggnaa.form m).length c2) (Go.Proofs.Ytgflhbpmkcggnaa.form m) := ((HO2.out.bs).below HX3.out (Nat.le_refl _)).wide (Nat.le_refl _) HX3.out.size
  have g2 := HO3.out.bs
  have HR := Lib.hid ((rows2_two (T := 29) g1 g2 (Nat.le_refl _)).resolve_right (by omega))
  clear g1 g2
  go_wp2_with fail
  have HFF : Hid ([Go.Proofs.Ytgflhbpmkcggnaa.form m, bytesForm (lform (L.map Prod.fst))].flatten = (Bx.bat ⟨(m : Int), A, c, L⟩).form) := by rw [HF.out]; simp [Hid]
  refine (join_any _ 2 0 (w3.heap.size + 1) _ _ _ HR.out (by simp) (by simp [maxLen]) (by simp) ?c1 2 rfl).mono ?_
  case c1 => rw [HFF.out]; have := HFL.out; omega
  rintro e w5 ⟨v5, rfl, hown5, hx5⟩
  have HXA : Hid (Ext w w3) := Ext.trans HX0.out (Ext.trans HX1.out (Ext.trans HX2.out HX3.out))
  rw [HFF.out] at hown5
  have HO5 := Lib.hid hown5
  have HX5 := Lib.hid hx5
  clear hown5 hx5
  go_wp2_with fail
  go_ret
  exact ⟨v5, rfl, own_lower HO5.out (by have := HXA.out.size; simp; omega), Below.trans (HXA.out.alloc HXA.out.size _) (HX5.out.mono (by have := HXA.out.size; simp; omega))⟩

/-- What Put answers. -/
def WPutAns (w : World) (b : Bat) (e : Ending) (w' : World) : Prop :=
  Ext w w' ∧ ((¬ b.may ∧ e = .returned (.tuple #[.slice none 0 0, .int .i64 2])) ∨ (b.may ∧ 1048576 < b.form.length ∧ e = .returned (.tuple #[.slice none 0 0, .int .i64 3])) ∨
    (b.may ∧ b.form.length ≤ 1048576 ∧ ∃ v, e = .returned (.tuple #[v, .int .i64 0]) ∧ Own w.heap.size (Fm.frame b.form) v w'))

set_option maxRecDepth 100000 in
set_option maxHeartbeats 4000000 in
theorem wput_any {w : World} {lo hi : Nat} {x : Bx} (h : Bm w lo hi x) (hhi : hi ≤ w.heap.size) : Calls Try.prog 12 #[x.val] w (WPutAns w x.bat) := by
  have HE := Lib.hid h
  have HHI := Lib.hid hhi
  obtain ⟨V, hV⟩ : ∃ V, V = x.val := ⟨_, rfl⟩
  have HC : Hid (∀ u, Ext w u → hi ≤ u.heap.size ∧ Bm u lo hi x) := fun u hu => ⟨Nat.le_trans hhi hu.size, h.ext hu hhi⟩
  clear h hhi
  obtain ⟨w0, hw0⟩ : ∃ w0, w0 = w.alloc (.cells #[.int .i64 x.idx, .slice x.A x.L.length x.c] 24) := ⟨_, rfl⟩
  have HX0 : Hid (Ext w w0) := by rw [hw0]; exact ext_alloc _ _
  have HB0 : Hid (w0.heap[w.heap.size]? = some (.cells #[.int .i64 x.idx, .slice x.A x.L.length x.c] 24 (0, 0))) := by rw [hw0]; exact heap_at _ _ rfl
  have HMY := Lib.hid (wmay_any (HC.out w0 HX0.out).2 (HC.out w0 HX0.out).1)
  have HFO : Hid (x.bat.may → ∀ u, Ext w u → Calls Try.prog 28 #[x.val] u (NewBy u x.bat.form)) := fun hm u hu => wform_any (HC.out u hu).2 (HC.out u hu).1 hm
  unfold Bx.val at HMY HFO ⊢
  clear hV V
  go_enter Try.func12, Try.ntmps12
  go_upto_region 1 with (fail)
  rw [← hw0]
  clear hw0
  have k0 := cell_of HB0.out (k := 0) rfl
  have k1 := cell_of HB0.out (k := 1) rfl
  go_wp2_with fail
  refine HMY.out.mono ?_
  rintro e w1 ⟨z, hz, rfl, hx1⟩
  have HZ := Lib.hid hz
  have HX1 : Hid (Ext w w1) := Ext.trans HX0.out hx1
  have HB1 := Lib.hid (ext_heap hx1 HB0.out)
  clear hz hx1 k0 k1
  cases z with
  | false =>
    go_wp2_with fail
    go_ret2
    exact ⟨HX1.out, .inl ⟨fun h => (by have := HZ.out.2 h; cases this), rfl⟩⟩
  | true =>
    have HMAY := Lib.hid (HZ.out.1 rfl)
    have k0 := cell_of HB1.out (k := 0) rfl
    have k1 := cell_of HB1.out (k := 1) rfl
    have hpm : ∀ p ∈ x.L, p.1.key.length + p.1.val.length ≤ 100000 := fun p hp => by
      have h1 := Ent.form_ge (HMAY.out.2.2.2 p.1 (List.mem_map_of_mem hp))
      have h2 := Ent.form_len (HMAY.out.2.2.2 p.1 (List.mem_map_of_mem hp))
      omega
    have HAB := Lib.hid (above_any (c := x.c) (HC.out w1 HX1.out).2.es (HC.out w1 HX1.out).1 HE.out.ln hpm)
    clear hpm
    go_wp2_with fail
    refine HAB.out.mono ?_
    rintro e w2 ⟨rfl, hx2⟩
    have HX2 : Hid (Ext w w2) := Ext.trans HX1.out hx2
    have HB2 := Lib.hid (ext_heap hx2 HB1.out)
    have HGE := Lib.hid (Bx.form_ge HMAY.out)
    clear hx2 k0 k1
    have k0 := cell_of HB2.out (k := 0) rfl
    have k1 := cell_of HB2.out (k := 1) rfl
    obtain ⟨z, hz⟩ : ∃ z, z = decide (1048576 < esz x.L) := ⟨_, rfl⟩
    rw [← hz]
    have HZ2 := Lib.hid hz
    clear hz
    cases z with
    | true =>
      go_wp2_with fail
      go_ret2
      exact ⟨HX2.out, .inr (.inl ⟨HMAY.out, by have h1 := of_decide_eq_true HZ2.out.symm; have := HGE.out; omega, rfl⟩)⟩
    | false =>
      go_wp2_with fail
      refine (HFO.out HMAY.out w2 HX2.out).mono ?_
      rintro e w3 ⟨v3, rfl, hown3, hx3⟩
      have HX3 : Hid (Ext w w3) := Ext.trans HX2.out hx3
      have HO3 : Hid (Own w2.heap.size x.bat.form v3 w3) := hown3
      obtain ⟨A3, c3, rfl⟩ := HO3.out.slice
      clear hx3 hown3 k0 k1
      have HBS := Lib.hid HO3.out.bs
      have HLT := Lib.hid (Bat.form_lt HE.out.bytes)
      go_wp2_with fail
      refine (Fm.put_any HBS.out (Nat.le_refl _) HLT.out).mono ?_
      rintro e w4 ⟨hb4, v, hh⟩
      have HX4 : Hid (Ext w w4) := Ext.trans HX3.out hb4
      have HPOS := Lib.hid (Bat.form_pos HMAY.out)
      clear hb4
      rcases hh with ⟨h0, rfl, rfl⟩ | ⟨h1, rfl, rfl⟩ | ⟨h1, h2, rfl, hown⟩
      · exact absurd h0 (by have := HPOS.out; omega)
      · have H1 := Lib.hid h1
        clear h1
        go_wp2_with fail
        go_ret2
        exact ⟨HX4.out, .inr (.inl ⟨HMAY.out, H1.out, rfl⟩)⟩
      · have H1 := Lib.hid h2
        have HO : Hid (Own w.heap.size (Fm.frame x.bat.form) v w4) := Own.base (show Own w3.heap.size (Fm.frame x.bat.form) v w4 from hown) HX3.out.size
        clear h1 h2 hown
        go_wp2_with fail
        go_ret2
        exact ⟨HX4.out, .inr (.inr ⟨HMAY.out, H1.out, v, rfl, HO.out⟩)⟩
end Go.Proofs.Ytgflhbpmkcggnaa
