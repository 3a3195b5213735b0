/- Lkreads Pkreads, joined. -/
import Derived.Test.YtddfelahpiokjaaMb11
import Derived.Test.YtddfelahpiokjaaMb14
import Derived.Test.YtddfelahpiokjaaMb3
import Derived.Deep.LoopGhost
import Derived.Test.YtddfelahpiokjaaMb1

/- BlockReads: the walk. -/
namespace Go.Proofs.Ytddfelahpiokjaa.kreads
open Go.ChangeShapes Go.WideShapes Go.ChangeAt Go.RowKit

theorem tx_size (l : List Nat) : (tx l).size = l.length := by unfold tx; rw [strOfNums_size, List.length_map]
theorem tx_snoc (l : List Nat) : ((tx (l ++ [119])).toList == (tx l ++ ({ data := #[119] } : ByteArray)).toList) = true := by
  rw [ByteArray.toList_eq, ByteArray.toList_eq, beq_iff_eq]
  unfold tx
  rw [strOfNums_data, List.map_append, List.map_append, ByteArray.data_append, Array.toList_append, strOfNums_data]
  rfl

/-- A row whose bytes nobody asks for any more: it may be written over. -/
def Row (w : World) (ro : Option Nat) (A : Option Addr) (n : Nat) : Prop := ∀ j, j < n → ∃ g, ro = some g ∧ A = some ⟨g, 0, none⟩ ∧ (∃ x : Nat, x < 256 ∧ w.cell? ⟨g, j, none⟩ = some (.int .u8 (x : Int))) ∧ w.frozen? ⟨g, j, none⟩ = false
theorem Row.of_own {w : World} {B : Nat} {A : Option Addr} {n c : Nat} {l : List Nat} (h : w.ownsRow B 5 1 (.slice A n c) l.length (bv l)) (hl : ∀ b ∈ l, b < 256) : Row w (Value.slice A n c).ownBlock A n := by
  rcases h.2 with ⟨h', h0⟩ | ⟨g, cap, cur, h', _⟩
  · injection h' with e1 e2 e3
    exact fun j hj => by omega
  · injection h' with e1 e2 e3
    subst e1 e2 e3
    refine fun j hj => ⟨g, rfl, rfl, ⟨l[j], hl _ (List.getElem_mem hj), ?_⟩, h.frozenAt j⟩
    rw [h.cellAt j (by omega)]
    simp [bv, List.getElem?_eq_getElem hj]
theorem Row.set {w : World} {ro : Option Nat} {A : Option Addr} {n g j x : Nat} (h : Row w ro A n) (hx : x < 256) : Row (w.setCell ⟨g, j, none⟩ (.int .u8 (x : Int))) ro A n := by
  intro i hi
  obtain ⟨g', e1, e2, ⟨y, hy, hc⟩, hf⟩ := h i hi
  refine ⟨g', e1, e2, ?_, by simpa using hf⟩
  by_cases he : (⟨g, j, none⟩ : Addr) = ⟨g', i, none⟩
  · injection he with q1 q2
    subst q1 q2
    exact ⟨x, hx, World.cell?_setCell_same _ _ _ hc⟩
  · exact ⟨y, hy, by rw [World.cell?_setCell_other _ _ _ _ he]; exact hc⟩
/-- All entries' rows may be written over. -/
def Rows3 (w : World) (R : List (Ent × Hd)) : Prop := ∀ p ∈ R, Row w (Value.slice p.2.kA p.1.key.length p.2.kc).ownBlock p.2.kA p.1.key.length ∧ Row w (Value.slice p.2.vA p.1.val.length p.2.vc).ownBlock p.2.vA p.1.val.length
theorem Rows3.set {w : World} {R : List (Ent × Hd)} {g j x : Nat} (h : Rows3 w R) (hx : x < 256) : Rows3 (w.setCell ⟨g, j, none⟩ (.int .u8 (x : Int))) R := fun p hp => ⟨(h p hp).1.set hx, (h p hp).2.set hx⟩

/-- What all three readers tell: the entries and the error's number. -/
def Outc (b : List Nat) (L : List Ent) (k : Int) : Prop := (IsB b L ∧ k = 0) ∨ ((∀ L, ¬ IsB b L) ∧ L = [] ∧ k = 4)
theorem Outc.same {b : List Nat} {L L' : List Ent} {k k' : Int} (h : Outc b L k) (h' : Outc b L' k') : L' = L ∧ k' = k := by
  rcases h with ⟨h1, rfl⟩ | ⟨h1, rfl, rfl⟩
  · rcases h' with ⟨h2, rfl⟩ | ⟨h2, _, _⟩
    · exact ⟨h2.unique h1, rfl⟩
    · exact absurd h1 (h2 _)
  · rcases h' with ⟨h2, _⟩ | ⟨h2, rfl, rfl⟩
    · exact absurd h2 (h1 _)
    · exact ⟨rfl, rfl⟩
theorem prog_read {w w' : World} {b : List Nat} {x : Ending} (h : ReadBAns w b x w') : Ext w w' ∧ ∃ (R : List (Ent × Hd)) (A : Option Addr) (c : Nat) (k : Int), Outc b (R.map Prod.fst) k ∧ x = .returned (.tuple #[.slice A R.length c, .int .i64 k]) ∧ Got w.heap.size (.slice A R.length c) R w' ∧ R.length ≤ 1024 := by
  obtain ⟨hx, (⟨R, A, c, hi, rfl, hg⟩ | ⟨hn, rfl⟩)⟩ := h
  · exact ⟨hx, R, A, c, 0, .inl ⟨hi, rfl⟩, rfl, hg, by have := hi.1.2.1; rwa [List.length_map] at this⟩
  · exact ⟨hx, [], none, 0, 4, .inr ⟨hn, rfl, rfl⟩, rfl, Got.nil _ _, by simp⟩
theorem ref_read {w w' : World} {b : List Nat} {x : Ending} (h : RReadBAns w b x w') : Ext w w' ∧ ∃ (R : List (Ent × Hd)) (A RA : Option Addr) (c rc : Nat) (k : Int), Outc b (R.map Prod.fst) k ∧ x = .returned (.tuple #[.slice A R.length c, .slice RA (ats (R.map Prod.fst) (R.map Prod.fst).length).length rc, .int .i64 k]) ∧ Es w' 0 w'.heap.size A R ∧ OwnI w.heap.size (ats (R.map Prod.fst) (R.map Prod.fst).length) (.slice RA (ats (R.map Prod.fst) (R.map Prod.fst).length).length rc) w' := by
  obtain ⟨hx, (⟨R, A, RA, c, rc, hi, rfl, he, ho, _⟩ | ⟨hn, rfl⟩)⟩ := h
  · exact ⟨hx, R, A, RA, c, rc, 0, .inl ⟨hi, rfl⟩, rfl, he.wide (Nat.zero_le _) (Nat.le_refl _), ho⟩
  · exact ⟨hx, [], none, none, 0, 0, 4, .inr ⟨hn, rfl, rfl⟩, rfl, (Got.nil 0 w').rs, OwnI.nil _ _⟩
theorem rest_read {w w' : World} {b : List Nat} {x : Ending} (h : RestAns w b x w') : Ext w w' ∧ ∃ (L : List Ent) (A : Option Addr) (c : Nat) (k : Int), Outc b L k ∧ x = .returned (.tuple #[.slice A (ats L L.length).length c, .int .i64 k]) ∧ OwnI w.heap.size (ats L L.length) (.slice A (ats L L.length).length c) w' := by
  obtain ⟨hx, (⟨L, A, c, hi, rfl, ho⟩ | ⟨hn, rfl⟩)⟩ := h
  · exact ⟨hx, L, A, c, 0, .inl ⟨hi, rfl⟩, rfl, ho⟩
  · exact ⟨hx, [], none, 0, 4, .inr ⟨hn, rfl, rfl⟩, rfl, OwnI.nil _ _⟩
theorem ownI_at {B : Nat} {l : List Nat} {A : Option Addr} {n c : Nat} {u : World} (h : OwnI B l (.slice A n c) u) (k : Nat) (hk : k < l.length) : ∃ g, A = some ⟨g, 0, none⟩ ∧ u.cell? ⟨g, k, none⟩ = some (.int .i64 ((l[k] : Nat) : Int)) := by
  have h' : u.ownsRow B 3 1 (.slice A n c) l.length (iv l) := h
  rcases h'.2 with ⟨e, h0⟩ | ⟨g, cap, cur, e, _⟩
  · omega
  · injection e with e1 e2 e3
    subst e1 e2 e3
    refine ⟨g, rfl, ?_⟩
    rw [h'.cellAt k (by omega)]
    simp [iv, List.getElem?_eq_getElem hk]

theorem row_cells {B cR : Nat} {u : World} {X : Option Addr} {R : List (Ent × Hd)} (h : u.ownsRow B 37 4 (.slice X R.length cR) R.length (erow R)) {i : Nat} {p : Ent × Hd} (hp : R[i]? = some p) :
    ∃ g, X = some ⟨g, 0, none⟩ ∧ u.cell? ⟨g, i * 4, none⟩ = some (.slice p.2.kA p.1.key.length p.2.kc) ∧ u.cell? ⟨g, i * 4 + 3, none⟩ = some (.slice p.2.vA p.1.val.length p.2.vc) := by
  obtain ⟨hlt, rfl⟩ := List.getElem?_eq_some_iff.1 hp
  rcases h.2 with ⟨h1, h2⟩ | ⟨g, cap, cur, hv, hg, hh, r⟩
  · omega
  · injection hv with e1 e2 e3
    subst e1
    have hc : ∀ j x, (erow R)[j]? = some x → u.cell? ⟨g, j, none⟩ = some x := fun j x hx => by
      have := h.cells (g := g) rfl j x hx
      rwa [addr_add, Nat.zero_add] at this
    have hj := fun (j : Nat) (hj : j < 4) (x : Value) (hx : (ecells R[i])[j]? = some x) => hc (i * 4 + j) x ((erow_at R hlt hj).trans hx)
    exact ⟨g, rfl, hj 0 (by decide) _ rfl, hj 3 (by decide) _ rfl⟩

set_option maxRecDepth 100000 in
set_option maxHeartbeats 8000000 in
theorem walk (W : World) (v : Value) (l : List Nat) (hv : Bs W 0 W.heap.size v l) (hl : ∀ b ∈ l, b < 256) :
    Calls Try.prog 3 #[v] W fun e w' => e = .returned (.bool true) ∧ Below W.heap.size W w' := by
  have HV := Lib.hid hv
  have HL := Lib.hid hl
  obtain ⟨A, c, rfl, q1, q2, q3, _⟩ := hv
  by_cases hbig : 100000 < l.length
  · have hd : decide ((100000 : Int) < (l.length : Int)) = true := decide_eq_true (by omega)
    have hd2 : decide (100000 < l.length) = true := decide_eq_true hbig
    clear hbig q1 q2 q3 hl
    go_enter Try.func3, Try.ntmps3
    go_wp2_with fail
    refine (known_any W).mono ?_
    rintro e w3 ⟨rfl, hb⟩
    go_wp2_with fail
    go_ret
    exact ⟨rfl, hb⟩
  have hd : decide ((100000 : Int) < (l.length : Int)) = false := decide_eq_false (by omega)
  have hd2 : decide (100000 < l.length) = false := decide_eq_false hbig
  have HLEN := Lib.hid (show l.length ≤ 100000 by omega)
  obtain ⟨L, hL⟩ : ∃ L, L = l ++ [119] := ⟨_, rfl⟩
  have HLL : Hid (L.length = l.length + 1) := by rw [hL]; simp [Hid]
  have HLT : Hid (L.take l.length = l) := by rw [hL]; unfold Hid; rw [List.take_left]
  have HE := Lib.hid hL
  clear hbig q1 q2 q3 hl hL
  go_enter Try.func3, Try.ntmps3
  go_wp2_with (at_builtin; refine wpList_addbytes rfl (.const (.slice none 0 0)) (.tmp 19) rfl W.heap.size _ [] rfl (Own.nil _ W) _ _ _ l rfl HV.out ?l1 (Nat.le_refl _) ?_)
  case l1 => have := HLEN.out; simp; omega
  intro A1 c1 w1 ho hb
  have HX1 : Hid (Ext W w1) := hb W (Below.refl _ _)
  have HO1 := Lib.hid ho
  have HLIT : Hid (Bs (w1.alloc (.cells #[.int .u8 119] 5)) 0 (w1.alloc (.cells #[.int .u8 119] 5)).heap.size (.slice (some ⟨w1.heap.size, 0, none⟩) 1 1) [119]) := (show Own w1.heap.size [119] _ _ from own_lit w1 119).bs
  clear ho hb
  go_wp2_with (at_builtin; refine wpList_addbytes rfl (.tmp 20) (.tmp 21) rfl W.heap.size _ l rfl (HO1.out.below (ext_alloc _ _)) _ _ _ [119] rfl HLIT.out ?l2 (Nat.le_trans HX1.out.size (by simp)) ?_)
  case l2 => have := HLEN.out; simp; omega
  intro A2 c2 w2 ho hb
  rw [← HE.out] at ho
  have HX2 : Hid (Ext W w2) := hb W (Below.alloc HX1.out HX1.out.size _)
  have HO2 := Lib.hid ho
  have hc2 : l.length + 1 ≤ c2 := by have := HO2.out.bs; obtain ⟨_, _, he, h1, _⟩ := this; injection he with _ x y; have := HLL.out; omega
  have HB2 : Hid (Bs w2 W.heap.size w2.heap.size (.slice A2 (l.length + 1) c2) L) := Bs.of_own ho
  have HPB : Hid (Bs w2 W.heap.size w2.heap.size (.slice A2 l.length c2) l) := by
    have h := HB2.out.head (k := l.length) (by omega)
    rwa [HLT.out] at h
  clear ho hb HO2
  go_wp2_with fail
  refine (bread_any HPB.out (Nat.le_refl _) HL.out (by have := HLEN.out; omega)).mono ?_
  intro x w3 hans
  obtain ⟨hx3, R, X, cR, k, hgets, rfl, hgot, hrl⟩ := prog_read hans
  have HX3 : Hid (Ext w2 w3) := hx3
  have HG1 := Lib.hid hgets
  have HGOT := Lib.hid hgot
  have HRL := Lib.hid hrl
  clear hans hx3 hgets hgot hrl
  go_wp2_with fail
  refine (rread_any (HV.out.below (Ext.trans HX2.out HX3.out) (Nat.le_refl _)) (Ext.trans HX2.out HX3.out).size HL.out (by have := HLEN.out; omega)).mono ?_
  intro x w4 hans
  obtain ⟨hx4, R', X', RA, cR', rc, k', hgets, rfl, hes, hown⟩ := ref_read hans
  obtain ⟨hmap, rfl⟩ := HG1.out.same hgets
  have HMAP := Lib.hid hmap
  rw [hmap] at hown ⊢
  obtain ⟨AT, hAT⟩ : ∃ AT, AT = ats (R.map Prod.fst) (R.map Prod.fst).length := ⟨_, rfl⟩
  have HAT := Lib.hid hAT
  rw [← hAT] at hown ⊢
  have HX4 : Hid (Ext w3 w4) := hx4
  have HES := Lib.hid hes
  have HOA := Lib.hid hown
  clear hans hx4 hgets hes hown hmap hAT
  go_wp2_with fail
  refine (restarts_any (HPB.out.below (Ext.trans HX3.out HX4.out) (Nat.le_refl _)) (Ext.trans HX3.out HX4.out).size HL.out (by have := HLEN.out; omega)).mono ?_
  intro x w5 hans
  obtain ⟨hx5, L', RB, rc', k', hgets, rfl, hown⟩ := rest_read hans
  obtain ⟨hmap, rfl⟩ := HG1.out.same hgets
  rw [hmap, ← HAT.out] at hown ⊢
  have HX5 : Hid (Ext w4 w5) := hx5
  have HOB := Lib.hid hown
  have hr1 : R.length ≤ 1000000000000 := by have := HRL.out; omega
  have hr2 : R'.length = R.length := by have := congrArg List.length HMAP.out; simpa using this
  have HSL := Lib.hid (rsamelist_any (c := cR) (c2 := cR') ((HGOT.out.below (Ext.trans HX4.out HX5.out)).rs) (HES.out.below HX5.out (Nat.le_refl _)) (Nat.le_refl _) HX5.out.size hr1 (by omega))
  have n1 : (AT.length != AT.length) = false := by simp
  have n2 : ((AT.length : Int) != (AT.length : Int)) = false := by simp
  have n3 : (k' != k') = false := by simp
  have HATL : Hid (AT.length ≤ 1024) := by
    rw [HAT.out]; unfold Hid; rw [ats_len, List.length_map]; have := HRL.out; omega
  clear hans hx5 hgets hown hmap hr1 hr2
  go_wp2_with fail
  refine HSL.out.mono ?_
  rintro x u ⟨z, hz, rfl, hx6⟩
  obtain rfl : z = true := hz.2 HMAP.out.symm
  have HX6 : Hid (Ext w5 u) := hx6
  clear hz hx6 HSL
  go_wp2_with fail
  refine (knum _ _).mono ?_
  rintro x _ ⟨rfl, rfl⟩
  go_wp2_with fail
  refine (knum _ _).mono ?_
  rintro x _ ⟨rfl, rfl⟩
  have HU4 : Hid (Ext w4 u) := Ext.trans HX5.out HX6.out
  have HU3 : Hid (Ext w3 u) := Ext.trans HX4.out HU4.out
  have HXU : Hid (Ext W u) := Ext.trans HX2.out (Ext.trans HX3.out HU3.out)
  have HATI : Hid (∀ wr, Ext u wr → ∀ i, (hi : i < AT.length) → ∃ ga gb, RA = some ⟨ga, 0, none⟩ ∧ RB = some ⟨gb, 0, none⟩ ∧ wr.cell? ⟨ga, i, none⟩ = some (.int .i64 ((AT[i] : Nat) : Int)) ∧ wr.cell? ⟨gb, i, none⟩ = some (.int .i64 ((AT[i] : Nat) : Int))) := fun wr hwr i hi => by
    obtain ⟨ga, e1, q1⟩ := ownI_at (show OwnI _ AT _ wr from own_below HOA.out (Ext.trans HU4.out hwr) (Nat.le_refl _)) i hi
    obtain ⟨gb, e2, q2⟩ := ownI_at (show OwnI _ AT _ wr from own_below HOB.out (Ext.trans HX6.out hwr) (Nat.le_refl _)) i hi
    exact ⟨ga, gb, e1, e2, q1, q2⟩
  have HSZ : Hid (W.heap.size ≤ w2.heap.size ∧ w2.heap.size ≤ w3.heap.size ∧ w3.heap.size ≤ u.heap.size) := ⟨HX2.out.size, HX3.out.size, HU3.out.size⟩
  obtain ⟨S, hS⟩ : ∃ S : Nat → Prop, S = fun i => w2.heap.size ≤ i ∧ i < w3.heap.size ∧ (Value.slice X R.length cR).ownBlock ≠ some i := ⟨_, rfl⟩
  have HSW : Hid (∀ i, S i → w2.heap.size ≤ i) := fun i hi => by rw [hS] at hi; exact hi.1
  have HP : Hid (∀ wr, Chg S u wr → ∀ i p, R[i]? = some p → ∃ g, X = some ⟨g, 0, none⟩ ∧ wr.cell? ⟨g, i * 4, none⟩ = some (.slice p.2.kA p.1.key.length p.2.kc) ∧ wr.cell? ⟨g, i * 4 + 3, none⟩ = some (.slice p.2.vA p.1.val.length p.2.vc)) := fun wr hc i p hp => by
    have hgu := HGOT.out.below HU3.out
    exact row_cells (rowN_kept hgu.row fun g hg => hc.block g (rowN_lt hgu.row g hg).2.1 (fun hs => by rw [hS] at hs; exact hs.2.2 hg)) hp
  have HLK : Hid (∀ p ∈ R, (∀ g, (Value.slice p.2.kA p.1.key.length p.2.kc).ownBlock = some g → S g) ∧ ∀ g, (Value.slice p.2.vA p.1.val.length p.2.vc).ownBlock = some g → S g) := fun p hp => by
    have hm := HGOT.out.each p hp
    rw [hS]
    exact ⟨fun g hg => ⟨(row_lt hm.k g hg).1, (row_lt hm.k g hg).2, rows_apart hm.k HGOT.out.row (by decide) hg⟩, fun g hg => ⟨(row_lt hm.v g hg).1, (row_lt hm.v g hg).2, rows_apart hm.v HGOT.out.row (by decide) hg⟩⟩
  have HR0 : Hid (∀ wr, Ext u wr → Rows3 wr R) := fun wr hwr p hp => by
    have hm := HGOT.out.each p hp
    have hm2 := hm.below (Ext.trans HU3.out hwr)
    exact ⟨Row.of_own hm2.k hm.good.bk, Row.of_own hm2.v hm.good.bv⟩
  have HBO : Hid (Bs u W.heap.size w2.heap.size (.slice A2 (l.length + 1) c2) L) := HB2.out.below (Ext.trans HX3.out HU3.out) (Nat.le_refl _)
  have HBV : Hid (Bs u 0 W.heap.size (.slice A l.length c) l) := HV.out.below HXU.out (Nat.le_refl _)
  have hrI : (R.length : Int) ≤ 1024 := by have := HRL.out; omega
  have hatI : (AT.length : Int) ≤ 1024 := by have := HATL.out; omega
  have HBIG : Hid (∀ p ∈ R, p.1.key.length ≤ 65536 ∧ p.1.val.length ≤ 65536) := fun p hp => by
    rcases HG1.out with ⟨h1, _⟩ | ⟨_, h1, _⟩
    · have := mayN_iff.1 (h1.1.2.2.2 p.1 (List.mem_map_of_mem hp))
      omega
    · have := congrArg List.length h1
      rw [List.length_map] at this
      have := List.eq_nil_of_length_eq_zero this
      subst this; cases hp
  clear hS HOA HOB HES HMAP HG1 HAT HPB HO1 HLIT HX1 HX4 HX5 HX6
  go_wp2_with fail
  go_loopw [11] (fun x wr => ∃ i : Nat, i ≤ AT.length ∧ x = .int .i64 (i : Int) ∧ Hid (Ext u wr)) (fun x _ => AT.length - (intOf x).toNat)
  case atStart => exact ⟨0, Nat.zero_le _, rfl, Lib.hid (Ext.refl _)⟩
  case round =>
    obtain ⟨i, hi, rfl, HX⟩ := hrel
    by_cases hlt : i < AT.length
    · have e1 : decide ((i : Int) < (AT.length : Int)) = true := decide_eq_true (by omega)
      have e1n : decide (i < AT.length) = true := decide_eq_true hlt
      obtain ⟨ga, gb, ea, eb, qa, qb⟩ := HATI.out wr HX.out i hlt
      generalize AT[i] = y at qa qb
      have ny : ((y : Int) != (y : Int)) = false := by simp
      have nyn : (y != y) = false := by simp
      have p1 : (0 : Int) ≤ (i : Int) := by omega
      have p2 : (i : Int) < (AT.length : Int) := by omega
      have HLT := Lib.hid hlt
      rw [ea, eb]
      clear hlt hi
      go_upto_region 12 with (fail)
      refine flow (by kernel_rfl) [Is (.slice (some ⟨gb, 0, none⟩) AT.length rc'), Is (.int .i64 (i : Int)), Is (.pointer (some ⟨gb, i, none⟩)), Is (.int .i64 (y : Int)), Is (.slice (some ⟨ga, 0, none⟩) AT.length rc), Is (.int .i64 (i : Int)), Is (.pointer (some ⟨ga, i, none⟩)), Is (.int .i64 (y : Int)), Is (.bool false)] (by kernel_rfl) (by kernel_rfl) ?mono (fun f1 => ?obl) ?fin
      case mono =>
        simp only [List.forall_mem_cons, List.not_mem_nil, false_imp_iff, implies_true, and_true]
        exact ⟨.is _, .is _, .is _, .is _, .is _, .is _, .is _, .is _, .is _⟩
      case fin =>
        intro g1 w9 hu hg
        simp only [puts, Act.put, List.setIfInBounds_toArray, List.set_cons_zero, List.set_cons_succ]
        have e8 : g1 8 = .bool false := hg 8 (by decide)
        rw [e8]
        have HX2 : Hid (Ext u w9) := Ext.trans HX.out (Ext.trans (Ext.drew wr) hu)
        clear hg hu e8 qa qb
        go_wp2_with fail
        go_roundw
        case rel => exact ⟨i + 1, by have := HLT.out; omega, by go_num, HX2⟩
        case measure => have := HLT.out; simp [intOf]; omega
      case obl =>
        refine ⟨fun u hu hd => ?_, ?_⟩
        · go_simp
          exact ⟨Ext.refl _, rfl⟩
        refine ⟨fun u hu hd => ?_, ?_⟩
        · simp only [Act.put, List.setIfInBounds_toArray, List.set_cons_zero, List.set_cons_succ]
          go_simp
          exact ⟨Ext.refl _, rfl⟩
        refine ⟨fun u hu hd => ?_, ?_⟩
        · simp only [Act.put, List.setIfInBounds_toArray, List.set_cons_zero, List.set_cons_succ]
          have e0 : f1 0 = .slice (some ⟨gb, 0, none⟩) AT.length rc' := hd 0 (by kernel_rfl)
          have e1 : f1 1 = .int .i64 (i : Int) := hd 1 (by kernel_rfl)
          go_simp
          exact ⟨Ext.refl _, rfl⟩
        refine ⟨fun u hu hd => ?_, ?_⟩
        · simp only [Act.put, List.setIfInBounds_toArray, List.set_cons_zero, List.set_cons_succ]
          have e2 : f1 2 = .pointer (some ⟨gb, i, none⟩) := hd 2 (by kernel_rfl)
          have hu2 := Ext.trans (Ext.drew wr) hu
          have q0 := ext_cell hu2 qb
          go_simp
          exact ⟨Ext.refl _, rfl⟩
        refine ⟨fun u hu hd => ?_, ?_⟩
        · simp only [Act.put, List.setIfInBounds_toArray, List.set_cons_zero, List.set_cons_succ]
          go_simp
          exact ⟨Ext.refl _, rfl⟩
        refine ⟨fun u hu hd => ?_, ?_⟩
        · simp only [Act.put, List.setIfInBounds_toArray, List.set_cons_zero, List.set_cons_succ]
          go_simp
          exact ⟨Ext.refl _, rfl⟩
        refine ⟨fun u hu hd => ?_, ?_⟩
        · simp only [Act.put, List.setIfInBounds_toArray, List.set_cons_zero, List.set_cons_succ]
          have e4 : f1 4 = .slice (some ⟨ga, 0, none⟩) AT.length rc := hd 4 (by kernel_rfl)
          have e5 : f1 5 = .int .i64 (i : Int) := hd 5 (by kernel_rfl)
          go_simp
          exact ⟨Ext.refl _, rfl⟩
        refine ⟨fun u hu hd => ?_, ?_⟩
        · simp only [Act.put, List.setIfInBounds_toArray, List.set_cons_zero, List.set_cons_succ]
          have e6 : f1 6 = .pointer (some ⟨ga, i, none⟩) := hd 6 (by kernel_rfl)
          have hu2 := Ext.trans (Ext.drew wr) hu
          have q0 := ext_cell hu2 qa
          go_simp
          exact ⟨Ext.refl _, rfl⟩
        refine ⟨fun u hu hd => ?_, ?_⟩
        · simp only [Act.put, List.setIfInBounds_toArray, List.set_cons_zero, List.set_cons_succ]
          have e3 : f1 3 = .int .i64 (y : Int) := hd 3 (by kernel_rfl)
          have e7 : f1 7 = .int .i64 (y : Int) := hd 7 (by kernel_rfl)
          go_simp
          exact ⟨Ext.refl _, rfl⟩
        trivial
    · have e1 : decide ((i : Int) < (AT.length : Int)) = false := decide_eq_false (by omega)
      have e1n : decide (i < AT.length) = false := decide_eq_false hlt
      clear hlt hi
      have HCX : Hid (Chg S u wr) := ⟨HX.out.os, HX.out.tape, HX.out.output, HX.out.size, fun k hk _ => Below.block HX.out k hk⟩
      have HRX := Lib.hid (HR0.out wr HX.out)
      clear HX HR0 HATI HGOT
      go_wp2_with fail
      go_loopg [12, 13, 14] (R.length + 1) (fun gh a _ _ wr => ∃ i : Nat, gh + i = R.length + 1 ∧ i ≤ R.length ∧ a = .int .i64 (i : Int) ∧ Hid (Rows3 wr R) ∧ Hid (Chg S u wr))
      case atStart => exact ⟨0, rfl, Nat.zero_le _, rfl, HRX, HCX⟩
      case round =>
        clear HRX HCX
        obtain ⟨i, hgi, hi, rfl, HRR, HC⟩ := hrel
        have HGI := Lib.hid hgi
        clear hgi
        by_cases hlt : i < R.length
        · have e1 : decide ((i : Int) < (R.length : Int)) = true := decide_eq_true (by omega)
          have e1n : decide (i < R.length) = true := decide_eq_true hlt
          obtain ⟨p, hp⟩ : ∃ p, R[i]? = some p := ⟨_, List.getElem?_eq_getElem hlt⟩
          have HPI := Lib.hid hp
          have HPM := Lib.hid (List.mem_of_getElem? hp)
          obtain ⟨g, hg, _, _⟩ := HP.out _ HC.out i p hp
          have HXG := Lib.hid hg
          have p1 : (0 : Int) ≤ (i : Int) := by omega
          have p2 : (i : Int) < (R.length : Int) := by omega
          have HLT := Lib.hid hlt
          rw [hg]
          clear hp hg hlt hi
          go_wp2_with fail
          go_loopw [13] (fun x wr => ∃ j : Nat, j ≤ p.1.key.length ∧ x = .int .i64 (j : Int) ∧ Hid (Rows3 wr R) ∧ Hid (Chg S u wr)) (fun x _ => p.1.key.length - (intOf x).toNat)
          case atStart => exact ⟨0, Nat.zero_le _, rfl, HRR, HC⟩
          case round =>
            clear HRR HC
            obtain ⟨j, hj, rfl, HRR, HC⟩ := hrel
            obtain ⟨g', hg', qc, _⟩ := HP.out _ HC.out i p HPI.out
            obtain rfl : g' = g := by rw [HXG.out] at hg'; injection hg' with hg'; injection hg' with hg'; exact hg'.symm
            clear hg'
            by_cases hlt : j < p.1.key.length
            · obtain ⟨gg, hrog, hAg, ⟨x, hx, hcell⟩, hfz⟩ := (HRR.out p HPM.out).1 j hlt
              rw [hAg] at qc
              have f1 : decide ((j : Int) < (p.1.key.length : Int)) = true := decide_eq_true (by omega)
              have f1n : decide (j < p.1.key.length) = true := decide_eq_true hlt
              have HG := Lib.hid ((HLK.out p HPM.out).1 gg hrog)
              have HKL := Lib.hid (HBIG.out p HPM.out).1
              have HLJ := Lib.hid hlt
              clear hrog hx hAg
              go_wp2_with fail
              go_roundw
              case rel => exact ⟨j + 1, by have := HLJ.out; omega, by rw [wrap_succ (by have := HLJ.out; have := HKL.out; omega)], Lib.hid (HRR.out.set (x := 102) (by omega)), Lib.hid (HC.out.trans (Chg.setCell _ _ _ HG.out))⟩
              case measure => have := HLJ.out; have := HKL.out; rw [wrap_succ (by omega)]; simp [intOf]; omega
            · have f1 : decide ((j : Int) < (p.1.key.length : Int)) = false := decide_eq_false (by omega)
              have f1n : decide (j < p.1.key.length) = false := decide_eq_false hlt
              clear hlt hj
              go_wp2_with fail
              go_loopw [14] (fun x wr => ∃ j : Nat, j ≤ p.1.val.length ∧ x = .int .i64 (j : Int) ∧ Hid (Rows3 wr R) ∧ Hid (Chg S u wr)) (fun x _ => p.1.val.length - (intOf x).toNat)
              case atStart => exact ⟨0, Nat.zero_le _, rfl, HRR, HC⟩
              case round =>
                clear HRR HC qc
                obtain ⟨j, hj, rfl, HRR, HC⟩ := hrel
                obtain ⟨g'', hg', _, qc⟩ := HP.out _ HC.out i p HPI.out
                obtain rfl : g'' = g' := by rw [HXG.out] at hg'; injection hg' with hg'; injection hg' with hg'; exact hg'.symm
                clear hg'
                by_cases hlt : j < p.1.val.length
                · obtain ⟨gg, hrog, hAg, ⟨x, hx, hcell⟩, hfz⟩ := (HRR.out p HPM.out).2 j hlt
                  rw [hAg] at qc
                  have f1 : decide ((j : Int) < (p.1.val.length : Int)) = true := decide_eq_true (by omega)
                  have f1n : decide (j < p.1.val.length) = true := decide_eq_true hlt
                  have HG := Lib.hid ((HLK.out p HPM.out).2 gg hrog)
                  have HKL := Lib.hid (HBIG.out p HPM.out).2
                  have HLJ := Lib.hid hlt
                  clear hrog hx hAg
                  go_wp2_with fail
                  go_roundw
                  case rel => exact ⟨j + 1, by have := HLJ.out; omega, by rw [wrap_succ (by have := HLJ.out; have := HKL.out; omega)], Lib.hid (HRR.out.set (x := 102) (by omega)), Lib.hid (HC.out.trans (Chg.setCell _ _ _ HG.out))⟩
                  case measure => have := HLJ.out; have := HKL.out; rw [wrap_succ (by omega)]; simp [intOf]; omega
                · have f1 : decide ((j : Int) < (p.1.val.length : Int)) = false := decide_eq_false (by omega)
                  have f1n : decide (j < p.1.val.length) = false := decide_eq_false hlt
                  clear hlt hj
                  go_wp2_with fail
                  rw [← HXG.out]
                  go_roundg (R.length + 1 - (i + 1))
                  case rel => exact ⟨i + 1, by have := HLT.out; omega, by have := HLT.out; omega, by go_num, HRR, HC⟩
                  case measure => have := HLT.out; have := HGI.out; omega
        · have e1 : decide ((i : Int) < (R.length : Int)) = false := decide_eq_false (by omega)
          have e1n : decide (i < R.length) = false := decide_eq_false hlt
          clear hlt hi
          have HBE := Lib.hid (HC.out.below (B := w2.heap.size) (fun i h => HSW.out i h) (by have := HSZ.out; omega))
          have cvo : (convert 22 9 (.slice A2 (l.length + 1) c2)).run Try.prog wr = .ok (.string (tx L)) wr := by
            have hb := HBO.out.below HBE.out (Nat.le_refl _)
            rw [← HLL.out] at hb ⊢
            exact cv_any hb
          have cvl : (convert 22 9 (.slice A l.length c)).run Try.prog wr = .ok (.string (tx l)) wr := cv_any (HBV.out.below HBE.out HSZ.out.1)
          have heq : ((tx L).toList == (tx l ++ ({ data := #[119] } : ByteArray)).toList) = true := by rw [HE.out]; exact tx_snoc l
          have hts2 : (tx l).size ≤ 100000 := by rw [tx_size]; exact HLEN.out
          have hts : ((tx l).size : Int) ≤ 100000 := by omega
          have HFIN : Hid (Ext W wr) := Below.trans HXU.out (HC.out.below (B := W.heap.size) (fun i h => by have := HSW.out i h; have := HSZ.out; omega) HXU.out.size)
          clear HP HRR HC HBE HBO HBV HLK
          go_wp2_with fail
          refine (known_any wr).mono ?_
          rintro x w9 ⟨rfl, hb⟩
          have HZ : Hid (Ext W w9) := Ext.trans HFIN.out hb
          clear hb
          go_wp2_with fail
          go_ret
          exact ⟨rfl, HZ.out⟩
end Go.Proofs.Ytddfelahpiokjaa.kreads

/- BlockReads: from the walk to the statement. For every input the law answers true and leaves its arguments as they were. -/
namespace Go.Proofs.Ytddfelahpiokjaa.kreads
open Go.ChangeShapes Go.WideShapes Go.ChangeAt Go.RowKit
set_option linter.unusedVariables false

set_option maxRecDepth 100000 in
theorem lifted (os : Os) (started : os.Started) (H : Type) (enc : TypeId × Value → H) :
    ReturnsInHanded {} Try.checked os 3 .any (Rows.blockReadsSpec.pre6 enc Try.prog Try.f3 Rows.blockReadsRow.domain false) (Rows.blockReadsSpec.post enc Try.prog Try.f3 false true false false) := by
  refine returnsInHanded_of_change (C := Try.checked) own started (by kernel_rfl) Try.func3
    (ChangeSpec.witness6 (enc := enc) (C := Try.checked) false ⟨#[], #[.slice none 0 0], []⟩ 8 (by kernel_rfl) (by kernel_rfl) (by kernel_rfl) (by kernel_rfl)) ?_
  intro W base args ds gs before hval0 hW hcnd _
  have hval : ∀ (j : Nat) t v, Try.f3.params[j]? = some t → args[j]? = some v → Value.okWide Try.prog W .any base t v := hval0
  have hW' := hW
  obtain ⟨p, q, hA0, hV, rfl, hfz, hnd⟩ := hW
  have hA : DataW.TrodAll enc Try.prog W 0 (fun _ => true) true Try.f3.params.toList args.toList ds p := hA0
  rw [Try.params3] at hA hval
  obtain ⟨v0, vs0, d0, ds0, p0, q0, hargs, rfl, rfl, h0, r0⟩ := trodAll_cons hA
  obtain ⟨rfl, rfl, rfl⟩ := trodAll_nil r0
  obtain rfl : args = #[v0] := by cases args; simp_all
  obtain ⟨rfl, rfl⟩ := trodVars_none hV
  have k0 := h0
  have lt0 : ∀ x ∈ p0, x.block < W.heap.size := by obtain ⟨m, hm⟩ := k0; exact DataW.trod_lt m _ _ _ hm
  obtain ⟨l0, y0, b0⟩ := open_bytes (hval 0 22 v0 rfl rfl) h0
  clear hA0 hval0
  refine (walk W v0 l0 b0 y0).mono fun e W' ⟨he, bel⟩ => ?_
  subst he
  exact ⟨_, rfl, _, _, _, [], _, [], hW', trodAll_mk1 (shut_bool Try.underlying4 _), (trodAll_cons_mk (Below.trod laidOut (by kernel_rfl) (of_decide_eq_true (by kernel_rfl)) k0 bel lt0) trodAll_mk0), rfl, bel.frame _, fun h => by cases h⟩

theorem over : Rows.blockReadsRow.holds Try.pinned (OpenSpec.ofChange Rows.blockReadsSpec) :=
  OpenClaim.holds_of_wide 3 Try.f3 rfl rfl rfl rfl rfl rfl rfl ⟨rfl, rfl, rfl, rfl, rfl⟩ rfl rfl rfl rfl rfl (by kernel_rfl) Try.func3 (by kernel_rfl)
    (of_decide_eq_true (by kernel_rfl)) (by unfold Func.isWrapper; first | (rw [if_pos (by decide +kernel)]; kernel_rfl) | (rw [if_neg (by decide +kernel)]; exact ⟨rfl, rfl⟩))
    (fun os started H enc _ => lifted os started H enc)

theorem proved : Rows.BlockReadsSaid := over
end Go.Proofs.Ytddfelahpiokjaa.kreads
