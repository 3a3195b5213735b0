/- Sfill Srbytes Sall Iargs, joined. -/
import Derived.Test.YtpfaoiickmpmjaaDoorMb8
import Derived.Test.YtpfaoiickmpmjaaDoorMb9
import Derived.Test.YtpfaoiickmpmjaaDoorMb7
import Derived.Test.YtpfaoiickmpmjaaDoorMb4
import Derived.Lib.SmallJoins
import Derived.SizedLaws
import Derived.Deep.Slices

/- fill: entries put one behind the other, and the document's list. -/
namespace Go.Proofs.YtpfaoiickmpmjaaDoor
open Go.ChangeShapes Go.WideShapes Go.ChangeAt Go.RowKit

/-- What the document's list is behind entries that are put one behind the other. -/
def fillE (l : List Ent) : List Ent := l.foldl (fun r x => (putE r x).1) []
theorem fillE_snoc (l : List Ent) (x : Ent) : fillE (l ++ [x]) = (putE (fillE l) x).1 := by unfold fillE; rw [List.foldl_append]; rfl
theorem fillE_next {L : List (Ent × Hd)} {k : Nat} {p : Ent × Hd} (h : L[k]? = some p) : fillE ((L.take (k + 1)).map Prod.fst) = (putE (fillE ((L.take k).map Prod.fst)) p.1).1 := by
  rw [List.take_add_one, h, List.map_append]; exact fillE_snoc _ _
/-- An ascending list of entries that may be. -/
structure AscM (l : List Ent) : Prop where
  asc : Asc l
  may : ∀ e ∈ l, e.may = true
theorem AscM.put {l : List Ent} (h : AscM l) (x : Ent) : AscM (putE l x).1 := ⟨h.asc.put x, fun e he => by
  rcases putE_mem he with h1 | ⟨rfl, h1⟩
  · exact h.may e h1
  · exact h1⟩
theorem fill_inv : ∀ (l : List Ent) (r : List Ent), AscM r → AscM (l.foldl (fun r x => (putE r x).1) r) ∧ (l.foldl (fun r x => (putE r x).1) r).length ≤ r.length + l.length
  | [], r, h => ⟨h, Nat.le_refl _⟩
  | x :: l, r, h => by
    have h1 := fill_inv l (putE r x).1 (h.put x)
    have h2 := putE_len r x
    exact ⟨h1.1, by have := h1.2; simp only [List.foldl_cons, List.length_cons]; omega⟩
theorem fillE_asc (l : List Ent) : AscM (fillE l) := (fill_inv l [] ⟨by simp [Asc], fun e he => by cases he⟩).1
theorem fillE_len (l : List Ent) : (fillE l).length ≤ l.length := by simpa [fillE] using (fill_inv l [] ⟨by simp [Asc], fun e he => by cases he⟩).2
/-- A row whose bytes nobody asks for any more: it may be written over. -/
def Spent (w : World) (ro : Option Nat) (A : Option Addr) (n : Nat) : Prop := ∀ j, j < n → ∃ g, ro = some g ∧ A = some ⟨g, 0, none⟩ ∧ (∃ x : Nat, x < 256 ∧ w.cell? ⟨g, j, none⟩ = some (.int .u8 (x : Int))) ∧ w.frozen? ⟨g, j, none⟩ = false
theorem Spent.of_own {w : World} {B : Nat} {A : Option Addr} {n c : Nat} {l : List Nat} (h : w.ownsRow B 5 1 (.slice A n c) l.length (bv l)) (hl : ∀ b ∈ l, b < 256) : n = l.length ∧ Spent w (Value.slice A n c).ownBlock A n := by
  rcases h.2 with ⟨h', h0⟩ | ⟨g, cap, cur, h', _⟩
  · injection h' with e1 e2 e3
    exact ⟨by omega, fun j hj => by omega⟩
  · injection h' with e1 e2 e3
    subst e1 e2 e3
    refine ⟨rfl, fun j hj => ⟨g, rfl, rfl, ⟨l[j], hl _ (List.getElem_mem hj), ?_⟩, h.frozenAt j⟩⟩
    rw [h.cellAt j (by omega)]
    simp [bv, List.getElem?_eq_getElem hj]
theorem Spent.set {w : World} {ro : Option Nat} {A : Option Addr} {n g j x : Nat} (h : Spent w ro A n) (hx : x < 256) : Spent (w.setCell ⟨g, j, none⟩ (.int .u8 (x : Int))) ro A n := by
  intro i hi
  obtain ⟨g', e1, e2, ⟨y, hy, hc⟩, hf⟩ := h i hi
  refine ⟨g', e1, e2, ?_, by simpa using hf⟩
  by_cases he : (⟨g, j, none⟩ : Addr) = ⟨g', i, none⟩
  · injection he with q1 q2
    subst q1 q2
    exact ⟨x, hx, World.cell?_setCell_same _ _ _ hc⟩
  · exact ⟨y, hy, by rw [World.cell?_setCell_other _ _ _ _ he]; exact hc⟩
theorem Got.sks {B : Nat} {v : Value} {R : List (Ent × Hd)} {w w' : World} {D : Nat → Prop} (h : Got B v R w) (hc : Chg (Sks D w) w w') : Got B v R w' := by
  refine h.keepS hc fun b hb hs => ?_
  rcases hb with hb | ⟨p, hp, hb | hb⟩
  · obtain ⟨_, _, cur, hh⟩ := rowN_lt h.row b hb
    obtain ⟨c, fz, hs | hs⟩ := hs.2 <;> · rw [hh] at hs; injection hs with hs; injection hs with _ h2 _; exact absurd h2 (by decide)
  · exact (h.each p hp).k.skb hb hs.2
  · exact (h.each p hp).v.skb hb hs.2
/-- What fill answers: a list of its own, and the document's, of entries of its own. -/
def FillAns (w : World) (L : List Ent) (e : Ending) (w' : World) : Prop :=
  ∃ (lb hb : Nat) (T : List Tw) (R : List (Ent × Hd)) (A : Option Addr) (c : Nat), e = .returned (.tuple #[.pointer (some ⟨lb, 0, none⟩), .slice A R.length c, .bool true]) ∧ Sk w' (fun k => w.heap.size ≤ k) lb hb T ∧ T.map Tw.e = R.map Prod.fst ∧ R.map Prod.fst = fillE L ∧ Got w.heap.size (.slice A R.length c) R w' ∧ Ext w w'
/-- Between two rounds. -/
structure FillI (w : World) (lb hb : Nat) (L : List Ent) (D : Nat → Prop) (T : List Tw) (R : List (Ent × Hd)) (A : Option Addr) (c : Nat) (wr : World) : Prop where
  sk : Sk wr D lb hb T
  dom : ∀ k, D k → w.heap.size ≤ k ∧ k < wr.heap.size
  same : T.map Tw.e = R.map Prod.fst
  fill : R.map Prod.fst = fillE L
  asc : AscM (R.map Prod.fst)
  few : R.length ≤ L.length
  got : Got w.heap.size (.slice A R.length c) R wr
  ext : Ext w wr

set_option maxRecDepth 100000 in
set_option maxHeartbeats 16000000 in
theorem fill_any {w : World} {hi : Nat} {A : Option Addr} {c : Nat} {L : List (Ent × Hd)} (h : Es w 0 hi A L) (hhi : hi ≤ w.heap.size) (hT : Tab w) (hfew : FewE L) :
    Calls Tryd.prog 14 #[.slice A L.length c] w (FillAns w (L.map Prod.fst)) := by
  have HE := Lib.hid h
  have HHI := Lib.hid hhi
  have HTB := Lib.hid hT
  have HF := Lib.hid hfew
  have hlI : (L.length : Int) ≤ 200 := by have := hfew.1; omega
  clear h hhi hT hfew
  go_enter Tryd.func14, Tryd.ntmps14
  go_wp2_with fail
  refine Calls.mono (new_any w) ?_
  rintro e w1 ⟨rfl, hs1, hx1⟩
  obtain ⟨lb, hlb⟩ : ∃ lb, lb = w.heap.size + 1 := ⟨_, rfl⟩
  obtain ⟨hb, hhb⟩ : ∃ hb, hb = w.heap.size := ⟨_, rfl⟩
  have HI0 : Hid (FillI w lb hb [] (fun k => w.heap.size ≤ k ∧ k < w1.heap.size) [] [] none 0 w1) := by
    rw [hlb, hhb]
    exact Lib.hid ⟨Sk.wide hs1 (fun k hk hd => ⟨hd, hk⟩), fun k h => h, rfl, rfl, ⟨by simp [Asc], fun e he => by cases he⟩, Nat.le_refl _, Got.nil _ _, hx1⟩
  rw [← hlb]
  clear hs1 hx1 hlb hhb
  go_wp2_with fail
  go_loopw [6, 7] (fun r i wr => ∃ k : Nat, k ≤ L.length ∧ i = .int .i64 (k : Int) ∧ ∃ (D : Nat → Prop) (T : List Tw) (R : List (Ent × Hd)) (X : Option Addr) (d : Nat), r = .slice X R.length d ∧ Hid (FillI w lb hb ((L.take k).map Prod.fst) D T R X d wr)) (fun _ i _ => L.length - (intOf i).toNat)
  case atStart => exact ⟨0, Nat.zero_le _, rfl, _, [], [], none, 0, rfl, HI0⟩
  case round =>
    clear HI0
    obtain ⟨k, hk, rfl, D, T, R, X, d, rfl, HI⟩ := hrel
    by_cases hlt : k < L.length
    · have d1 : decide ((k : Int) < (L.length : Int)) = true := decide_eq_true (by omega)
      have d1n : decide (k < L.length) = true := decide_eq_true hlt
      obtain ⟨b, o, hA⟩ := HE.out.base (by omega)
      subst hA
      obtain ⟨p, hp⟩ : ∃ p, L[k]? = some p := ⟨_, List.getElem?_eq_getElem hlt⟩
      obtain ⟨c0, c1, c2, c3⟩ := (HE.out.below HI.out.ext HHI.out).get hp
      have HP := Lib.hid hp
      have n1 : (0 : Int) ≤ (k : Int) := by omega
      have n2 : (k : Int) < (L.length : Int) := by omega
      have HLT := Lib.hid hlt
      have HEM : Hid (∀ u, Below w.heap.size w u → Em u 0 hi p.1 p.2 ∧ hi ≤ u.heap.size) := fun u hu => ⟨(HE.out.below hu HHI.out).each p (List.mem_of_getElem? HP.out), Nat.le_trans HHI.out hu.size⟩
      have HPL : Hid (p.1.key.length + p.1.val.length < 200000) := HF.out.2 p (List.mem_of_getElem? hp)
      have HRL : Hid (R.length ≤ 200 ∧ T.length = R.length) := by
        have h1 := HI.out.few
        have h2 := congrArg List.length HI.out.same
        simp only [List.length_map, List.length_take] at h1 h2
        exact Lib.hid ⟨by omega, h2⟩
      have HRC := Lib.hid (rcopy_any (HEM.out wr HI.out.ext).1 (HEM.out wr HI.out.ext).2 (by have := HPL.out; omega) (by have := HPL.out; omega))
      unfold Ent.at_ at HRC
      clear hp hlt
      go_wp2_with fail
      refine HRC.out.mono ?_
      rintro x w1 ⟨hx1, g, rfl, ho1, ho2⟩
      have HX1 : Hid (Ext wr w1) := hx1
      have HOK := Lib.hid ho1
      have HOV := Lib.hid ho2
      have HG : Hid (Good p.1) := (HEM.out wr HI.out.ext).1.good
      clear hx1 ho1 ho2 HRC c0 c1 c2 c3
      unfold Ent.at_
      obtain ⟨w2, hw2⟩ : ∃ w2, w2 = w1.alloc (.cells #[.slice g.kA p.1.key.length g.kc, .int .i64 p.1.seq, .int .i64 p.1.kind, .slice g.vA p.1.val.length g.vc] 40) := ⟨_, rfl⟩
      have HX2 : Hid (Ext w1 w2) := by rw [hw2]; exact ext_alloc _ _
      have HB2 : Hid (w2.heap[w1.heap.size]? = some (.cells #[.slice g.kA p.1.key.length g.kc, .int .i64 p.1.seq, .int .i64 p.1.kind, .slice g.vA p.1.val.length g.vc] 40 (0, 0))) := by rw [hw2]; exact heap_at _ _ rfl
      have HX12 : Hid (Ext wr w2) := Ext.trans HX1.out HX2.out
      have HS2 : Hid (wr.heap.size ≤ w1.heap.size ∧ w1.heap.size + 1 ≤ w2.heap.size ∧ w.heap.size ≤ wr.heap.size) := ⟨HX1.out.size, (Array.getElem?_eq_some_iff.1 HB2.out).1, HI.out.ext.size⟩
      have HM2 : Hid (Em w2 wr.heap.size w1.heap.size p.1 g) := by
        have m : Em w1 wr.heap.size w1.heap.size p.1 g := ⟨Bs.of_own HOK.out, Bs.of_own HOV.out, HG.out.bk, HG.out.bv, HG.out.s1, HG.out.s2, HG.out.d1, HG.out.d2⟩
        exact m.below HX2.out (Nat.le_refl _)
      have HTL := HTB.out.lt
      have HPUT := Lib.hid (sput_any (Sk.ext HI.out.sk HX12.out) HM2.out HX2.out.size (fun q hd => .inl (HI.out.dom q hd).2) ((HTB.out.ext HI.out.ext).ext HX12.out) (fun hd => by have := (HI.out.dom _ hd).1; omega) (by have := HRL.out; omega) (by have := HPL.out; omega) (by have := HPL.out; omega))
      unfold Ent.at_ at HPUT
      have b0 := cell_of HB2.out (k := 0) rfl
      have b1 := cell_of HB2.out (k := 1) rfl
      have b2 := cell_of HB2.out (k := 2) rfl
      have b3 := cell_of HB2.out (k := 3) rfl
      clear HTL
      go_upto_region 9 with (fail)
      rw [← hw2]
      clear hw2
      go_wp2_with fail
      refine HPUT.out.mono ?_
      rintro x w3 ⟨T', cc, hput, rfl, hs3, hc3⟩
      have HPE := Lib.hid hput
      have HS3 := Lib.hid hs3
      have HC3 := Lib.hid hc3
      clear hput hs3 hc3 HPUT b0 b1 b2 b3
      have HW3 : Hid (Below w.heap.size w w3) := Below.trans (Ext.trans HI.out.ext HX12.out) (HC3.out.below (fun q h => (HI.out.dom q h.1).1) (Ext.trans HI.out.ext HX12.out).size)
      have HG3 : Hid (Got w.heap.size (.slice X R.length d) R w3) := ((HI.out.got.below HX12.out).sks HC3.out)
      have HRP := Lib.hid (rput_any HG3.out (HEM.out w3 HW3.out).1 (HEM.out w3 HW3.out).2 HW3.out.size HI.out.asc.asc (fun q hq => HI.out.asc.may _ (List.mem_map_of_mem hq)) (by have := HRL.out; omega))
      unfold Ent.at_ at HRP
      obtain ⟨c0, c1, c2, c3⟩ := (HE.out.below HW3.out HHI.out).get HP.out
      go_wp2_with fail
      refine HRP.out.mono ?_
      rintro x w4 ⟨R', X', d', kk, hput2, rfl, hg4, hx4, hbk⟩
      obtain ⟨rfl, hTR⟩ : cc = kk ∧ T'.map Tw.e = R'.map Prod.fst := by
        have h1 := HPE.out
        rw [HI.out.same] at h1
        have := h1.symm.trans hput2; injection this with q1 q2; exact ⟨q2, q1⟩
      have HTR := Lib.hid hTR
      have HPE2 := Lib.hid hput2
      have HG4 := Lib.hid hg4
      have HX4 : Hid (Ext w3 w4) := hx4
      have HBK := Lib.hid hbk
      clear hput2 hg4 hx4 hbk hTR HRP c0 c1 c2 c3
      have HW4 : Hid (Below w.heap.size w w4) := Below.trans HW3.out (HX4.out.mono HW3.out.size)
      have HS4 : Hid (w2.heap.size ≤ w3.heap.size ∧ w3.heap.size ≤ w4.heap.size) := ⟨HC3.out.size, HX4.out.size⟩
      have HB4 : Hid (w4.heap[w1.heap.size]? = some (.cells #[.slice g.kA p.1.key.length g.kc, .int .i64 p.1.seq, .int .i64 p.1.kind, .slice g.vA p.1.val.length g.vc] 40 (0, 0))) := by
        have h1 := HC3.out.block w1.heap.size (by have := HS2.out; omega) (fun hs => by have h2 := (HI.out.dom _ hs.1).2; have h3 := HS2.out.1; omega)
        exact ext_heap HX4.out (h1.trans HB2.out)
      have HO4 : Hid (Own wr.heap.size p.1.key (.slice g.kA p.1.key.length g.kc) w4 ∧ Own wr.heap.size p.1.val (.slice g.vA p.1.val.length g.vc) w4) :=
        ⟨((HOK.out.below HX2.out).sks HC3.out).below HX4.out, ((HOV.out.below HX2.out).sks HC3.out).below HX4.out⟩
      have HLK : Hid (∀ q, (Value.slice g.kA p.1.key.length g.kc).ownBlock = some q → wr.heap.size ≤ q ∧ q < w1.heap.size) := fun q hq => row_lt HOK.out q hq
      have HLV : Hid (∀ q, (Value.slice g.vA p.1.val.length g.vc).ownBlock = some q → wr.heap.size ≤ q ∧ q < w1.heap.size) := fun q hq => row_lt HOV.out q hq
      have HM4 : Hid (∀ u, Ext w4 u → Em u 0 w4.heap.size p.1 g ∧ w4.heap.size ≤ u.heap.size) := fun u hu =>
        ⟨(⟨HO4.out.1.bs, HO4.out.2.bs, HG.out.bk, HG.out.bv, HG.out.s1, HG.out.s2, HG.out.d1, HG.out.d2⟩ : Em w4 0 w4.heap.size p.1 g).below hu (Nat.le_refl _), hu.size⟩
      obtain ⟨c0, c1, c2, c3⟩ := (HE.out.below HW4.out HHI.out).get HP.out
      have b0 := cell_of HB4.out (k := 0) rfl
      have b1 := cell_of HB4.out (k := 1) rfl
      have b2 := cell_of HB4.out (k := 2) rfl
      have b3 := cell_of HB4.out (k := 3) rfl
      go_upto_region 12 with (fail)
      refine flow (by kernel_rfl) [Is (.int .i64 cc), Is (.int .i64 cc), Is (.int .i64 cc), Is (.bool false), Is (.bool false), Is (.agg #[.slice g.kA p.1.key.length g.kc, .int .i64 p.1.seq, .int .i64 p.1.kind, .slice g.vA p.1.val.length g.vc]), Is (.slice (some ⟨b, o, none⟩) L.length c), Is (.int .i64 (k : Int)), Is (.pointer (some ⟨b, o + k * 4, none⟩)), Is (.agg #[.slice p.2.kA p.1.key.length p.2.kc, .int .i64 p.1.seq, .int .i64 p.1.kind, .slice p.2.vA p.1.val.length p.2.vc]), Is (.bool true), Is (.bool false), Is (.bool false)] (by kernel_rfl) (by kernel_rfl) ?mono (fun f1 => ?obl) ?fin
      case mono =>
        simp only [List.forall_mem_cons, List.not_mem_nil, false_imp_iff, implies_true, and_true]
        exact ⟨.is _, .is _, .is _, .is _, .is _, .is _, .is _, .is _, .is _, .is _, .is _, .is _, .is _⟩
      case fin =>
        intro g1 w5 hu hg
        simp only [puts, Act.put, List.setIfInBounds_toArray, List.set_cons_zero, List.set_cons_succ]
        have h12 : g1 12 = .bool false := hg 12 (by decide)
        rw [h12]
        have HX5 : Hid (Ext w4 w5) := Ext.trans (Ext.drew w4) hu
        clear h12 hg hu b0 b1 b2 b3 c0 c1 c2 c3
        obtain ⟨S, hS⟩ : ∃ S : Nat → Prop, S = fun i => wr.heap.size ≤ i ∧ i < w1.heap.size := ⟨_, rfl⟩
        have HS := Lib.hid (fun i => (congrFun hS i).to_iff)
        clear hS
        have HNX : Hid (∀ wz, Chg S w5 wz → FillI w lb hb ((L.take (k + 1)).map Prod.fst) (fun q => (D q ∨ w2.heap.size ≤ q) ∧ q < w3.heap.size) T' R' X' d' wz) := fun wz hz => by
          have hs2 := HS2.out
          have hs4 := HS4.out
          have hx45 := HX5.out.size
          have hzs := hz.size
          refine ⟨?_, fun q hq => ?_, HTR.out, ?_, ?_, ?_, ?_, ?_⟩
          · refine Sk.keep (((HS3.out.wide (D' := fun q => (D q ∨ w2.heap.size ≤ q) ∧ q < w3.heap.size) (fun q hq hd => ⟨hd, hq⟩)).ext HX4.out).ext HX5.out) hz fun q hq hd => ?_
            have h1 := (HS.out q).1 hq
            rcases hd.1 with hd | hd
            · have := (HI.out.dom q hd).2; omega
            · omega
          · refine ⟨?_, by omega⟩
            rcases hq.1 with hd | hd
            · exact (HI.out.dom q hd).1
            · omega
          · rw [fillE_next HP.out, ← HI.out.fill, HPE2.out]
          · have h1 := HI.out.asc.put p.1
            rwa [HPE2.out] at h1
          · have h1 := putE_len (R.map Prod.fst) p.1
            have h2 := HI.out.few
            have h3 := HLT.out
            rw [HPE2.out] at h1
            simp only [List.length_map, List.length_take] at h1 h2 ⊢
            omega
          · refine (HG4.out.below HX5.out).keepS hz fun q hq hd => ?_
            have h1 := (HS.out q).1 hd
            rcases HBK.out q hq with h2 | h2
            · have := (HI.out.got.blk h2).2; omega
            · omega
          · exact Below.trans HW4.out (Below.trans (HX5.out.mono HW4.out.size) (hz.below (fun q h => by have := (HS.out q).1 h; omega) (by omega)))
        have HPB : Hid (∀ wz, Chg S w5 wz → wz.cell? ⟨w1.heap.size, 0, none⟩ = some (.slice g.kA p.1.key.length g.kc) ∧ wz.cell? ⟨w1.heap.size, 3, none⟩ = some (.slice g.vA p.1.val.length g.vc)) := fun wz hz => by
          have hs2 := HS2.out
          have hs4 := HS4.out
          have hx45 := HX5.out.size
          have h1 := (hz.block w1.heap.size (by omega) (fun h => by have := (HS.out _).1 h; omega)).trans (ext_heap HX5.out HB4.out)
          exact ⟨cell_of h1 (k := 0) rfl, cell_of h1 (k := 3) rfl⟩
        have HRK : Hid (Spent w5 (Value.slice g.kA p.1.key.length g.kc).ownBlock g.kA p.1.key.length) := (Spent.of_own (HO4.out.1.below HX5.out) HG.out.bk).2
        have HRV : Hid (Spent w5 (Value.slice g.vA p.1.val.length g.vc).ownBlock g.vA p.1.val.length) := (Spent.of_own (HO4.out.2.below HX5.out) HG.out.bv).2
        have HLKS : Hid (∀ q, (Value.slice g.kA p.1.key.length g.kc).ownBlock = some q → S q) := fun q hq => (HS.out q).2 (HLK.out q hq)
        have HLVS : Hid (∀ q, (Value.slice g.vA p.1.val.length g.vc).ownBlock = some q → S q) := fun q hq => (HS.out q).2 (HLV.out q hq)
        obtain ⟨ro, hro⟩ : ∃ ro, ro = (Value.slice g.kA p.1.key.length g.kc).ownBlock := ⟨_, rfl⟩
        obtain ⟨so, hso⟩ : ∃ so, so = (Value.slice g.vA p.1.val.length g.vc).ownBlock := ⟨_, rfl⟩
        rw [← hro] at HRK HLKS
        rw [← hso] at HRV HLVS
        obtain ⟨N, hN⟩ : ∃ N, N = p.1.key.length := ⟨_, rfl⟩
        obtain ⟨M, hM⟩ : ∃ M, M = p.1.val.length := ⟨_, rfl⟩
        have hNM : N ≤ 200000 ∧ M ≤ 200000 := by have := HPL.out; omega
        rw [← hN] at HRK HPB
        rw [← hM] at HRV HPB
        clear hro hso hN hM HI HOK HOV HG HB2 HX12 HS2 HM2 HPE HS3 HC3 HW3 HG3 HTR HPE2 HG4 HX4 HBK HW4 HS4 HB4 HO4 HLK HLV HM4 HX5 HEM HPL HRL HE HS HX1 HX2
        go_wp2_with fail
        go_loopw [11] (fun x wz => ∃ j : Nat, j ≤ N ∧ x = .int .i64 (j : Int) ∧ Hid (Spent wz ro g.kA N) ∧ Hid (Spent wz so g.vA M) ∧ Hid (Chg S w5 wz)) (fun x _ => N - (intOf x).toNat)
        case atStart => exact ⟨0, Nat.zero_le _, rfl, HRK, HRV, Lib.hid (Chg.refl _ _)⟩
        case round =>
          clear HRK HRV
          obtain ⟨j, hj, rfl, HRK, HRV, HC⟩ := hrel
          have qc := (HPB.out _ HC.out).1
          by_cases hlt : j < N
          · obtain ⟨gg, hrog, hAg, ⟨y, hy, hcell⟩, hfz⟩ := HRK.out j hlt
            rw [hAg] at qc
            have e1 : decide ((j : Int) < (N : Int)) = true := decide_eq_true (by omega)
            have e1n : decide (j < N) = true := decide_eq_true hlt
            have HGG := Lib.hid hrog
            have m1 : (0 : Int) ≤ (j : Int) := by omega
            have m2 : (j : Int) < (N : Int) := by omega
            clear hrog hy hAg
            go_wp2_with fail
            go_roundw
            case rel => exact ⟨j + 1, by omega, by go_num, Lib.hid (HRK.out.set (x := 102) (by omega)), Lib.hid (HRV.out.set (x := 102) (by omega)), Lib.hid (HC.out.trans (Chg.setCell _ _ _ (HLKS.out gg HGG.out)))⟩
            case measure => simp [intOf]; omega
          · have e1 : decide ((j : Int) < (N : Int)) = false := decide_eq_false (by omega)
            have e1n : decide (j < N) = false := decide_eq_false hlt
            clear hlt hj HRK
            go_wp2_with fail
            go_loopw [12] (fun x wz => ∃ j : Nat, j ≤ M ∧ x = .int .i64 (j : Int) ∧ Hid (Spent wz so g.vA M) ∧ Hid (Chg S w5 wz)) (fun x _ => M - (intOf x).toNat)
            case atStart => exact ⟨0, Nat.zero_le _, rfl, HRV, HC⟩
            case round =>
              clear HRV HC e1 e1n qc
              obtain ⟨j, hj, rfl, HRV, HC⟩ := hrel
              have qc := (HPB.out _ HC.out).2
              by_cases hlt : j < M
              · obtain ⟨gg, hrog, hAg, ⟨y, hy, hcell⟩, hfz⟩ := HRV.out j hlt
                rw [hAg] at qc
                have e1 : decide ((j : Int) < (M : Int)) = true := decide_eq_true (by omega)
                have e1n : decide (j < M) = true := decide_eq_true hlt
                have HGG := Lib.hid hrog
                have m1 : (0 : Int) ≤ (j : Int) := by omega
                have m2 : (j : Int) < (M : Int) := by omega
                clear hrog hy hAg
                go_wp2_with fail
                go_roundw
                case rel => exact ⟨j + 1, by omega, by go_num, Lib.hid (HRV.out.set (x := 102) (by omega)), Lib.hid (HC.out.trans (Chg.setCell _ _ _ (HLVS.out gg HGG.out)))⟩
                case measure => simp [intOf]; omega
              · have e1 : decide ((j : Int) < (M : Int)) = false := decide_eq_false (by omega)
                have e1n : decide (j < M) = false := decide_eq_false hlt
                have HN := Lib.hid (HNX.out _ HC.out)
                clear hlt hj HRV HNX
                go_wp2_with fail
                go_roundw
                case rel => exact ⟨k + 1, by omega, by go_num, _, T', R', X', d', rfl, HN⟩
                case measure => have := HLT.out; simp [intOf]; omega
      case obl =>
        refine ⟨fun u hu hd => ?_, ?_⟩
        · go_simp
          exact ⟨Ext.refl _, rfl⟩
        refine ⟨fun u hu hd => ?_, ?_⟩
        · simp only [Act.put, List.setIfInBounds_toArray, List.set_cons_zero, List.set_cons_succ]
          have e0 : f1 0 = .int .i64 cc := hd 0 (by kernel_rfl)
          go_simp
          refine (snum cc u).mono ?_
          rintro x9 w9 ⟨rfl, rfl⟩
          exact ⟨_, rfl, Ext.refl _, rfl⟩
        refine ⟨fun u hu hd => ?_, ?_⟩
        · simp only [Act.put, List.setIfInBounds_toArray, List.set_cons_zero, List.set_cons_succ]
          go_simp
          exact ⟨Ext.refl _, rfl⟩
        refine ⟨fun u hu hd => ?_, ?_⟩
        · simp only [Act.put, List.setIfInBounds_toArray, List.set_cons_zero, List.set_cons_succ]
          have e1 : f1 1 = .int .i64 cc := hd 1 (by kernel_rfl)
          have e2 : f1 2 = .int .i64 cc := hd 2 (by kernel_rfl)
          have q1 : (cc != cc) = false := by simp
          go_simp
          exact ⟨Ext.refl _, rfl⟩
        refine ⟨fun u hu hd => ?_, ?_⟩
        · simp only [Act.put, List.setIfInBounds_toArray, List.set_cons_zero, List.set_cons_succ]
          have e3 : f1 3 = .bool false := hd 3 (by kernel_rfl)
          go_simp
          exact ⟨Ext.refl _, rfl⟩
        refine ⟨fun u hu hd => ?_, ?_⟩
        · simp only [Act.put, List.setIfInBounds_toArray, List.set_cons_zero, List.set_cons_succ]
          have e4 : f1 4 = .bool false := hd 4 (by kernel_rfl)
          have hu2 := Ext.trans (Ext.drew w4) hu
          have q0 := ext_cell hu2 b0
          have q1 := ext_cell hu2 b1
          have q2 := ext_cell hu2 b2
          have q3 := ext_cell hu2 b3
          go_simp
          exact ⟨Ext.refl _, rfl⟩
        refine ⟨fun u hu hd => ?_, ?_⟩
        · simp only [Act.put, List.setIfInBounds_toArray, List.set_cons_zero, List.set_cons_succ]
          have e4 : f1 4 = .bool false := hd 4 (by kernel_rfl)
          go_simp
          exact ⟨Ext.refl _, rfl⟩
        refine ⟨fun u hu hd => ?_, ?_⟩
        · simp only [Act.put, List.setIfInBounds_toArray, List.set_cons_zero, List.set_cons_succ]
          have e4 : f1 4 = .bool false := hd 4 (by kernel_rfl)
          go_simp
          exact ⟨Ext.refl _, rfl⟩
        refine ⟨fun u hu hd => ?_, ?_⟩
        · simp only [Act.put, List.setIfInBounds_toArray, List.set_cons_zero, List.set_cons_succ]
          have e4 : f1 4 = .bool false := hd 4 (by kernel_rfl)
          have e6 : f1 6 = .slice (some ⟨b, o, none⟩) L.length c := hd 6 (by kernel_rfl)
          have e7 : f1 7 = .int .i64 (k : Int) := hd 7 (by kernel_rfl)
          go_simp
          exact ⟨Ext.refl _, rfl⟩
        refine ⟨fun u hu hd => ?_, ?_⟩
        · simp only [Act.put, List.setIfInBounds_toArray, List.set_cons_zero, List.set_cons_succ]
          have e4 : f1 4 = .bool false := hd 4 (by kernel_rfl)
          have e8 : f1 8 = .pointer (some ⟨b, o + k * 4, none⟩) := hd 8 (by kernel_rfl)
          have hu2 := Ext.trans (Ext.drew w4) hu
          have q0 := ext_cell hu2 c0
          have q1 := ext_cell hu2 c1
          have q2 := ext_cell hu2 c2
          have q3 := ext_cell hu2 c3
          go_simp
          exact ⟨Ext.refl _, rfl⟩
        refine ⟨fun u hu hd => ?_, ?_⟩
        · simp only [Act.put, List.setIfInBounds_toArray, List.set_cons_zero, List.set_cons_succ]
          have e4 : f1 4 = .bool false := hd 4 (by kernel_rfl)
          have e5 : f1 5 = .agg #[.slice g.kA p.1.key.length g.kc, .int .i64 p.1.seq, .int .i64 p.1.kind, .slice g.vA p.1.val.length g.vc] := hd 5 (by kernel_rfl)
          have e9 : f1 9 = .agg #[.slice p.2.kA p.1.key.length p.2.kc, .int .i64 p.1.seq, .int .i64 p.1.kind, .slice p.2.vA p.1.val.length p.2.vc] := hd 9 (by kernel_rfl)
          have hu2 := Ext.trans (Ext.drew w4) hu
          obtain ⟨m1, m2⟩ := HM4.out u hu2
          obtain ⟨m3, m4⟩ := HEM.out u (Below.trans HW4.out (hu2.mono HW4.out.size))
          go_simp
          refine (rsame_any m1 m3 m2 m4).mono ?_
          rintro x9 w9 ⟨z9, hz9, rfl, hx9⟩
          obtain rfl := hz9.2 rfl
          exact ⟨_, rfl, hx9, rfl⟩
        refine ⟨fun u hu hd => ?_, ?_⟩
        · simp only [Act.put, List.setIfInBounds_toArray, List.set_cons_zero, List.set_cons_succ]
          have e4 : f1 4 = .bool false := hd 4 (by kernel_rfl)
          have e10 : f1 10 = .bool true := hd 10 (by kernel_rfl)
          go_simp
          exact ⟨Ext.refl _, rfl⟩
        refine ⟨fun u hu hd => ?_, ?_⟩
        · simp only [Act.put, List.setIfInBounds_toArray, List.set_cons_zero, List.set_cons_succ]
          have e4 : f1 4 = .bool false := hd 4 (by kernel_rfl)
          have e11 : f1 11 = .bool false := hd 11 (by kernel_rfl)
          go_simp
          exact ⟨Ext.refl _, rfl⟩
        trivial
    · have d1 : decide ((k : Int) < (L.length : Int)) = false := decide_eq_false (by omega)
      have d1n : decide (k < L.length) = false := decide_eq_false hlt
      have HKE : Hid (L.take k = L) := List.take_of_length_le (by omega)
      clear hlt hk
      go_wp2_with fail
      go_ret3
      exact ⟨lb, hb, T, R, X, d, rfl, HI.out.sk.wide (fun q _ hd => (HI.out.dom q hd).1), HI.out.same, (by rw [HI.out.fill, HKE.out]), HI.out.got, HI.out.ext⟩
end Go.Proofs.YtpfaoiickmpmjaaDoor

/- The reference's Bytes. -/
namespace Go.Proofs.YtpfaoiickmpmjaaDoor
open Go.ChangeShapes Go.WideShapes Go.ChangeAt Go.RowKit

theorem bytesE_snoc (l : List Ent) (x : Ent) : bytesE (l ++ [x]) = bytesE l + x.form.length := by simp [bytesE]
set_option maxRecDepth 100000 in
set_option maxHeartbeats 4000000 in
theorem rsum_any {w : World} {lo hi : Nat} {A : Option Addr} {c : Nat} {R : List (Ent × Hd)} (h : Es w lo hi A R) (hhi : hi ≤ w.heap.size) (hlen : R.length ≤ 1000000) (hmay : ∀ e ∈ R.map Prod.fst, e.may = true) :
    Calls Tryd.prog 17 #[.slice A R.length c] w fun e w' => e = .returned (.int .i64 (bytesE (R.map Prod.fst) : Int)) ∧ Ext w w' := by
  have HE := Lib.hid h
  have HHI := Lib.hid hhi
  have HM := Lib.hid hmay
  have hlI : (R.length : Int) ≤ 1000000 := by omega
  clear h hhi hmay
  go_enter Tryd.func17, Tryd.ntmps17
  go_wp2_with fail
  go_loopw [3, 4] (fun n i wr => ∃ k t : Nat, k ≤ R.length ∧ i = .int .i64 (k : Int) ∧ n = .int .i64 (t : Int) ∧ Hid (t = bytesE ((R.take k).map Prod.fst)) ∧ t ≤ k * 65700 ∧ Hid (Ext w wr)) (fun _ i _ => R.length - (intOf i).toNat)
  case atStart => exact ⟨0, 0, Nat.zero_le _, rfl, rfl, Lib.hid rfl, by omega, Lib.hid (Ext.refl _)⟩
  case round =>
    obtain ⟨k, t, hk, rfl, rfl, HT, ht, HX⟩ := hrel
    by_cases hlt : k < R.length
    · have d : decide ((k : Int) < (R.length : Int)) = true := decide_eq_true (by omega)
      have dn : decide (k < R.length) = true := decide_eq_true hlt
      obtain ⟨b, o, hA⟩ := HE.out.base (by omega)
      subst hA
      obtain ⟨p, hp⟩ : ∃ p, R[k]? = some p := ⟨_, List.getElem?_eq_getElem hlt⟩
      obtain ⟨c0, c1, c2, c3⟩ := (HE.out.below HX.out HHI.out).get hp
      have HP := Lib.hid hp
      have n1 : (0 : Int) ≤ (k : Int) := by omega
      have n2 : (k : Int) < (R.length : Int) := by omega
      have HLT := Lib.hid hlt
      have hpm := HM.out p.1 (List.mem_map_of_mem (List.mem_of_getElem? hp))
      have HPL := Lib.hid (Ent.form_len hpm)
      have HRF := Lib.hid (rform_any ((HE.out.below HX.out HHI.out).each p (List.mem_of_getElem? hp)) (Nat.le_trans HHI.out HX.out.size) hpm)
      unfold Ent.at_ at HRF
      have HKB : Hid (k ≤ 1000000) := by unfold Hid; omega
      have HTB := Lib.hid ht
      clear hp hlt hpm ht hlen
      go_wp2_with fail
      refine HRF.out.mono ?_
      rintro x w1 ⟨A1, a1, rfl, _, hx1⟩
      obtain ⟨f, hf⟩ : ∃ f, f = p.1.form.length := ⟨_, rfl⟩
      have HFL := Lib.hid hf
      have HX1 : Hid (Ext w w1) := Ext.trans HX.out hx1
      have HFB : Hid (f ≤ 65700) := by have := HPL.out; unfold Hid; omega
      rw [← hf]
      clear hf hx1 HRF c0 c1 c2 c3
      have hb1 := HFB.out
      have hb2 := HTB.out
      have hb3 := HKB.out
      have n3 : (0 : Int) ≤ (t : Int) + (f : Int) := by omega
      have n4 : (t : Int) + (f : Int) ≤ 9223372036854775807 := by omega
      clear hb1 hb2 hb3
      go_wp2_with fail
      go_roundw
      case rel =>
        refine ⟨k + 1, t + f, by have := HLT.out; omega, by go_num, by go_num, ?_, ?_, HX1⟩
        · unfold Hid
          rw [List.take_add_one, HP.out, List.map_append]
          show t + f = bytesE ((R.take k).map Prod.fst ++ [p.1])
          rw [bytesE_snoc, ← HT.out, HFL.out]
        · have := HFB.out; have := HTB.out; omega
      case measure => have := HLT.out; simp [intOf]; omega
    · have d : decide ((k : Int) < (R.length : Int)) = false := decide_eq_false (by omega)
      have dn : decide (k < R.length) = false := decide_eq_false hlt
      have HK : Hid (R.take k = R) := List.take_of_length_le (by omega)
      clear hlt hk ht hlen
      go_wp2_with fail
      go_ret
      exact ⟨by rw [HT.out, HK.out]; rfl, HX.out⟩
end Go.Proofs.YtpfaoiickmpmjaaDoor

/- What is gone over from no key on: all. -/
namespace Go.Proofs.YtpfaoiickmpmjaaDoor
open Go.ChangeShapes Go.WideShapes Go.ChangeAt Go.RowKit Go.Shelf

theorem cmpK_none (x : List Nat) : ¬ cmpK x [] < 0 := by cases x <;> simp [cmpK]
theorem all_from {w : World} {D : Nat → Prop} {lb hb : Nat} {T : List Tw} (h : Sk w D lb hb T) : (rowOf T (belowK []) 0).map Tw.e = T.map Tw.e := by
  rw [rowOf_map h, cut_is (k := 0) (Nat.zero_le _) (fun j e hj => by omega) (fun e _ => by
    unfold belowK; exact decide_eq_false (cmpK_none _))]
  rfl
end Go.Proofs.YtpfaoiickmpmjaaDoor

/- Entries that came in. -/
namespace Go.Proofs.YtpfaoiickmpmjaaDoor
open Go.ChangeShapes Go.WideShapes Go.ChangeAt Go.RowKit Go.Joins

theorem reach_is : reachBytes = 140737488351232 := by decide
section
variable {H : Type} {enc : TypeId × Value → H} {W : World}

set_option maxRecDepth 100000 in
/-- A field that is a slice of bytes. -/
theorem cell_bytes {fuel : Nat} {cs : List Value} {y : DataW H × List MemPlace} (h : DataW.trod enc Tryd.prog W 0 (fun _ => true) true fuel 22 cs = some y) :
    ∃ (A : Option Addr) (c : Nat) (l : List Nat), cs = [.slice A l.length c] ∧ (∀ b ∈ l, b < 256) ∧ Bs W 0 W.heap.size (.slice A l.length c) l ∧ ((∀ n ∈ y.1.weights Tryd.prog 22, n ≤ reachBytes) → l.length ≤ reachBytes) := by
  rcases open_ints Tryd.underlying22 Tryd.underlying5 (by kernel_rfl) h with ⟨hcs, _⟩ | ⟨x, l, c, zs, hcs, _, hl', hm', hz, hdx, hcell, hwz⟩
  · exact ⟨none, 0, [], hcs, by simp, Bs.nil _ _ _, fun _ => by simp⟩
  · obtain ⟨l', q1, q2, q3⟩ := bs_cells hl' hm' (by simpa using hz) hcell hwz
    refine ⟨some x, c, l', by rw [q1]; exact hcs, q2, by rw [q1]; exact q3, fun hw => ?_⟩
    have hb1 : Tryd.prog.bytesOf 5 = 1 := by kernel_rfl
    have h4 := hw (((zs.take l).length + (zs.drop l).length) * Tryd.prog.bytesOf 5) (by rw [hdx]; simp [DataW.weights, Tryd.underlying22, lits])
    rw [hb1, List.length_take, List.length_drop] at h4
    simp at hz
    omega

set_option maxRecDepth 100000 in
/-- The cells of an entry. -/
theorem cells_entry {fuel : Nat} {cs : List Value} {y : DataW H × List MemPlace} (h : DataW.trod enc Tryd.prog W 0 (fun _ => true) true fuel 40 cs = some y) :
    ∃ (e : Ent) (g : Hd), cs = ecells (e, g) ∧ Em W 0 W.heap.size e g ∧ ((∀ n ∈ y.1.weights Tryd.prog 40, n ≤ reachBytes) → e.key.length ≤ reachBytes ∧ e.val.length ≤ reachBytes) := by
  obtain ⟨y0, y1, y2, y3, n, hx, hl, h0, h1, h2, h3⟩ := trod_struct4 Tryd.underlying40 h
  have hC : Tryd.prog.cellsOf 40 = 4 := by kernel_rfl
  have hC0 : Tryd.prog.cellsOf 22 = 1 := by kernel_rfl
  have hC1 : Tryd.prog.cellsOf 2 = 1 := by kernel_rfl
  have hC2 : Tryd.prog.cellsOf 38 = 1 := by kernel_rfl
  rw [hC] at hl
  obtain ⟨a, b, c, d, rfl⟩ : ∃ a b c d, cs = [a, b, c, d] := by
    match cs, hl with
    | [a, b, c, d], _ => exact ⟨a, b, c, d, rfl⟩
  simp only [hC0, hC1, hC2, List.drop_zero, List.take_succ_cons, List.take_zero, List.drop_succ_cons] at h0 h1 h2 h3
  obtain ⟨A, c0, k, e0, bk, hk, wk⟩ := cell_bytes h0
  obtain ⟨s, e1, _, ws⟩ := DataW.trod_int Tryd.underlying2 h1
  obtain ⟨t, e2, _, wt⟩ := DataW.trod_int Tryd.underlying38 h2
  obtain ⟨A3, c3, v, e3, bv', hv, wv⟩ := cell_bytes h3
  injection e0 with e0
  injection e1 with e1
  injection e2 with e2
  injection e3 with e3
  subst e0 e1 e2 e3
  have hws := i64_wf ws
  have hwt := i64_wf wt
  refine ⟨⟨k, s, t, v⟩, ⟨A, c0, A3, c3⟩, rfl, ⟨hk, hv, bk, bv', hws.1, hws.2, hwt.1, hwt.2⟩, fun hw => ?_⟩
  have hwe : ∀ n ∈ DataW.weightsEach Tryd.prog [22, 2, 38, 22] [y0.1, y1.1, y2.1, y3.1], n ≤ reachBytes := fun n hn => hw n (by
    rw [hx]
    simp only [DataW.weights, Tryd.underlying40]
    exact hn)
  exact ⟨wk fun n hn => hwe n (DataW.weights_mem_each (j := 0) rfl rfl n hn), wv fun n hn => hwe n (DataW.weights_mem_each (j := 3) rfl rfl n hn)⟩

set_option maxRecDepth 100000 in
/-- An entry that came in, by value. -/
theorem open_entry {v : Value} {d : DataW H} {p : List MemPlace} {b0 : Nat} (hv : Value.okWide Tryd.prog W .any b0 40 v) (h : DataW.Trod enc Tryd.prog W 0 (fun _ => true) true 40 v d p)
    {ts : List TypeId} {ds : List (DataW H)} (hsz : (DataW.weightsEach Tryd.prog ts ds).all (· ≤ reachBytes) = true) {jj : Nat} (hts : ts[jj]? = some 40) (hds : ds[jj]? = some d) :
    ∃ (e : Ent) (g : Hd), v = e.at_ g ∧ Em W 0 W.heap.size e g ∧ e.key.length ≤ 140737488351232 ∧ e.val.length ≤ 140737488351232 := by
  obtain ⟨cs, rfl, hs⟩ := okWide_struct Tryd.underlying40 hv
  obtain ⟨fuel, hf⟩ := h
  obtain ⟨e, g, hc, hm, hw⟩ := cells_entry hf
  have hw2 := hw fun n hn => of_decide_eq_true (List.all_eq_true.1 hsz _ (DataW.weights_mem_each hts hds n hn))
  rw [reach_is] at hw2
  refine ⟨e, g, ?_, hm, hw2⟩
  have hcs : cs.toList = ecells (e, g) := by simpa [Value.cells] using hc
  unfold Ent.at_
  rw [show cs = (ecells (e, g)).toArray by rw [← hcs]]
  rfl

theorem weightsAll_at {P : Program} {e : TypeId} : ∀ {l : List (DataW H)} {d : DataW H}, d ∈ l → ∀ n ∈ d.weights P e, n ∈ DataW.weightsAll P e l
  | d' :: r, d, hd, n, hn => by
    simp only [DataW.weightsAll, List.mem_append]
    rcases List.mem_cons.1 hd with rfl | h
    · exact Or.inl hn
    · exact Or.inr (weightsAll_at h n hn)
set_option maxRecDepth 100000 in
/-- Entries that came in, in a row. -/
theorem open_entries {v : Value} {d : DataW H} {p : List MemPlace} {b0 : Nat} (hv : Value.okWide Tryd.prog W .any b0 26 v) (h : DataW.Trod enc Tryd.prog W 0 (fun _ => true) true 26 v d p)
    {ts : List TypeId} {ds : List (DataW H)} (hsz : (DataW.weightsEach Tryd.prog ts ds).all (· ≤ reachBytes) = true) {jj : Nat} (hts : ts[jj]? = some 26) (hds : ds[jj]? = some d) :
    ∃ (A : Option Addr) (c : Nat) (L : List (Ent × Hd)), v = .slice A L.length c ∧ L.length ≤ c ∧ c ≤ maxLen ∧ Es W 0 W.heap.size A L ∧ (∀ p ∈ L, p.1.key.length ≤ 140737488351232 ∧ p.1.val.length ≤ 140737488351232) ∧ L.length ≤ 2199023255552 := by
  obtain ⟨a0, len0, cap0, rfl⟩ := okWide_slice Tryd.underlying26 hv
  obtain ⟨fuel, hf⟩ := h
  have hC : Tryd.prog.cellsOf 40 = 4 := by kernel_rfl
  rcases Go.Deep.open_slice Tryd.underlying26 hf with ⟨hcs, _⟩ | ⟨a, len, cap, m, n, D, Pl, hcs, _, hl, hm, hmm, hdd, hx⟩
  · simp [Value.cells] at hcs
    obtain ⟨rfl, rfl, rfl⟩ := hcs
    exact ⟨none, 0, [], rfl, by simp, by simp [maxLen], ⟨Sl.nil _ _ _ _, by simp⟩, by simp, by simp⟩
  · simp [Value.cells] at hcs
    obtain ⟨rfl, rfl, rfl⟩ := hcs
    have hmc : m = cap0 := by rw [hmm]; simp
    have hdd1 : d = .slice ((List.range len0).map D) ((List.range (m - len0)).map fun j => D (len0 + j)) := congrArg Prod.fst hdd
    have hwt : ∀ i, i < len0 → ∀ n ∈ (D i).weights Tryd.prog 40, n ≤ reachBytes := fun i hi n hn => by
      refine of_decide_eq_true (List.all_eq_true.1 hsz _ (DataW.weights_mem_each hts hds n ?_))
      rw [hdd1]
      simp only [DataW.weights, Tryd.underlying26, List.mem_cons, List.mem_append]
      exact Or.inr (Or.inl (weightsAll_at (List.mem_map.2 ⟨i, List.mem_range.2 hi, rfl⟩) n hn))
    have hlen : len0 ≤ 2199023255552 := by
      have h3 := sized_slice hsz hts (by rw [hds, hdd1]) Tryd.underlying26
      have hb1 : Tryd.prog.bytesOf 40 = 64 := by kernel_rfl
      rw [hb1, reach_is] at h3
      simp at h3
      omega
    have each : ∀ i : Nat, ∃ t : Ent × Hd, i < len0 → (∀ j v, j < 4 → (ecells t)[j]? = some v → W.cell? ((a.add (i * 4)).add j) = some v) ∧ Em W 0 W.heap.size t.1 t.2 ∧ t.1.key.length ≤ 140737488351232 ∧ t.1.val.length ≤ 140737488351232 := by
      intro i
      by_cases hi : i < len0
      · obtain ⟨cs', hc', ht'⟩ := hx i (by omega)
        rw [hC] at hc'
        obtain ⟨_, hcl, hat⟩ := World.cells?_some hc'
        obtain ⟨e, g, hcc, hem, hw⟩ := cells_entry ht'
        have hw2 := hw (hwt i hi)
        rw [reach_is] at hw2
        exact ⟨(e, g), fun _ => ⟨fun j v hj hv => by rw [hat j hj, hcc]; exact hv, hem, hw2⟩⟩
      · exact ⟨(⟨[], 0, 0, []⟩, ⟨none, 0, none, 0⟩), fun h => absurd h hi⟩
    obtain ⟨F, hF⟩ := Classical.axiomOfChoice each
    have hat : ∀ i u, (erow ((List.range len0).map F))[i]? = some u → W.cell? (a.add i) = some u := by
      intro i u hu
      have hi : i < len0 * 4 := by
        have := (List.getElem?_eq_some_iff.1 hu).1
        rw [erow_length] at this
        simpa using this
      have hi4 : i / 4 < len0 := by omega
      have e1 : i = i / 4 * 4 + i % 4 := by omega
      rw [e1, erow_at _ (by simpa using hi4) (by omega)] at hu
      have h1 := (hF (i / 4) hi4).1 (i % 4) u (by omega) (by simpa using hu)
      have e2 : (a.add (i / 4 * 4)).add (i % 4) = a.add i := by
        obtain ⟨b, o, s⟩ := a
        have hc0 := (hF 0 (by omega)).1 0 _ (by omega) rfl
        have hs : s = none := by
          have := World.cell?_spot hc0
          simpa [Addr.add] using this
        subst hs
        rw [addr_add, addr_add, addr_add]
        congr 1; omega
      rw [← e2]; exact h1
    refine ⟨some a, cap0, (List.range len0).map F, by simp, by simpa using hl, hm, ⟨?_, ?_⟩, ?_, by simpa using hlen⟩
    · by_cases h0 : len0 = 0
      · exact .inl (by simp [h0, erow])
      · obtain ⟨b, o, spot⟩ := a
        have hc0 := (hF 0 (by omega)).1 0 _ (by omega) rfl
        have hspot : spot = none := by
          have := World.cell?_spot hc0
          simpa [Addr.add] using this
        subst hspot
        have hblt : b < W.heap.size := by
          have := World.block_lt_of_cell? W _ hc0
          rw [addr_add, addr_add] at this
          exact this
        exact .inr ⟨b, o, rfl, Nat.zero_le _, hblt, fun i u hu => by have := hat i u hu; rwa [addr_add] at this⟩
    · intro q hq
      simp only [List.mem_map, List.mem_range] at hq
      obtain ⟨i, hi, rfl⟩ := hq
      exact (hF i hi).2.1
    · intro q hq
      simp only [List.mem_map, List.mem_range] at hq
      obtain ⟨i, hi, rfl⟩ := hq
      exact (hF i hi).2.2
end
end Go.Proofs.YtpfaoiickmpmjaaDoor
