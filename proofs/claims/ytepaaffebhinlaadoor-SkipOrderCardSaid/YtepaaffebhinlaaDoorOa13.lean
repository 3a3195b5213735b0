/- Sfill Srlev, joined. -/
import Derived.Test.YtepaaffebhinlaaDoorOa10
import Derived.Test.YtepaaffebhinlaaDoorOa11
import Derived.Test.YtepaaffebhinlaaDoorOa12

/- fill: entries put one behind the other, and the document's list. -/
namespace Go.Proofs.YtepaaffebhinlaaDoor
open Go.ChangeShapes Go.WideShapes Go.ChangeAt Go.RowKit

/-- What the document's list is behind entries that are put one behind the other. -/
def fillE (l : List Ent) : List Ent := l.foldl (fun r x => (putE r x).1) []
theorem fillE_snoc (l : List Ent) (x : Ent) : fillE (l ++ [x]) = (putE (fillE l) x).1 := by unfold fillE; rw [List.foldl_append]; rfl
theorem fillE_next {L : List (Ent × Hd)} {k : Nat} {p : Ent × Hd} (h : L[k]? = some p) : fillE ((L.take (k + 1)).map Prod.fst) = (putE (fillE ((L.take k).map Prod.fst)) p.1).1 := by
  rw [List.take_add_one, h, List.map_append]; exact fillE_snoc _ _
/-- An ascending list of entries that may be. -/
structure AscM (l : List Ent) : Prop where
  asc : Asc l
  may : ∀ e ∈ l, e.may = true
theorem AscM.put {l : List Ent} (h : AscM l) (x : Ent) : AscM (putE l x).1 := ⟨h.asc.put x, fun e he => by
  rcases putE_mem he with h1 | ⟨rfl, h1⟩
  · exact h.may e h1
  · exact h1⟩
theorem fill_inv : ∀ (l : List Ent) (r : List Ent), AscM r → AscM (l.foldl (fun r x => (putE r x).1) r) ∧ (l.foldl (fun r x => (putE r x).1) r).length ≤ r.length + l.length
  | [], r, h => ⟨h, Nat.le_refl _⟩
  | x :: l, r, h => by
    have h1 := fill_inv l (putE r x).1 (h.put x)
    have h2 := putE_len r x
    exact ⟨h1.1, by have := h1.2; simp only [List.foldl_cons, List.length_cons]; omega⟩
theorem fillE_asc (l : List Ent) : AscM (fillE l) := (fill_inv l [] ⟨by simp [Asc], fun e he => by cases he⟩).1
theorem fillE_len (l : List Ent) : (fillE l).length ≤ l.length := by simpa [fillE] using (fill_inv l [] ⟨by simp [Asc], fun e he => by cases he⟩).2
/-- A row whose bytes nobody asks for any more: it may be written over. -/
def Spent (w : World) (ro : Option Nat) (A : Option Addr) (n : Nat) : Prop := ∀ j, j < n → ∃ g, ro = some g ∧ A = some ⟨g, 0, none⟩ ∧ (∃ x : Nat, x < 256 ∧ w.cell? ⟨g, j, none⟩ = some (.int .u8 (x : Int))) ∧ w.frozen? ⟨g, j, none⟩ = false
theorem Spent.of_own {w : World} {B : Nat} {A : Option Addr} {n c : Nat} {l : List Nat} (h : w.ownsRow B 5 1 (.slice A n c) l.length (bv l)) (hl : ∀ b ∈ l, b < 256) : n = l.length ∧ Spent w (Value.slice A n c).ownBlock A n := by
  rcases h.2 with ⟨h', h0⟩ | ⟨g, cap, cur, h', _⟩
  · injection h' with e1 e2 e3
    exact ⟨by omega, fun j hj => by omega⟩
  · injection h' with e1 e2 e3
    subst e1 e2 e3
    refine ⟨rfl, fun j hj => ⟨g, rfl, rfl, ⟨l[j], hl _ (List.getElem_mem hj), ?_⟩, h.frozenAt j⟩⟩
    rw [h.cellAt j (by omega)]
    simp [bv, List.getElem?_eq_getElem hj]
theorem Spent.set {w : World} {ro : Option Nat} {A : Option Addr} {n g j x : Nat} (h : Spent w ro A n) (hx : x < 256) : Spent (w.setCell ⟨g, j, none⟩ (.int .u8 (x : Int))) ro A n := by
  intro i hi
  obtain ⟨g', e1, e2, ⟨y, hy, hc⟩, hf⟩ := h i hi
  refine ⟨g', e1, e2, ?_, by simpa using hf⟩
  by_cases he : (⟨g, j, none⟩ : Addr) = ⟨g', i, none⟩
  · injection he with q1 q2
    subst q1 q2
    exact ⟨x, hx, World.cell?_setCell_same _ _ _ hc⟩
  · exact ⟨y, hy, by rw [World.cell?_setCell_other _ _ _ _ he]; exact hc⟩
theorem Got.sks {B : Nat} {v : Value} {R : List (Ent × Hd)} {w w' : World} {D : Nat → Prop} (h : Got B v R w) (hc : Chg (Sks D w) w w') : Got B v R w' := by
  refine h.keepS hc fun b hb hs => ?_
  rcases hb with hb | ⟨p, hp, hb | hb⟩
  · obtain ⟨_, _, cur, hh⟩ := rowN_lt h.row b hb
    obtain ⟨c, fz, hs | hs⟩ := hs.2 <;> · rw [hh] at hs; injection hs with hs; injection hs with _ h2 _; exact absurd h2 (by decide)
  · exact (h.each p hp).k.skb hb hs.2
  · exact (h.each p hp).v.skb hb hs.2
/-- What fill answers: a list of its own, and the document's, of entries of its own. -/
def FillAns (w : World) (L : List Ent) (e : Ending) (w' : World) : Prop :=
  ∃ (lb hb : Nat) (T : List Tw) (R : List (Ent × Hd)) (A : Option Addr) (c : Nat), e = .returned (.tuple #[.pointer (some ⟨lb, 0, none⟩), .slice A R.length c, .bool true]) ∧ Sk w' (fun k => w.heap.size ≤ k) lb hb T ∧ T.map Tw.e = R.map Prod.fst ∧ R.map Prod.fst = fillE L ∧ Got w.heap.size (.slice A R.length c) R w' ∧ Ext w w'
/-- Between two rounds. -/
structure FillI (w : World) (lb hb : Nat) (L : List Ent) (D : Nat → Prop) (T : List Tw) (R : List (Ent × Hd)) (A : Option Addr) (c : Nat) (wr : World) : Prop where
  sk : Sk wr D lb hb T
  dom : ∀ k, D k → w.heap.size ≤ k ∧ k < wr.heap.size
  same : T.map Tw.e = R.map Prod.fst
  fill : R.map Prod.fst = fillE L
  asc : AscM (R.map Prod.fst)
  few : R.length ≤ L.length
  got : Got w.heap.size (.slice A R.length c) R wr
  ext : Ext w wr

set_option maxRecDepth 100000 in
set_option maxHeartbeats 16000000 in
theorem fill_any {w : World} {hi : Nat} {A : Option Addr} {c : Nat} {L : List (Ent × Hd)} (h : Es w 0 hi A L) (hhi : hi ≤ w.heap.size) (hT : Tab w) (hfew : FewE L) :
    Calls Tryd.prog 7 #[.slice A L.length c] w (FillAns w (L.map Prod.fst)) := by
  have HE := Lib.hid h
  have HHI := Lib.hid hhi
  have HTB := Lib.hid hT
  have HF := Lib.hid hfew
  have hlI : (L.length : Int) ≤ 200 := by have := hfew.1; omega
  clear h hhi hT hfew
  go_enter Tryd.func7, Tryd.ntmps7
  go_wp2_with fail
  refine Calls.mono (new_any w) ?_
  rintro e w1 ⟨rfl, hs1, hx1⟩
  obtain ⟨lb, hlb⟩ : ∃ lb, lb = w.heap.size + 1 := ⟨_, rfl⟩
  obtain ⟨hb, hhb⟩ : ∃ hb, hb = w.heap.size := ⟨_, rfl⟩
  have HI0 : Hid (FillI w lb hb [] (fun k => w.heap.size ≤ k ∧ k < w1.heap.size) [] [] none 0 w1) := by
    rw [hlb, hhb]
    exact Lib.hid ⟨Sk.wide hs1 (fun k hk hd => ⟨hd, hk⟩), fun k h => h, rfl, rfl, ⟨by simp [Asc], fun e he => by cases he⟩, Nat.le_refl _, Got.nil _ _, hx1⟩
  rw [← hlb]
  clear hs1 hx1 hlb hhb
  go_wp2_with fail
  go_loopw [6, 7] (fun r i wr => ∃ k : Nat, k ≤ L.length ∧ i = .int .i64 (k : Int) ∧ ∃ (D : Nat → Prop) (T : List Tw) (R : List (Ent × Hd)) (X : Option Addr) (d : Nat), r = .slice X R.length d ∧ Hid (FillI w lb hb ((L.take k).map Prod.fst) D T R X d wr)) (fun _ i _ => L.length - (intOf i).toNat)
  case atStart => exact ⟨0, Nat.zero_le _, rfl, _, [], [], none, 0, rfl, HI0⟩
  case round =>
    clear HI0
    obtain ⟨k, hk, rfl, D, T, R, X, d, rfl, HI⟩ := hrel
    by_cases hlt : k < L.length
    · have d1 : decide ((k : Int) < (L.length : Int)) = true := decide_eq_true (by omega)
      have d1n : decide (k < L.length) = true := decide_eq_true hlt
      obtain ⟨b, o, hA⟩ := HE.out.base (by omega)
      subst hA
      obtain ⟨p, hp⟩ : ∃ p, L[k]? = some p := ⟨_, List.getElem?_eq_getElem hlt⟩
      obtain ⟨c0, c1, c2, c3⟩ := (HE.out.below HI.out.ext HHI.out).get hp
      have HP := Lib.hid hp
      have n1 : (0 : Int) ≤ (k : Int) := by omega
      have n2 : (k : Int) < (L.length : Int) := by omega
      have HLT := Lib.hid hlt
      have HEM : Hid (∀ u, Below w.heap.size w u → Em u 0 hi p.1 p.2 ∧ hi ≤ u.heap.size) := fun u hu => ⟨(HE.out.below hu HHI.out).each p (List.mem_of_getElem? HP.out), Nat.le_trans HHI.out hu.size⟩
      have HPL : Hid (p.1.key.length + p.1.val.length < 200000) := HF.out.2 p (List.mem_of_getElem? hp)
      have HRL : Hid (R.length ≤ 200 ∧ T.length = R.length) := by
        have h1 := HI.out.few
        have h2 := congrArg List.length HI.out.same
        simp only [List.length_map, List.length_take] at h1 h2
        exact Lib.hid ⟨by omega, h2⟩
      have HRC := Lib.hid (rcopy_any (HEM.out wr HI.out.ext).1 (HEM.out wr HI.out.ext).2 (by have := HPL.out; omega) (by have := HPL.out; omega))
      unfold Ent.at_ at HRC
      clear hp hlt
      go_wp2_with fail
      refine HRC.out.mono ?_
      rintro x w1 ⟨hx1, g, rfl, ho1, ho2⟩
      have HX1 : Hid (Ext wr w1) := hx1
      have HOK := Lib.hid ho1
      have HOV := Lib.hid ho2
      have HG : Hid (Good p.1) := (HEM.out wr HI.out.ext).1.good
      clear hx1 ho1 ho2 HRC c0 c1 c2 c3
      unfold Ent.at_
      obtain ⟨w2, hw2⟩ : ∃ w2, w2 = w1.alloc (.cells #[.slice g.kA p.1.key.length g.kc, .int .i64 p.1.seq, .int .i64 p.1.kind, .slice g.vA p.1.val.length g.vc] 28) := ⟨_, rfl⟩
      have HX2 : Hid (Ext w1 w2) := by rw [hw2]; exact ext_alloc _ _
      have HB2 : Hid (w2.heap[w1.heap.size]? = some (.cells #[.slice g.kA p.1.key.length g.kc, .int .i64 p.1.seq, .int .i64 p.1.kind, .slice g.vA p.1.val.length g.vc] 28 (0, 0))) := by rw [hw2]; exact heap_at _ _ rfl
      have HX12 : Hid (Ext wr w2) := Ext.trans HX1.out HX2.out
      have HS2 : Hid (wr.heap.size ≤ w1.heap.size ∧ w1.heap.size + 1 ≤ w2.heap.size ∧ w.heap.size ≤ wr.heap.size) := ⟨HX1.out.size, (Array.getElem?_eq_some_iff.1 HB2.out).1, HI.out.ext.size⟩
      have HM2 : Hid (Em w2 wr.heap.size w1.heap.size p.1 g) := by
        have m : Em w1 wr.heap.size w1.heap.size p.1 g := ⟨Bs.of_own HOK.out, Bs.of_own HOV.out, HG.out.bk, HG.out.bv, HG.out.s1, HG.out.s2, HG.out.d1, HG.out.d2⟩
        exact m.below HX2.out (Nat.le_refl _)
      have HTL := HTB.out.lt
      have HPUT := Lib.hid (sput_any (Sk.ext HI.out.sk HX12.out) HM2.out HX2.out.size (fun q hd => .inl (HI.out.dom q hd).2) ((HTB.out.ext HI.out.ext).ext HX12.out) (fun hd => by have := (HI.out.dom _ hd).1; omega) (by have := HRL.out; omega) (by have := HPL.out; omega) (by have := HPL.out; omega))
      unfold Ent.at_ at HPUT
      have b0 := cell_of HB2.out (k := 0) rfl
      have b1 := cell_of HB2.out (k := 1) rfl
      have b2 := cell_of HB2.out (k := 2) rfl
      have b3 := cell_of HB2.out (k := 3) rfl
      clear HTL
      go_upto_region 9 with (fail)
      rw [← hw2]
      clear hw2
      go_wp2_with fail
      refine HPUT.out.mono ?_
      rintro x w3 ⟨T', cc, hput, rfl, hs3, hc3⟩
      have HPE := Lib.hid hput
      have HS3 := Lib.hid hs3
      have HC3 := Lib.hid hc3
      clear hput hs3 hc3 HPUT b0 b1 b2 b3
      have HW3 : Hid (Below w.heap.size w w3) := Below.trans (Ext.trans HI.out.ext HX12.out) (HC3.out.below (fun q h => (HI.out.dom q h.1).1) (Ext.trans HI.out.ext HX12.out).size)
      have HG3 : Hid (Got w.heap.size (.slice X R.length d) R w3) := ((HI.out.got.below HX12.out).sks HC3.out)
      have HRP := Lib.hid (rput_any HG3.out (HEM.out w3 HW3.out).1 (HEM.out w3 HW3.out).2 HW3.out.size HI.out.asc.asc (fun q hq => HI.out.asc.may _ (List.mem_map_of_mem hq)) (by have := HRL.out; omega))
      unfold Ent.at_ at HRP
      obtain ⟨c0, c1, c2, c3⟩ := (HE.out.below HW3.out HHI.out).get HP.out
      go_wp2_with fail
      refine HRP.out.mono ?_
      rintro x w4 ⟨R', X', d', kk, hput2, rfl, hg4, hx4, hbk⟩
      obtain ⟨rfl, hTR⟩ : cc = kk ∧ T'.map Tw.e = R'.map Prod.fst := by
        have h1 := HPE.out
        rw [HI.out.same] at h1
        have := h1.symm.trans hput2; injection this with q1 q2; exact ⟨q2, q1⟩
      have HTR := Lib.hid hTR
      have HPE2 := Lib.hid hput2
      have HG4 := Lib.hid hg4
      have HX4 : Hid (Ext w3 w4) := hx4
      have HBK := Lib.hid hbk
      clear hput2 hg4 hx4 hbk hTR HRP c0 c1 c2 c3
      have HW4 : Hid (Below w.heap.size w w4) := Below.trans HW3.out (HX4.out.mono HW3.out.size)
      have HS4 : Hid (w2.heap.size ≤ w3.heap.size ∧ w3.heap.size ≤ w4.heap.size) := ⟨HC3.out.size, HX4.out.size⟩
      have HB4 : Hid (w4.heap[w1.heap.size]? = some (.cells #[.slice g.kA p.1.key.length g.kc, .int .i64 p.1.seq, .int .i64 p.1.kind, .slice g.vA p.1.val.length g.vc] 28 (0, 0))) := by
        have h1 := HC3.out.block w1.heap.size (by have := HS2.out; omega) (fun hs => by have h2 := (HI.out.dom _ hs.1).2; have h3 := HS2.out.1; omega)
        exact ext_heap HX4.out (h1.trans HB2.out)
      have HO4 : Hid (Own wr.heap.size p.1.key (.slice g.kA p.1.key.length g.kc) w4 ∧ Own wr.heap.size p.1.val (.slice g.vA p.1.val.length g.vc) w4) :=
        ⟨((HOK.out.below HX2.out).sks HC3.out).below HX4.out, ((HOV.out.below HX2.out).sks HC3.out).below HX4.out⟩
      have HLK : Hid (∀ q, (Value.slice g.kA p.1.key.length g.kc).ownBlock = some q → wr.heap.size ≤ q ∧ q < w1.heap.size) := fun q hq => row_lt HOK.out q hq
      have HLV : Hid (∀ q, (Value.slice g.vA p.1.val.length g.vc).ownBlock = some q → wr.heap.size ≤ q ∧ q < w1.heap.size) := fun q hq => row_lt HOV.out q hq
      have HM4 : Hid (∀ u, Ext w4 u → Em u 0 w4.heap.size p.1 g ∧ w4.heap.size ≤ u.heap.size) := fun u hu =>
        ⟨(⟨HO4.out.1.bs, HO4.out.2.bs, HG.out.bk, HG.out.bv, HG.out.s1, HG.out.s2, HG.out.d1, HG.out.d2⟩ : Em w4 0 w4.heap.size p.1 g).below hu (Nat.le_refl _), hu.size⟩
      obtain ⟨c0, c1, c2, c3⟩ := (HE.out.below HW4.out HHI.out).get HP.out
      have b0 := cell_of HB4.out (k := 0) rfl
      have b1 := cell_of HB4.out (k := 1) rfl
      have b2 := cell_of HB4.out (k := 2) rfl
      have b3 := cell_of HB4.out (k := 3) rfl
      go_upto_region 12 with (fail)
      refine flow (by kernel_rfl) [Is (.int .i64 cc), Is (.int .i64 cc), Is (.int .i64 cc), Is (.bool false), Is (.bool false), Is (.agg #[.slice g.kA p.1.key.length g.kc, .int .i64 p.1.seq, .int .i64 p.1.kind, .slice g.vA p.1.val.length g.vc]), Is (.slice (some ⟨b, o, none⟩) L.length c), Is (.int .i64 (k : Int)), Is (.pointer (some ⟨b, o + k * 4, none⟩)), Is (.agg #[.slice p.2.kA p.1.key.length p.2.kc, .int .i64 p.1.seq, .int .i64 p.1.kind, .slice p.2.vA p.1.val.length p.2.vc]), Is (.bool true), Is (.bool false), Is (.bool false)] (by kernel_rfl) (by kernel_rfl) ?mono (fun f1 => ?obl) ?fin
      case mono =>
        simp only [List.forall_mem_cons, List.not_mem_nil, false_imp_iff, implies_true, and_true]
        exact ⟨.is _, .is _, .is _, .is _, .is _, .is _, .is _, .is _, .is _, .is _, .is _, .is _, .is _⟩
      case fin =>
        intro g1 w5 hu hg
        simp only [puts, Act.put, List.setIfInBounds_toArray, List.set_cons_zero, List.set_cons_succ]
        have h12 : g1 12 = .bool false := hg 12 (by decide)
        rw [h12]
        have HX5 : Hid (Ext w4 w5) := Ext.trans (Ext.drew w4) hu
        clear h12 hg hu b0 b1 b2 b3 c0 c1 c2 c3
        obtain ⟨S, hS⟩ : ∃ S : Nat → Prop, S = fun i => wr.heap.size ≤ i ∧ i < w1.heap.size := ⟨_, rfl⟩
        have HS := Lib.hid (fun i => (congrFun hS i).to_iff)
        clear hS
        have HNX : Hid (∀ wz, Chg S w5 wz → FillI w lb hb ((L.take (k + 1)).map Prod.fst) (fun q => (D q ∨ w2.heap.size ≤ q) ∧ q < w3.heap.size) T' R' X' d' wz) := fun wz hz => by
          have hs2 := HS2.out
          have hs4 := HS4.out
          have hx45 := HX5.out.size
          have hzs := hz.size
          refine ⟨?_, fun q hq => ?_, HTR.out, ?_, ?_, ?_, ?_, ?_⟩
          · refine Sk.keep (((HS3.out.wide (D' := fun q => (D q ∨ w2.heap.size ≤ q) ∧ q < w3.heap.size) (fun q hq hd => ⟨hd, hq⟩)).ext HX4.out).ext HX5.out) hz fun q hq hd => ?_
            have h1 := (HS.out q).1 hq
            rcases hd.1 with hd | hd
            · have := (HI.out.dom q hd).2; omega
            · omega
          · refine ⟨?_, by omega⟩
            rcases hq.1 with hd | hd
            · exact (HI.out.dom q hd).1
            · omega
          · rw [fillE_next HP.out, ← HI.out.fill, HPE2.out]
          · have h1 := HI.out.asc.put p.1
            rwa [HPE2.out] at h1
          · have h1 := putE_len (R.map Prod.fst) p.1
            have h2 := HI.out.few
            have h3 := HLT.out
            rw [HPE2.out] at h1
            simp only [List.length_map, List.length_take] at h1 h2 ⊢
            omega
          · refine (HG4.out.below HX5.out).keepS hz fun q hq hd => ?_
            have h1 := (HS.out q).1 hd
            rcases HBK.out q hq with h2 | h2
            · have := (HI.out.got.blk h2).2; omega
            · omega
          · exact Below.trans HW4.out (Below.trans (HX5.out.mono HW4.out.size) (hz.below (fun q h => by have := (HS.out q).1 h; omega) (by omega)))
        have HPB : Hid (∀ wz, Chg S w5 wz → wz.cell? ⟨w1.heap.size, 0, none⟩ = some (.slice g.kA p.1.key.length g.kc) ∧ wz.cell? ⟨w1.heap.size, 3, none⟩ = some (.slice g.vA p.1.val.length g.vc)) := fun wz hz => by
          have hs2 := HS2.out
          have hs4 := HS4.out
          have hx45 := HX5.out.size
          have h1 := (hz.block w1.heap.size (by omega) (fun h => by have := (HS.out _).1 h; omega)).trans (ext_heap HX5.out HB4.out)
          exact ⟨cell_of h1 (k := 0) rfl, cell_of h1 (k := 3) rfl⟩
        have HRK : Hid (Spent w5 (Value.slice g.kA p.1.key.length g.kc).ownBlock g.kA p.1.key.length) := (Spent.of_own (HO4.out.1.below HX5.out) HG.out.bk).2
        have HRV : Hid (Spent w5 (Value.slice g.vA p.1.val.length g.vc).ownBlock g.vA p.1.val.length) := (Spent.of_own (HO4.out.2.below HX5.out) HG.out.bv).2
        have HLKS : Hid (∀ q, (Value.slice g.kA p.1.key.length g.kc).ownBlock = some q → S q) := fun q hq => (HS.out q).2 (HLK.out q hq)
        have HLVS : Hid (∀ q, (Value.slice g.vA p.1.val.length g.vc).ownBlock = some q → S q) := fun q hq => (HS.out q).2 (HLV.out q hq)
        obtain ⟨ro, hro⟩ : ∃ ro, ro = (Value.slice g.kA p.1.key.length g.kc).ownBlock := ⟨_, rfl⟩
        obtain ⟨so, hso⟩ : ∃ so, so = (Value.slice g.vA p.1.val.length g.vc).ownBlock := ⟨_, rfl⟩
        rw [← hro] at HRK HLKS
        rw [← hso] at HRV HLVS
        obtain ⟨N, hN⟩ : ∃ N, N = p.1.key.length := ⟨_, rfl⟩
        obtain ⟨M, hM⟩ : ∃ M, M = p.1.val.length := ⟨_, rfl⟩
        have hNM : N ≤ 200000 ∧ M ≤ 200000 := by have := HPL.out; omega
        rw [← hN] at HRK HPB
        rw [← hM] at HRV HPB
        clear hro hso hN hM HI HOK HOV HG HB2 HX12 HS2 HM2 HPE HS3 HC3 HW3 HG3 HTR HPE2 HG4 HX4 HBK HW4 HS4 HB4 HO4 HLK HLV HM4 HX5 HEM HPL HRL HE HS HX1 HX2
        go_wp2_with fail
        go_loopw [11] (fun x wz => ∃ j : Nat, j ≤ N ∧ x = .int .i64 (j : Int) ∧ Hid (Spent wz ro g.kA N) ∧ Hid (Spent wz so g.vA M) ∧ Hid (Chg S w5 wz)) (fun x _ => N - (intOf x).toNat)
        case atStart => exact ⟨0, Nat.zero_le _, rfl, HRK, HRV, Lib.hid (Chg.refl _ _)⟩
        case round =>
          clear HRK HRV
          obtain ⟨j, hj, rfl, HRK, HRV, HC⟩ := hrel
          have qc := (HPB.out _ HC.out).1
          by_cases hlt : j < N
          · obtain ⟨gg, hrog, hAg, ⟨y, hy, hcell⟩, hfz⟩ := HRK.out j hlt
            rw [hAg] at qc
            have e1 : decide ((j : Int) < (N : Int)) = true := decide_eq_true (by omega)
            have e1n : decide (j < N) = true := decide_eq_true hlt
            have HGG := Lib.hid hrog
            have m1 : (0 : Int) ≤ (j : Int) := by omega
            have m2 : (j : Int) < (N : Int) := by omega
            clear hrog hy hAg
            go_wp2_with fail
            go_roundw
            case rel => exact ⟨j + 1, by omega, by go_num, Lib.hid (HRK.out.set (x := 102) (by omega)), Lib.hid (HRV.out.set (x := 102) (by omega)), Lib.hid (HC.out.trans (Chg.setCell _ _ _ (HLKS.out gg HGG.out)))⟩
            case measure => simp [intOf]; omega
          · have e1 : decide ((j : Int) < (N : Int)) = false := decide_eq_false (by omega)
            have e1n : decide (j < N) = false := decide_eq_false hlt
            clear hlt hj HRK
            go_wp2_with fail
            go_loopw [12] (fun x wz => ∃ j : Nat, j ≤ M ∧ x = .int .i64 (j : Int) ∧ Hid (Spent wz so g.vA M) ∧ Hid (Chg S w5 wz)) (fun x _ => M - (intOf x).toNat)
            case atStart => exact ⟨0, Nat.zero_le _, rfl, HRV, HC⟩
            case round =>
              clear HRV HC e1 e1n qc
              obtain ⟨j, hj, rfl, HRV, HC⟩ := hrel
              have qc := (HPB.out _ HC.out).2
              by_cases hlt : j < M
              · obtain ⟨gg, hrog, hAg, ⟨y, hy, hcell⟩, hfz⟩ := HRV.out j hlt
                rw [hAg] at qc
                have e1 : decide ((j : Int) < (M : Int)) = true := decide_eq_true (by omega)
                have e1n : decide (j < M) = true := decide_eq_true hlt
                have HGG := Lib.hid hrog
                have m1 : (0 : Int) ≤ (j : Int) := by omega
                have m2 : (j : Int) < (M : Int) := by omega
                clear hrog hy hAg
                go_wp2_with fail
                go_roundw
                case rel => exact ⟨j + 1, by omega, by go_num, Lib.hid (HRV.out.set (x := 102) (by omega)), Lib.hid (HC.out.trans (Chg.setCell _ _ _ (HLVS.out gg HGG.out)))⟩
                case measure => simp [intOf]; omega
              · have e1 : decide ((j : Int) < (M : Int)) = false := decide_eq_false (by omega)
                have e1n : decide (j < M) = false := decide_eq_false hlt
                have HN := Lib.hid (HNX.out _ HC.out)
                clear hlt hj HRV HNX
                go_wp2_with fail
                go_roundw
                case rel => exact ⟨k + 1, by omega, by go_num, _, T', R', X', d', rfl, HN⟩
                case measure => have := HLT.out; simp [intOf]; omega
      case obl =>
        refine ⟨fun u hu hd => ?_, ?_⟩
        · go_simp
          exact ⟨Ext.refl _, rfl⟩
        refine ⟨fun u hu hd => ?_, ?_⟩
        · simp only [Act.put, List.setIfInBounds_toArray, List.set_cons_zero, List.set_cons_succ]
          have e0 : f1 0 = .int .i64 cc := hd 0 (by kernel_rfl)
          go_simp
          refine (snum cc u).mono ?_
          rintro x9 w9 ⟨rfl, rfl⟩
          exact ⟨_, rfl, Ext.refl _, rfl⟩
        refine ⟨fun u hu hd => ?_, ?_⟩
        · simp only [Act.put, List.setIfInBounds_toArray, List.set_cons_zero, List.set_cons_succ]
          go_simp
          exact ⟨Ext.refl _, rfl⟩
        refine ⟨fun u hu hd => ?_, ?_⟩
        · simp only [Act.put, List.setIfInBounds_toArray, List.set_cons_zero, List.set_cons_succ]
          have e1 : f1 1 = .int .i64 cc := hd 1 (by kernel_rfl)
          have e2 : f1 2 = .int .i64 cc := hd 2 (by kernel_rfl)
          have q1 : (cc != cc) = false := by simp
          go_simp
          exact ⟨Ext.refl _, rfl⟩
        refine ⟨fun u hu hd => ?_, ?_⟩
        · simp only [Act.put, List.setIfInBounds_toArray, List.set_cons_zero, List.set_cons_succ]
          have e3 : f1 3 = .bool false := hd 3 (by kernel_rfl)
          go_simp
          exact ⟨Ext.refl _, rfl⟩
        refine ⟨fun u hu hd => ?_, ?_⟩
        · simp only [Act.put, List.setIfInBounds_toArray, List.set_cons_zero, List.set_cons_succ]
          have e4 : f1 4 = .bool false := hd 4 (by kernel_rfl)
          have hu2 := Ext.trans (Ext.drew w4) hu
          have q0 := ext_cell hu2 b0
          have q1 := ext_cell hu2 b1
          have q2 := ext_cell hu2 b2
          have q3 := ext_cell hu2 b3
          go_simp
          exact ⟨Ext.refl _, rfl⟩
        refine ⟨fun u hu hd => ?_, ?_⟩
        · simp only [Act.put, List.setIfInBounds_toArray, List.set_cons_zero, List.set_cons_succ]
          have e4 : f1 4 = .bool false := hd 4 (by kernel_rfl)
          go_simp
          exact ⟨Ext.refl _, rfl⟩
        refine ⟨fun u hu hd => ?_, ?_⟩
        · simp only [Act.put, List.setIfInBounds_toArray, List.set_cons_zero, List.set_cons_succ]
          have e4 : f1 4 = .bool false := hd 4 (by kernel_rfl)
          go_simp
          exact ⟨Ext.refl _, rfl⟩
        refine ⟨fun u hu hd => ?_, ?_⟩
        · simp only [Act.put, List.setIfInBounds_toArray, List.set_cons_zero, List.set_cons_succ]
          have e4 : f1 4 = .bool false := hd 4 (by kernel_rfl)
          have e6 : f1 6 = .slice (some ⟨b, o, none⟩) L.length c := hd 6 (by kernel_rfl)
          have e7 : f1 7 = .int .i64 (k : Int) := hd 7 (by kernel_rfl)
          go_simp
          exact ⟨Ext.refl _, rfl⟩
        refine ⟨fun u hu hd => ?_, ?_⟩
        · simp only [Act.put, List.setIfInBounds_toArray, List.set_cons_zero, List.set_cons_succ]
          have e4 : f1 4 = .bool false := hd 4 (by kernel_rfl)
          have e8 : f1 8 = .pointer (some ⟨b, o + k * 4, none⟩) := hd 8 (by kernel_rfl)
          have hu2 := Ext.trans (Ext.drew w4) hu
          have q0 := ext_cell hu2 c0
          have q1 := ext_cell hu2 c1
          have q2 := ext_cell hu2 c2
          have q3 := ext_cell hu2 c3
          go_simp
          exact ⟨Ext.refl _, rfl⟩
        refine ⟨fun u hu hd => ?_, ?_⟩
        · simp only [Act.put, List.setIfInBounds_toArray, List.set_cons_zero, List.set_cons_succ]
          have e4 : f1 4 = .bool false := hd 4 (by kernel_rfl)
          have e5 : f1 5 = .agg #[.slice g.kA p.1.key.length g.kc, .int .i64 p.1.seq, .int .i64 p.1.kind, .slice g.vA p.1.val.length g.vc] := hd 5 (by kernel_rfl)
          have e9 : f1 9 = .agg #[.slice p.2.kA p.1.key.length p.2.kc, .int .i64 p.1.seq, .int .i64 p.1.kind, .slice p.2.vA p.1.val.length p.2.vc] := hd 9 (by kernel_rfl)
          have hu2 := Ext.trans (Ext.drew w4) hu
          obtain ⟨m1, m2⟩ := HM4.out u hu2
          obtain ⟨m3, m4⟩ := HEM.out u (Below.trans HW4.out (hu2.mono HW4.out.size))
          go_simp
          refine (rsame_any m1 m3 m2 m4).mono ?_
          rintro x9 w9 ⟨z9, hz9, rfl, hx9⟩
          obtain rfl := hz9.2 rfl
          exact ⟨_, rfl, hx9, rfl⟩
        refine ⟨fun u hu hd => ?_, ?_⟩
        · simp only [Act.put, List.setIfInBounds_toArray, List.set_cons_zero, List.set_cons_succ]
          have e4 : f1 4 = .bool false := hd 4 (by kernel_rfl)
          have e10 : f1 10 = .bool true := hd 10 (by kernel_rfl)
          go_simp
          exact ⟨Ext.refl _, rfl⟩
        refine ⟨fun u hu hd => ?_, ?_⟩
        · simp only [Act.put, List.setIfInBounds_toArray, List.set_cons_zero, List.set_cons_succ]
          have e4 : f1 4 = .bool false := hd 4 (by kernel_rfl)
          have e11 : f1 11 = .bool false := hd 11 (by kernel_rfl)
          go_simp
          exact ⟨Ext.refl _, rfl⟩
        trivial
    · have d1 : decide ((k : Int) < (L.length : Int)) = false := decide_eq_false (by omega)
      have d1n : decide (k < L.length) = false := decide_eq_false hlt
      have HKE : Hid (L.take k = L) := List.take_of_length_le (by omega)
      clear hlt hk
      go_wp2_with fail
      go_ret3
      exact ⟨lb, hb, T, R, X, d, rfl, HI.out.sk.wide (fun q _ hd => (HI.out.dom q hd).1), HI.out.same, (by rw [HI.out.fill, HKE.out]), HI.out.got, HI.out.ext⟩
end Go.Proofs.YtepaaffebhinlaaDoor

/- The reference's From and Level. -/
namespace Go.Proofs.YtepaaffebhinlaaDoor
open Go.ChangeShapes Go.WideShapes Go.ChangeAt Go.RowKit

theorem wpList_addents {ops : Array Oper} {rest : List Oper} {o : Oper} {a : Act} {Q : Exit → Act → World → Prop} {u : World} (hgd : o.guard = none) (s x : Operand)
    (ho : o.op = .call { callee := .builtin .append, args := #[s, x], argTypes := #[22, 22] }) (C : Nat) (v : Value) (R : List (Ent × Hd)) (hs : a.eval s = v) (hrow : u.ownsRow C 28 4 v R.length (erow R))
    (lo hi : Nat) (A2 : Option Addr) (c2 : Nat) (L : List (Ent × Hd)) (hx : a.eval x = .slice A2 L.length c2) (hsl : Sl u lo hi A2 (erow L)) (hnil : A2 = none → c2 = 0 ∧ L = []) (hlen : R.length + L.length ≤ 1000000000000) (hB : C ≤ u.heap.size)
    (h : ∀ A' c' w', w'.ownsRow C 28 4 (.slice A' (R ++ L).length c') (R ++ L).length (erow (R ++ L)) → (∀ B p, Mine B p u → Mine B p w') → (∀ w0, Below C w0 u → Below C w0 w') → wpList Tryd.prog ops Q rest (a.put o.dst (.slice A' (R ++ L).length c')) w') : wpList Tryd.prog ops Q (o :: rest) a u :=
  wpList_plain hgd fun _ hK => wp_addents s x ho C v R hs hrow lo hi A2 c2 L hx hsl hnil hlen hB (fun A' c' w' h1 h2 h3 => hK _ _ (h A' c' w' h1 h2 h3))

theorem rowM_sl {w : World} {B c : Nat} {A : Option Addr} {M : List (Ent × Hd)} (h : w.ownsRow B 28 4 (.slice A M.length c) M.length (erow M)) : Sl w 0 w.heap.size A (erow M) := by
  rcases h.2 with ⟨h1, h2⟩ | ⟨g, cap, cur, hv, hg, hh, r⟩
  · injection h1 with e1 e2 _
    have : M = [] := List.eq_nil_of_length_eq_zero e2
    subst this; exact Sl.nil _ _ _ _
  · injection hv with e1 _ _
    subst e1
    refine .inr ⟨g, 0, rfl, Nat.zero_le _, (Array.getElem?_eq_some_iff.1 hh).1, fun i u hu => ?_⟩
    have := h.cells (g := g) rfl i u hu
    rwa [addr_add] at this
/-- Which towers stand in a level. -/
def highE (n : Int) (e : Ent) : Bool := decide (n < (hgt e.key e.seq : Int))
def levR (n : Int) (R : List (Ent × Hd)) : List (Ent × Hd) := if n < 0 then [] else R.filter fun p => highE n p.1
end Go.Proofs.YtepaaffebhinlaaDoor
