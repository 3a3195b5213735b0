/- Lscopies Pscopies, joined. -/
import Derived.Test.YtpfaoiickmpmjaaDoorMb10
import Derived.Test.YtpfaoiickmpmjaaDoorMb13
import Derived.Test.YtpfaoiickmpmjaaDoorCards
import Derived.Test.YtpfaoiickmpmjaaDoorTie
import Derived.WalkKit
import Derived.ProofKit
import Derived.OpenShut
import Derived.Deep.DeepHandedRow
import Derived.Lib.LaidTab

/- SkipCopies: the walk. -/
namespace Go.Proofs.YtpfaoiickmpmjaaDoor.skipCopies
open Go.ChangeShapes Go.WideShapes Go.ChangeAt Go.RowKit Go.Shelf

/-- Behind fill. -/
structure FilB (w : World) (B : Nat) (lb hb : Nat) (T : List Tw) (R : List (Ent × Hd)) (X : Option Addr) (d : Nat) (hi : Nat) : Prop where
  sk : Sk w (fun k => B ≤ k ∧ k < hi) lb hb T
  got : Got B (.slice X R.length d) R w
  same : T.map Tw.e = R.map Prod.fst
  asc : AscM (R.map Prod.fst)
  few : R.length ≤ 1000
theorem FilB.of {w w' : World} {L : List (Ent × Hd)} {e : Ending} (h : FillAns w (L.map Prod.fst) e w') (hl : L.length ≤ 200) : ∃ (lb hb : Nat) (T : List Tw) (R : List (Ent × Hd)) (X : Option Addr) (d : Nat), e = .returned (.tuple #[.pointer (some ⟨lb, 0, none⟩), .slice X R.length d, .bool true]) ∧ FilB w' w.heap.size lb hb T R X d w'.heap.size ∧ Ext w w' := by
  obtain ⟨lb, hb, T, R, X, d, rfl, hs, hsame, hfill, hgot, hx⟩ := h
  refine ⟨lb, hb, T, R, X, d, rfl, ⟨hs.tight, hgot, hsame, by rw [hfill]; exact fillE_asc _, ?_⟩, hx⟩
  have h1 := congrArg List.length hfill
  have h2 := fillE_len (L.map Prod.fst)
  simp only [List.length_map] at h1 h2
  omega
theorem FilB.ext {w w' : World} {B lb hb d hi : Nat} {T : List Tw} {R : List (Ent × Hd)} {X : Option Addr} (h : FilB w B lb hb T R X d hi) (hx : Ext w w') : FilB w' B lb hb T R X d hi := ⟨h.sk.ext hx, h.got.below hx, h.same, h.asc, h.few⟩
theorem FilB.len {w : World} {B lb hb d hi : Nat} {T : List Tw} {R : List (Ent × Hd)} {X : Option Addr} (h : FilB w B lb hb T R X d hi) : T.length = R.length := by simpa using congrArg List.length h.same
theorem FilB.may {w : World} {B lb hb d hi : Nat} {T : List Tw} {R : List (Ent × Hd)} {X : Option Addr} (h : FilB w B lb hb T R X d hi) : ∀ p ∈ R, p.1.may = true := fun p hp => h.asc.may p.1 (List.mem_map_of_mem hp)

set_option maxRecDepth 100000 in
set_option maxHeartbeats 16000000 in
theorem walk (W : World) (hT : Tab W) (A : Option Addr) (c : Nat) (L : List (Ent × Hd)) (_hlc : L.length ≤ c) (_hc : c ≤ maxLen) (hE : Es W 0 W.heap.size A L) (hln : ∀ p ∈ L, p.1.key.length ≤ 140737488351232 ∧ p.1.val.length ≤ 140737488351232) (hn : L.length ≤ 2199023255552)
    (A' : Option Addr) (c' : Nat) (L' : List (Ent × Hd)) (_hlc' : L'.length ≤ c') (_hc' : c' ≤ maxLen) (hE' : Es W 0 W.heap.size A' L') (hln' : ∀ p ∈ L', p.1.key.length ≤ 140737488351232 ∧ p.1.val.length ≤ 140737488351232) (hn' : L'.length ≤ 2199023255552)
    (e : Ent) (g : Hd) (hm : Em W 0 W.heap.size e g) (l1 : e.key.length ≤ 140737488351232) (l2 : e.val.length ≤ 140737488351232) :
    Calls Tryd.prog 7 #[.slice A L.length c, .slice A' L'.length c', e.at_ g] W fun x w' => x = .returned (.bool true) ∧ Below W.heap.size W w' := by
  have HKN : Hid (∀ u, Ext W u → Calls Tryd.prog 10 #[] u fun e w' => e = .returned (.bool true) ∧ Below u.heap.size u w') := fun u hu => known_any (hT.ext hu)
  have HF1 : Hid (∀ u, Ext W u → Calls Tryd.prog 13 #[.slice A L.length c] u fun x w' => ∃ z : Bool, (z = true → FewE L) ∧ x = .returned (.bool z) ∧ Ext u w') := fun u hu => few_any (hE.below hu (Nat.le_refl _)) hu.size (by omega) hln
  have HF2 : Hid (∀ u, Ext W u → Calls Tryd.prog 13 #[.slice A' L'.length c'] u fun x w' => ∃ z : Bool, (z = true → FewE L') ∧ x = .returned (.bool z) ∧ Ext u w') := fun u hu => few_any (hE'.below hu (Nat.le_refl _)) hu.size (by omega) hln'
  have HL1 : Hid (∀ u, Ext W u → FewE L → Calls Tryd.prog 14 #[.slice A L.length c] u (FillAns u (L.map Prod.fst))) := fun u hu hf => fill_any (hE.below hu (Nat.le_refl _)) hu.size (hT.ext hu) hf
  have HL2 : Hid (∀ u, Ext W u → FewE L' → Calls Tryd.prog 14 #[.slice A' L'.length c'] u (FillAns u (L'.map Prod.fst))) := fun u hu hf => fill_any (hE'.below hu (Nat.le_refl _)) hu.size (hT.ext hu) hf
  have HTB := Lib.hid hT
  have HM : Hid (∀ u, Ext W u → Em u 0 W.heap.size e g ∧ W.heap.size ≤ u.heap.size) := fun u hu => ⟨hm.below hu (Nat.le_refl _), hu.size⟩
  have HLE : Hid (e.key.length ≤ 140737488351232 ∧ e.val.length ≤ 140737488351232) := ⟨l1, l2⟩
  obtain ⟨w0, hw0⟩ : ∃ w0, w0 = W.alloc (.cells #[.slice g.kA e.key.length g.kc, .int .i64 e.seq, .int .i64 e.kind, .slice g.vA e.val.length g.vc] 40) := ⟨_, rfl⟩
  have HX0 : Hid (Ext W w0) := by rw [hw0]; exact ext_alloc _ _
  have HB0 : Hid (w0.heap[W.heap.size]? = some (.cells #[.slice g.kA e.key.length g.kc, .int .i64 e.seq, .int .i64 e.kind, .slice g.vA e.val.length g.vc] 40 (0, 0))) := by rw [hw0]; exact heap_at _ _ rfl
  clear hT hE hln hn hE' hln' hn' _hlc _hc _hlc' _hc' hm l1 l2
  unfold Ent.at_
  go_enter Tryd.func7, Tryd.ntmps7
  go_upto_region 1 with (fail)
  rw [← hw0]
  clear hw0
  go_wp2_with fail
  refine Calls.mono (HF1.out w0 HX0.out) ?_
  rintro x w1 ⟨z1, hz1, rfl, hx1⟩
  have HX1 : Hid (Ext W w1) := Ext.trans HX0.out hx1
  have HX01 : Hid (Ext w0 w1) := hx1
  have HZ1 := Lib.hid hz1
  clear hz1 hx1 HF1
  cases z1 with
  | false =>
    go_wp2_with fail
    refine Calls.mono (HKN.out w1 HX1.out) ?_
    rintro x v ⟨rfl, hx⟩
    have HXV : Hid (Ext W v) := Ext.trans HX1.out hx
    clear hx
    go_wp2_with fail
    go_ret
    exact ⟨rfl, HXV.out⟩
  | true =>
    go_wp2_with fail
    refine Calls.mono (HF2.out w1 HX1.out) ?_
    rintro x w2 ⟨z2, hz2, rfl, hx2⟩
    have HX2 : Hid (Ext W w2) := Ext.trans HX1.out hx2
    have HX02 : Hid (Ext w0 w2) := Ext.trans HX01.out hx2
    have HZ2 := Lib.hid hz2
    clear hz2 hx2 HF2
    cases z2 with
    | false =>
      go_wp2_with fail
      refine Calls.mono (HKN.out w2 HX2.out) ?_
      rintro x v ⟨rfl, hx⟩
      have HXV : Hid (Ext W v) := Ext.trans HX2.out hx
      clear hx
      go_wp2_with fail
      go_ret
      exact ⟨rfl, HXV.out⟩
    | true =>
      have c0 := cell_of (ext_heap HX02.out HB0.out) (k := 0) rfl
      have c1 := cell_of (ext_heap HX02.out HB0.out) (k := 1) rfl
      have c2 := cell_of (ext_heap HX02.out HB0.out) (k := 2) rfl
      have c3 := cell_of (ext_heap HX02.out HB0.out) (k := 3) rfl
      obtain ⟨w3, hw3⟩ : ∃ w3, w3 = w2.alloc (.cells #[.slice g.kA e.key.length g.kc, .int .i64 e.seq, .int .i64 e.kind, .slice g.vA e.val.length g.vc] 40) := ⟨_, rfl⟩
      have HX23 : Hid (Ext w2 w3) := by rw [hw3]; exact ext_alloc _ _
      have HB3 : Hid (w3.heap[w2.heap.size]? = some (.cells (ecells (e, g)).toArray 40 (0, 0))) := by rw [hw3]; exact heap_at _ _ rfl
      have HX3 : Hid (Ext W w3) := Ext.trans HX2.out HX23.out
      have HF3 := Lib.hid (few_any (c := 1) (one_es HB3.out ((HM.out w3 HX3.out).1.wide (Nat.le_refl _) (HM.out w3 HX3.out).2)) (Nat.le_refl _) (by simp) (fun p hp => by rw [List.mem_singleton] at hp; subst hp; exact HLE.out))
      rw [hw3] at HF3
      go_wp2_with fail
      refine Calls.mono HF3.out ?_
      rw [← hw3]
      rintro x w4 ⟨z3, hz3, rfl, hx4⟩
      have HX4 : Hid (Ext W w4) := Ext.trans HX3.out hx4
      have HX04 : Hid (Ext w0 w4) := Ext.trans HX02.out (Ext.trans HX23.out hx4)
      have HZ3 := Lib.hid hz3
      clear hz3 hx4 HF3 hw3 c0 c1 c2 c3
      cases z3 with
      | false =>
        go_wp2_with fail
        refine Calls.mono (HKN.out w4 HX4.out) ?_
        rintro x v ⟨rfl, hx⟩
        have HXV : Hid (Ext W v) := Ext.trans HX4.out hx
        clear hx
        go_wp2_with fail
        go_ret
        exact ⟨rfl, HXV.out⟩
      | true =>
        have HEL : Hid (e.key.length + e.val.length < 200000) := (HZ3.out (by trivial)).2 (e, g) (by simp)
        go_wp2_with fail
        refine Calls.mono (HL1.out w4 HX4.out (HZ1.out (by trivial))) ?_
        rintro x w5 hfl
        obtain ⟨lb, hb, T, R, X, d, rfl, hb1, hx5⟩ := FilB.of hfl (HZ1.out (by trivial)).1
        have HBA := Lib.hid hb1
        have HX5 : Hid (Ext W w5) := Ext.trans HX4.out hx5
        have HX45 : Hid (Ext w4 w5) := hx5
        clear hfl hb1 hx5 HL1
        go_wp2_with fail
        refine Calls.mono (HL2.out w5 HX5.out (HZ2.out (by trivial))) ?_
        rintro x w6 hfl
        obtain ⟨lb', hb', T', R', X', d', rfl, hb2, hx6⟩ := FilB.of hfl (HZ2.out (by trivial)).1
        have HBB := Lib.hid hb2
        have HX6 : Hid (Ext W w6) := Ext.trans HX5.out hx6
        have HX56 : Hid (Ext w5 w6) := hx6
        have HA6 := Lib.hid (HBA.out.ext hx6)
        clear hfl hb2 hx6 HL2
        have HSA := Lib.hid (ssame_any HA6.out.sk HBB.out.sk)
        go_wp2_with fail
        refine Calls.mono HSA.out ?_
        rintro x w7 ⟨y1, hy1, rfl, hx7⟩
        have HX67 : Hid (Ext w6 w7) := hx7
        have HA7 := Lib.hid (HA6.out.ext hx7)
        have HB7 := Lib.hid (HBB.out.ext hx7)
        have HY1 := Lib.hid hy1
        clear hx7 hy1 HSA
        have HSL := Lib.hid (rsamelist_any (c := d) (c2 := d') HA7.out.got.rs HB7.out.got.rs (Nat.le_refl _) (Nat.le_refl _) (by have := HBA.out.few; omega) (by have := HBB.out.few; omega))
        go_wp2_with fail
        refine Calls.mono HSL.out ?_
        rintro x w8 ⟨y2, hy2, rfl, hx8⟩
        obtain rfl : y1 = y2 := Bool.eq_iff_iff.2 (by rw [HY1.out, hy2, HA7.out.same, HB7.out.same])
        have HX8 : Hid (Ext W w8) := Ext.trans HX6.out (Ext.trans HX67.out hx8)
        have HX68 : Hid (Ext w6 w8) := Ext.trans HX67.out hx8
        have HA8 := Lib.hid (HA7.out.ext hx8)
        have qy : (y1 != y1) = false := by cases y1 <;> rfl
        clear hx8 hy2 HSL HA7 HB7
        have HSS := Lib.hid (ssame_any HA8.out.sk HA8.out.sk)
        go_wp2_with fail
        refine Calls.mono HSS.out ?_
        rintro x w9 ⟨y3, hy3, rfl, hx9⟩
        obtain rfl : y3 = true := hy3.2 (by trivial)
        have HX9 : Hid (Ext W w9) := Ext.trans HX8.out hx9
        have HA9 := Lib.hid (HA8.out.ext hx9)
        have HX69 : Hid (Ext w6 w9) := Ext.trans HX68.out hx9
        clear hx9 hy3 HSS qy
        have HZZ : Hid (w5.heap.size ≤ w9.heap.size ∧ W.heap.size ≤ w9.heap.size) := Lib.hid ⟨(Ext.trans HX56.out HX69.out).size, HX9.out.size⟩
        have HCP := Lib.hid (scopy_any HA9.out.sk (fun q hq => by have := HZZ.out; omega) (HTB.out.ext HX9.out) (by have := HA9.out.len; have := HA9.out.few; omega))
        go_wp2_with fail
        refine Calls.mono HCP.out ?_
        rintro x w10 ⟨lc, hc, Tc, rfl, hsc, htc, hx10⟩
        have HC10 := Lib.hid hsc
        have HTC := Lib.hid htc
        have HX10 : Hid (Ext W w10) := Ext.trans HX9.out hx10
        have HX910 : Hid (Ext w9 w10) := hx10
        have HA10 := Lib.hid (HA9.out.ext hx10)
        clear hsc htc hx10 HCP
        have HSC := Lib.hid (ssame_any HC10.out HA10.out.sk)
        go_wp2_with fail
        refine Calls.mono HSC.out ?_
        rintro x w11 ⟨y4, hy4, rfl, hx11⟩
        obtain rfl : y4 = true := hy4.2 HTC.out
        have HX11 : Hid (Ext W w11) := Ext.trans HX10.out hx11
        have HC11 := Lib.hid (HC10.out.ext hx11)
        have HA11 := Lib.hid (HA10.out.ext hx11)
        have HX011 : Hid (Ext w0 w11) := Ext.trans HX04.out (Ext.trans HX45.out (Ext.trans HX56.out (Ext.trans HX69.out (Ext.trans HX910.out hx11))))
        have HX911 : Hid (Ext w9 w11) := Ext.trans HX910.out hx11
        clear hx11 hy4 HSC
        have HTL := Tab.lt HTB.out
        have HPT := Lib.hid (sput_any HC11.out (HM.out w11 HX11.out).1 (HM.out w11 HX11.out).2 (fun q hd => .inr (by have := HZZ.out; have := hd.1; omega)) (HTB.out.ext HX11.out) (fun hd => by have := HZZ.out; have := hd.1; omega)
          (by have h1 := congrArg List.length HTC.out; have h2 := HA11.out.len; have h3 := HA11.out.few; simp only [List.length_map] at h1; omega) (by have := HEL.out; omega) (by have := HEL.out; omega))
        unfold Ent.at_ at HPT
        have c0 := cell_of (ext_heap HX011.out HB0.out) (k := 0) rfl
        have c1 := cell_of (ext_heap HX011.out HB0.out) (k := 1) rfl
        have c2 := cell_of (ext_heap HX011.out HB0.out) (k := 2) rfl
        have c3 := cell_of (ext_heap HX011.out HB0.out) (k := 3) rfl
        clear HTL
        go_wp2_with fail
        refine Calls.mono HPT.out ?_
        rintro x w12 ⟨T3, k3, hput, rfl, hs3, hc3⟩
        have HP3 := Lib.hid hput
        have HS3 := Lib.hid hs3
        have HW12 : Hid (Below w9.heap.size w11 w12) := hc3.below (fun q h => h.1.1) HX911.out.size
        have HW12S : Hid (w9.heap.size ≤ w12.heap.size) := Nat.le_trans HX911.out.size hc3.size
        have HX09 : Hid (Ext w0 w9) := Ext.trans HX04.out (Ext.trans HX45.out (Ext.trans HX56.out HX69.out))
        have HG12 : Hid (Got w4.heap.size (.slice X R.length d) R w12) := HA11.out.got.sks hc3
        have HSA12 : Hid (Sk w12 (fun q => w4.heap.size ≤ q ∧ q < w5.heap.size) lb hb T) := HA11.out.sk.keep hc3 (fun q hq hd => by have h1 := hq.1.1; have h2 := hd.2; have h3 := HZZ.out; omega)
        have HX12 : Hid (Ext W w12) := Below.trans HX11.out (HW12.out.mono HZZ.out.2)
        clear hput hs3 hc3 HPT c0 c1 c2 c3
        have HRP := Lib.hid (rput_any HG12.out (HM.out w12 HX12.out).1 (HM.out w12 HX12.out).2 (Nat.le_trans (Nat.le_trans HX45.out.size (Nat.le_trans HX56.out.size HX69.out.size)) HW12S.out) HBA.out.asc.asc HBA.out.may (by have := HBA.out.few; omega))
        unfold Ent.at_ at HRP
        have hbm : w12.heap[W.heap.size]? = some (.cells #[.slice g.kA e.key.length g.kc, .int .i64 e.seq, .int .i64 e.kind, .slice g.vA e.val.length g.vc] 40 (0, 0)) := (HW12.out.block W.heap.size (Nat.lt_of_lt_of_le (Array.getElem?_eq_some_iff.1 HB0.out).1 HX09.out.size)).trans (ext_heap HX011.out HB0.out)
        have c0 := cell_of hbm (k := 0) rfl
        have c1 := cell_of hbm (k := 1) rfl
        have c2 := cell_of hbm (k := 2) rfl
        have c3 := cell_of hbm (k := 3) rfl
        clear hbm
        go_wp2_with fail
        refine Calls.mono HRP.out ?_
        rintro x w13 ⟨R3, X3, d3, k4, hput2, rfl, hg3, hx13, _⟩
        have HP4 := Lib.hid hput2
        have HX1213 : Hid (Ext w12 w13) := hx13
        have HX13 : Hid (Ext W w13) := Ext.trans HX12.out hx13
        have HE13 : Hid (Es w13 0 w13.heap.size X R ∧ Es w13 0 w13.heap.size X3 R3) := ⟨(HG12.out.below hx13).rs, hg3.rs⟩
        have HSA13 := Lib.hid (HSA12.out.ext hx13)
        have HSC13 := Lib.hid (HS3.out.ext hx13)
        have HFT : Hid (T3.map Tw.e = R3.map Prod.fst ∧ R3.length ≤ 1000000) := by
          have h1 := HP3.out
          have h2 := HP4.out
          rw [HTC.out, HBA.out.same] at h1
          have h3 := h1.symm.trans h2
          injection h3 with h3 _
          have h4 := putE_len (R.map Prod.fst) e
          rw [h2] at h4
          have h5 := HBA.out.few
          simp only [List.length_map] at h4
          exact Lib.hid ⟨h3, by omega⟩
        have HRL : Hid (R.length ≤ 1000000) := by have := HBA.out.few; unfold Hid; omega
        have HSM := Lib.hid HBA.out.same
        clear hput2 hg3 hx13 HRP c0 c1 c2 c3
        have HGO : Hid (∀ (u : World), Ext w13 u → Calls Tryd.prog 19 #[.pointer (some ⟨lb, 0, none⟩), .slice none 0 0] u fun e w' => ∃ bd, e = .returned (.func (.func 61) #[] #[.pointer (some ⟨bd, 0, none⟩)]) ∧ Ext u w' ∧
            Calls Tryd.prog 18 #[.func (.func 61) #[] #[.pointer (some ⟨bd, 0, none⟩)], .slice X R.length d, .int .i64 0] w' fun e w'' => e = .returned (.bool true) ∧ Ext w' w'') := fun u hu => by
          refine (sfrom_any (HSA13.out.ext hu) (Bs.nil u 0 u.heap.size) (Nat.le_refl _) (by simp) (by simp)).mono ?_
          rintro e w' ⟨hx, bd, rfl, hit⟩
          refine ⟨bd, rfl, hx, ?_⟩
          exact goes_any hit (fun A hA => hA) (rowOf_ins HSA13.out.ins _ _) (HE13.out.1.below (Ext.trans hu hx) (Nat.le_refl _)) (Ext.trans hu hx).size (by have := HRL.out; omega) (by rw [all_from HSA13.out, HSM.out])
        have HGC : Hid (∀ (u : World), Ext w13 u → Calls Tryd.prog 19 #[.pointer (some ⟨lc, 0, none⟩), .slice none 0 0] u fun e w' => ∃ bd, e = .returned (.func (.func 61) #[] #[.pointer (some ⟨bd, 0, none⟩)]) ∧ Ext u w' ∧
            Calls Tryd.prog 18 #[.func (.func 61) #[] #[.pointer (some ⟨bd, 0, none⟩)], .slice X3 R3.length d3, .int .i64 0] w' fun e w'' => e = .returned (.bool true) ∧ Ext w' w'') := fun u hu => by
          refine (sfrom_any (HSC13.out.ext hu) (Bs.nil u 0 u.heap.size) (Nat.le_refl _) (by simp) (by simp)).mono ?_
          rintro e w' ⟨hx, bd, rfl, hit⟩
          refine ⟨bd, rfl, hx, ?_⟩
          exact goes_any hit (fun A hA => hA) (rowOf_ins HSC13.out.ins _ _) (HE13.out.2.below (Ext.trans hu hx) (Nat.le_refl _)) (Ext.trans hu hx).size (by have := HFT.out.2; omega) (by rw [all_from HSC13.out, HFT.out.1])
        go_wp2_with fail
        refine Calls.mono (HGO.out w13 (Ext.refl _)) ?_
        rintro x v1 ⟨bd, rfl, hx, hg⟩
        have HV1 : Hid (Ext w13 v1) := hx
        have HG1 := Lib.hid hg
        clear hx hg
        go_wp2_with fail
        refine Calls.mono HG1.out ?_
        rintro x v2 ⟨rfl, hx⟩
        have HV2 : Hid (Ext w13 v2) := Ext.trans HV1.out hx
        clear hx HG1
        go_wp2_with fail
        refine Calls.mono (HGC.out v2 HV2.out) ?_
        rintro x v3 ⟨bd2, rfl, hx, hg⟩
        have HV3 : Hid (Ext w13 v3) := Ext.trans HV2.out hx
        have HG3 := Lib.hid hg
        clear hx hg
        go_wp2_with fail
        refine Calls.mono HG3.out ?_
        rintro x v4 ⟨rfl, hx⟩
        have HV4 : Hid (Ext w13 v4) := Ext.trans HV3.out hx
        clear hx HG3
        go_wp2_with fail
        refine Calls.mono (HKN.out v4 (Ext.trans HX13.out HV4.out)) ?_
        rintro x v5 ⟨rfl, hx⟩
        have HV5 : Hid (Ext W v5) := Ext.trans (Ext.trans HX13.out HV4.out) hx
        clear hx
        go_wp2_with fail
        go_ret
        exact ⟨rfl, HV5.out⟩
end Go.Proofs.YtpfaoiickmpmjaaDoor.skipCopies

/- SkipCopies: from the walk to the card. For every input the law answers true and leaves its arguments as they were; of the table of trailing noughts it is asked that it holds what the program's text lays. -/
namespace Go.Proofs.YtpfaoiickmpmjaaDoor.skipCopies
open Go.ChangeShapes Go.WideShapes Go.ChangeAt Go.RowKit
set_option linter.unusedVariables false

theorem gTab : Tryd.prog.globalNamed "math/bits.deBruijn32tab" = some 0 := by kernel_rfl
theorem gTabType : (Tryd.prog.globals[0]?).map (·.type) = some 84 := by kernel_rfl
theorem cellsA : Tryd.prog.cellsOf 84 = 32 := by kernel_rfl
theorem cellsE : Tryd.prog.cellsOf 5 = 1 := by kernel_rfl
/-- What the row's list gives. -/
theorem table {W : World} (h : laidMetH Tryd.prog Rows.skipCopiesRow.laid W) : Tab W := fun j hj => by
  have h1 : Lib.TabIs Tryd.prog W "math/bits.deBruijn32tab" .u8 (Lib.deBruijn32tab.map fun n : Nat => (n : Int)) := Lib.tabIs_of_head (rest := []) gTab gTabType Tryd.underlying84 Tryd.underlying5 cellsE cellsA h
  have h2 := h1.cell gTab j (by rw [List.length_map]; exact hj)
  rw [h2]
  simp [List.getD, hj]

theorem contract (H : Type) (enc : TypeId × Value → H) (W : World) (base : Nat) (args : Array Value) (ds gs : List (DataW H)) (before : List MemPlace)
    (hval0 : ∀ (j : Nat) t v, Tryd.f7.params[j]? = some t → args[j]? = some v → Value.okWide Tryd.prog W .any base t v)
    (hW : DataW.Whole enc Tryd.prog Tryd.f7.params.toList Rows.skipCopiesSpec.vars false W args.toList ds gs before)
    (hsz0 : (DataW.weightsEach Tryd.prog (Tryd.f7.params.toList ++ (OpenSpec.ofChange Rows.skipCopiesSpec).bare.plain.varTypes Tryd.prog) (ds ++ gs)).all (· ≤ reachBytes) = true) (hL : laidMetH Tryd.prog Rows.skipCopiesRow.laid W) :
    Calls Tryd.prog 7 args W fun e W' => ∃ v, e = .returned v ∧ Rows.skipCopiesSpec.post enc Tryd.prog Tryd.f7 false true false false W args v W' := by
  have hsz : (DataW.weightsEach Tryd.prog (Tryd.f7.params.toList ++ Rows.skipCopiesSpec.plain.varTypes Tryd.prog) (ds ++ gs)).all (· ≤ reachBytes) = true := hsz0
  have hval : ∀ (j : Nat) t v, Tryd.f7.params[j]? = some t → args[j]? = some v → Value.okWide Tryd.prog W .any base t v := hval0
  have hT := table hL
  have hW' := hW
  obtain ⟨p, q, hA0, hV, rfl, hfz, hnd⟩ := hW
  have hA : DataW.TrodAll enc Tryd.prog W 0 (fun _ => true) true Tryd.f7.params.toList args.toList ds p := hA0
  rw [Tryd.params7] at hA hval hsz
  obtain ⟨v0, vs0, d0, ds0, p0, q0, hargs, rfl, rfl, h0, r0⟩ := trodAll_cons hA
  obtain ⟨v1, vs1, d1, ds1, p1, q1, rfl, rfl, rfl, h1, r1⟩ := trodAll_cons r0
  obtain ⟨v2, vs2, d2, ds2, p2, q2, rfl, rfl, rfl, h2, r2⟩ := trodAll_cons r1
  obtain ⟨rfl, rfl, rfl⟩ := trodAll_nil r2
  obtain rfl : args = #[v0, v1, v2] := by cases args; simp_all
  obtain ⟨rfl, rfl⟩ := trodVars_none hV
  have k0 := h0
  have lt0 : ∀ x ∈ p0, x.block < W.heap.size := by obtain ⟨m, hm⟩ := k0; exact DataW.trod_lt m _ _ _ hm
  obtain ⟨A0, c0, L0, rfl, x0, y0, m0, z0, n0⟩ := open_entries (hval 0 26 v0 rfl rfl) h0 hsz (jj := 0) rfl rfl
  have k1 := h1
  have lt1 : ∀ x ∈ p1, x.block < W.heap.size := by obtain ⟨m, hm⟩ := k1; exact DataW.trod_lt m _ _ _ hm
  obtain ⟨A1, c1, L1, rfl, x1, y1, m1, z1, n1⟩ := open_entries (hval 1 26 v1 rfl rfl) h1 hsz (jj := 1) rfl rfl
  have k2 := h2
  have lt2 : ∀ x ∈ p2, x.block < W.heap.size := by obtain ⟨m, hm⟩ := k2; exact DataW.trod_lt m _ _ _ hm
  obtain ⟨e2, g2, rfl, m2, x2, z2⟩ := open_entry (hval 2 40 v2 rfl rfl) h2 hsz (jj := 2) rfl rfl
  clear hA0 hval0 hsz0
  refine (walk W hT A0 c0 L0 x0 y0 m0 z0 n0 A1 c1 L1 x1 y1 m1 z1 n1 e2 g2 m2 x2 z2).mono fun e W' ⟨he, bel⟩ => ?_
  subst he
  exact ⟨_, rfl, _, _, _, [], _, [], hW', trodAll_mk1 (shut_bool Tryd.underlying4 _), (trodAll_cons_mk (Below.trod laidOut (by kernel_rfl) (of_decide_eq_true (by kernel_rfl)) k0 bel lt0) (trodAll_cons_mk (Below.trod laidOut (by kernel_rfl) (of_decide_eq_true (by kernel_rfl)) k1 bel lt1) (trodAll_cons_mk (Below.trod laidOut (by kernel_rfl) (of_decide_eq_true (by kernel_rfl)) k2 bel lt2) trodAll_mk0))), rfl, bel.frame _, fun h => by cases h⟩

/-- A world for the witness: the settled one, the table holding what its initialiser lays. -/
noncomputable def laidWorld (os : Os) : World :=
  { World.holding Tryd.prog os ⟨#[], #[], []⟩ with heap := (World.holding Tryd.prog os ⟨#[], #[], []⟩).heap.modify 0 fun
      | .cells _ t frozen => .cells #[.int .u8 0, .int .u8 1, .int .u8 28, .int .u8 2, .int .u8 29, .int .u8 14, .int .u8 24, .int .u8 3, .int .u8 30, .int .u8 22, .int .u8 20, .int .u8 15, .int .u8 25, .int .u8 17, .int .u8 4, .int .u8 8, .int .u8 31, .int .u8 27, .int .u8 13, .int .u8 23, .int .u8 21, .int .u8 19, .int .u8 16, .int .u8 7, .int .u8 26, .int .u8 12, .int .u8 18, .int .u8 6, .int .u8 11, .int .u8 5, .int .u8 10, .int .u8 9] t frozen
      | o => o }
theorem laid_met (os : Os) : laidMet Tryd.prog Rows.skipCopiesRow.laid ((laidWorld os).forCall (fun _ _ => 0) ⟨#[], #[.slice none 0 0, .slice none 0 0, .agg #[.slice none 0 0, .int .i64 0, .int .i64 0, .slice none 0 0]], []⟩).memory :=
  laidMet_of_run' 8 (by kernel_rfl) (by kernel_rfl)
theorem reads (os : Os) {H : Type} (enc : TypeId × Value → H) : ∃ places, DataW.whole enc Tryd.prog ((laidWorld os).forCall (fun _ _ => 0) ⟨#[], #[.slice none 0 0, .slice none 0 0, .agg #[.slice none 0 0, .int .i64 0, .int .i64 0, .slice none 0 0]], []⟩).memory Tryd.f7.params.toList Rows.skipCopiesSpec.vars false (#[.slice none 0 0, .slice none 0 0, .agg #[.slice none 0 0, .int .i64 0, .int .i64 0, .slice none 0 0]] : Array Value).toList 8 = some ([.nil, .nil, .agg [.nil, .lit (.int .i64 0), .lit (.int .i64 0), .nil]], [], places) :=
  ⟨[], by kernel_rfl⟩

set_option maxRecDepth 100000 in
theorem lifted (os : Os) (started : os.Started) (H : Type) (enc : TypeId × Value → H) (F : Stop.Interp) :
    ReturnsInHanded {} Tryd.checked os 7 .any ((OpenSpec.ofChange Rows.skipCopiesSpec).preRow enc Tryd.prog Tryd.f7 Rows.skipCopiesRow.domain false Rows.skipCopiesRow.laid) (((OpenSpec.ofChange Rows.skipCopiesSpec).at F).post enc Tryd.prog Tryd.f7 false true false false) := by
  obtain ⟨places, hx⟩ := reads os enc
  refine returnsInHanded_of_row (C := Tryd.checked) (s := OpenSpec.ofChange Rows.skipCopiesSpec) own started (by kernel_rfl) Tryd.func7
    (witness_row_at (enc := enc) (C := Tryd.checked) false (laidWorld os) #[.slice none 0 0, .slice none 0 0, .agg #[.slice none 0 0, .int .i64 0, .int .i64 0, .slice none 0 0]] rfl (by kernel_rfl) (by kernel_rfl) (by kernel_rfl)
      (OpenSpec.preRow_of_cond 8 hx (by kernel_rfl) (fun k hk => by cases hk) (by kernel_rfl) (laid_met os))) ?_
  intro W base args ds gs before hval hW _ _ hsz hL _ _
  exact contract H enc W base args ds gs before hval hW hsz hL

theorem said : Rows.SkipCopiesSaid :=
  OpenClaim.holds_of_cond 7 Tryd.f7 rfl rfl rfl rfl rfl rfl rfl ⟨rfl, rfl, rfl, rfl, rfl⟩ rfl rfl rfl rfl rfl (by kernel_rfl) Tryd.func7 (by kernel_rfl)
    (of_decide_eq_true (by kernel_rfl)) (by unfold Func.isWrapper; first | (rw [if_pos (by decide +kernel)]; kernel_rfl) | (rw [if_neg (by decide +kernel)]; exact ⟨rfl, rfl⟩))
    (fun os started H enc _ F => by rw [OpenClaim.pre_eq_preRow]; exact lifted os started H enc F)

theorem plain (f : FuncId) (fn : Func) (hf : Tryd.pinned.checked.prog.funcNamed "hectare/hectarelaw06.SkipCopies" = some f) (hfn : Tryd.pinned.checked.prog.funcs[f]? = some fn) :
    false = Tryd.pinned.checked.prog.looks [] ∧ ∀ (j : Nat) t, fn.params[j]? = some t → Tryd.pinned.checked.prog.wantsStandIn t = false := by
  obtain rfl : f = 7 := Option.some.inj ((show Tryd.prog.funcNamed "hectare/hectarelaw06.SkipCopies" = some 7 by kernel_rfl).symm.trans hf) |>.symm
  obtain rfl : fn = Tryd.f7 := (Option.some.inj (Tryd.func7.symm.trans hfn)).symm
  refine ⟨by kernel_rfl, fun j t ht => ?_⟩
  rw [Tryd.params7] at ht
  have hm : t ∈ [26, 40] := by have := Array.mem_of_getElem? ht; simp at this; simp; omega
  have hall : ([26, 40].all fun u => !Tryd.prog.wantsStandIn u) = true := by kernel_rfl
  exact (show Tryd.prog.wantsStandIn t = false by simpa using List.all_eq_true.1 hall t hm)

theorem proved : Rows.SkipCopiesCardSaid :=
  Claim7.holds_tied_plain_at .later [] _ _ _ _ said (fun _ h => by cases h) (by kernel_rfl) (fun _ h => by cases h) skipCopies_row_tie rfl ⟨rfl, rfl⟩ (by kernel_rfl) rfl plain (by kernel_rfl)
end Go.Proofs.YtpfaoiickmpmjaaDoor.skipCopies
