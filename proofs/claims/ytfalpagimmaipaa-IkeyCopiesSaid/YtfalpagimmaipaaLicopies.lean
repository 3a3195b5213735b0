/- IkeyCopies: a copy is the entry, in memory of its own. -/
import Derived.Test.YtfalpagimmaipaaIrcopy
import Derived.Test.YtfalpagimmaipaaLireads
import Derived.Test.YtfalpagimmaipaaIrefb
import Derived.Laws.BitsAllLaws
namespace Go.Proofs.Ytfalpagimmaipaa.ikeyCopies
open Go.ChangeShapes Go.WideShapes Go.ChangeAt Go.RowKit Go.Proofs.Ytfalpagimmaipaa.ikeyReads

theorem frozen_ext {w u : World} {p : Addr} {v : Value} (hc : w.cell? p = some v) (hf : w.frozen? p = false) (h : Ext w u) : u.frozen? p = false := by
  have hb := h.block p.block (World.block_lt_of_cell? _ _ hc)
  unfold World.frozen? at *
  rw [hb]; exact hf
theorem row_later {w u : World} {ro : Option Nat} {A : Option Addr} {n : Nat} (h : Row w ro A n) (hx : Ext w u) : Row u ro A n := by
  intro j hj
  obtain ⟨g, e1, e2, ⟨x, hx1, hc⟩, hf⟩ := h j hj
  exact ⟨g, e1, e2, ⟨x, hx1, ext_cell hx hc⟩, frozen_ext hc hf hx⟩

set_option maxRecDepth 100000 in
set_option maxHeartbeats 8000000 in
theorem walk (W : World) (e : Ent) (g0 : Hd) (he : Em W 0 W.heap.size e g0) (l1 : e.key.length ≤ 140737488351232) (l2 : e.val.length ≤ 140737488351232) :
    Calls Try.prog 10 #[e.at_ g0] W fun x w' => x = .returned (.bool true) ∧ Below W.heap.size W w' := by
  obtain ⟨w1, hw1⟩ : ∃ w1, w1 = W.alloc (.cells #[.slice g0.kA e.key.length g0.kc, .int .i64 e.seq, .int .i64 e.kind, .slice g0.vA e.val.length g0.vc] 25) := ⟨_, rfl⟩
  have HX1 : Hid (Ext W w1) := by rw [hw1]; exact ext_alloc _ _
  have HZ1 : Hid (w1.heap.size = W.heap.size + 1) := by rw [hw1]; simp [Hid]
  have HB1 : Hid (w1.heap[W.heap.size]? = some (.cells #[.slice g0.kA e.key.length g0.kc, .int .i64 e.seq, .int .i64 e.kind, .slice g0.vA e.val.length g0.vc] 25 (0, 0))) := by rw [hw1]; exact heap_at _ _ rfl
  have HE := Lib.hid he
  have HL1 := Lib.hid (long_any (w := w1) (g := g0) l1 l2)
  obtain ⟨z1, hz1⟩ : ∃ z, z = decide (100000 < e.key.length + e.val.length) := ⟨_, rfl⟩
  have HZB := Lib.hid hz1
  clear he l1 l2
  unfold Ent.at_ at HL1 ⊢
  rw [← hz1] at HL1
  clear hz1
  go_enter Try.func10, Try.ntmps10
  go_wp2_with fail
  rw [← hw1]
  clear hw1
  refine Calls.mono HL1.out ?_
  rintro x w2 ⟨rfl, hx2⟩
  have HX2 := Lib.hid hx2
  clear hx2
  rcases z1 with _ | _
  rotate_left
  · go_wp2_with fail
    refine (known_any w2).mono ?_
    rintro x w3 ⟨rfl, hx3⟩
    have HX3 := Lib.hid (Ext.trans HX1.out (Ext.trans HX2.out hx3))
    clear hx3
    go_wp2_with fail
    go_ret
    exact ⟨rfl, HX3.out⟩
  · have HLEN : Hid (e.key.length + e.val.length ≤ 100000) := by have := of_decide_eq_false HZB.out.symm; unfold Hid; omega
    have HXW := Lib.hid (Ext.trans HX1.out HX2.out)
    have HBA := Lib.hid (ext_heap HX2.out HB1.out)
    have a0 := cell_of HBA.out (k := 0) rfl
    have a1 := cell_of HBA.out (k := 1) rfl
    have a2 := cell_of HBA.out (k := 2) rfl
    have a3 := cell_of HBA.out (k := 3) rfl
    have HRC := Lib.hid (rcopy_any (HE.out.below HXW.out (Nat.le_refl _)) HXW.out.size (by have := HLEN.out; omega) (by have := HLEN.out; omega))
    unfold Ent.at_ at HRC
    go_wp2_with fail
    refine HRC.out.mono ?_
    rintro x w3 ⟨hx3, g1, rfl, ho1, ho2⟩
    have HX3 : Hid (Ext w2 w3) := hx3
    have HE1 : Hid (Em w3 0 w3.heap.size e g1) := ⟨ho1.bs, ho2.bs, HE.out.bk, HE.out.bv, HE.out.s1, HE.out.s2, HE.out.d1, HE.out.d2⟩
    clear hx3 ho1 ho2 a0 a1 a2 a3 HRC
    unfold Ent.at_
    go_upto_region 4 with (fail)
    obtain ⟨w4, hw4⟩ : ∃ w4, w4 = w3.alloc (.cells #[.slice g1.kA e.key.length g1.kc, .int .i64 e.seq, .int .i64 e.kind, .slice g1.vA e.val.length g1.vc] 25) := ⟨_, rfl⟩
    rw [← hw4]
    have HX4 : Hid (Ext w3 w4) := by rw [hw4]; exact ext_alloc _ _
    have HB4 : Hid (w4.heap[w3.heap.size]? = some (.cells #[.slice g1.kA e.key.length g1.kc, .int .i64 e.seq, .int .i64 e.kind, .slice g1.vA e.val.length g1.vc] 25 (0, 0))) := by rw [hw4]; exact heap_at _ _ rfl
    have a0 := cell_of HB4.out (k := 0) rfl
    have a1 := cell_of HB4.out (k := 1) rfl
    have a2 := cell_of HB4.out (k := 2) rfl
    have a3 := cell_of HB4.out (k := 3) rfl
    have HRC := Lib.hid (copy_any (HE1.out.below HX4.out (Nat.le_refl _)) HX4.out.size (by have := HLEN.out; omega) (by have := HLEN.out; omega))
    unfold Ent.at_ at HRC
    clear hw4
    go_wp2_with fail
    refine HRC.out.mono ?_
    rintro x w5 ⟨hx5, g, rfl, ho1, ho2⟩
    have HX5 : Hid (Ext w4 w5) := hx5
    have HOK := Lib.hid ho1
    have HOV := Lib.hid ho2
    have HEM : Hid (Em w5 0 w5.heap.size e g) := ⟨ho1.bs, ho2.bs, HE.out.bk, HE.out.bv, HE.out.s1, HE.out.s2, HE.out.d1, HE.out.d2⟩
    clear hx5 ho1 ho2 a0 a1 a2 a3 HRC
    unfold Ent.at_
    go_upto_region 5 with (fail)
    obtain ⟨w6, hw6⟩ : ∃ w6, w6 = w5.alloc (.cells #[.slice g.kA e.key.length g.kc, .int .i64 e.seq, .int .i64 e.kind, .slice g.vA e.val.length g.vc] 25) := ⟨_, rfl⟩
    rw [← hw6]
    have HX6 : Hid (Ext w5 w6) := by rw [hw6]; exact ext_alloc _ _
    have HB6 : Hid (w6.heap[w5.heap.size]? = some (.cells #[.slice g.kA e.key.length g.kc, .int .i64 e.seq, .int .i64 e.kind, .slice g.vA e.val.length g.vc] 25 (0, 0))) := by rw [hw6]; exact heap_at _ _ rfl
    have HX36 : Hid (Ext w3 w6) := Ext.trans HX4.out (Ext.trans HX5.out HX6.out)
    have HX46 : Hid (Ext w4 w6) := Ext.trans HX5.out HX6.out
    have HX26 : Hid (Ext w2 w6) := Ext.trans HX3.out HX36.out
    have HEE : Hid (∀ u, Ext w6 u → Em u 0 w5.heap.size e g ∧ Em u 0 W.heap.size e g0 ∧ Em u 0 w3.heap.size e g1 ∧ w5.heap.size ≤ u.heap.size ∧ W.heap.size ≤ u.heap.size ∧ w3.heap.size ≤ u.heap.size) := fun u hu => by
      have h5 := Ext.trans HX6.out hu
      have h3 := Ext.trans HX36.out hu
      have h0 := Ext.trans HXW.out (Ext.trans HX26.out hu)
      exact ⟨HEM.out.below h5 (Nat.le_refl _), HE.out.below h0 (Nat.le_refl _), HE1.out.below h3 (Nat.le_refl _), h5.size, h0.size, h3.size⟩
    have HBE := Lib.hid (ext_heap HX26.out HBA.out)
    have HBO := Lib.hid (ext_heap HX46.out HB4.out)
    obtain ⟨m1, m2, m3, m4, m5, m6⟩ := HEE.out w6 (Ext.refl _)
    have HSA := Lib.hid (rsame_any m1 m2 m4 m5)
    unfold Ent.at_ at HSA
    clear hw6 m1 m2 m3 m4 m5 m6
    have a0 := cell_of HBE.out (k := 0) rfl
    have a1 := cell_of HBE.out (k := 1) rfl
    have a2 := cell_of HBE.out (k := 2) rfl
    have a3 := cell_of HBE.out (k := 3) rfl
    have b0 := cell_of HB6.out (k := 0) rfl
    have b1 := cell_of HB6.out (k := 1) rfl
    have b2 := cell_of HB6.out (k := 2) rfl
    have b3 := cell_of HB6.out (k := 3) rfl
    go_wp2_with fail
    refine HSA.out.mono ?_
    rintro x w7 ⟨z, hz, rfl, hx7⟩
    have hz1 : z = true := hz.2 (by trivial)
    subst hz1
    have HX7 : Hid (Ext w6 w7) := hx7
    have HBO7 := Lib.hid (ext_heap hx7 HBO.out)
    have HB7 := Lib.hid (ext_heap hx7 HB6.out)
    obtain ⟨m1, m2, m3, m4, m5, m6⟩ := HEE.out w7 hx7
    have HSB := Lib.hid (same_any m1 m3 m4 m6)
    unfold Ent.at_ at HSB
    clear hz hx7 a0 a1 a2 a3 b0 b1 b2 b3 m1 m2 m3 m4 m5 m6 HSA
    have a0 := cell_of HBO7.out (k := 0) rfl
    have a1 := cell_of HBO7.out (k := 1) rfl
    have a2 := cell_of HBO7.out (k := 2) rfl
    have a3 := cell_of HBO7.out (k := 3) rfl
    have b0 := cell_of HB7.out (k := 0) rfl
    have b1 := cell_of HB7.out (k := 1) rfl
    have b2 := cell_of HB7.out (k := 2) rfl
    have b3 := cell_of HB7.out (k := 3) rfl
    go_wp2_with fail
    refine HSB.out.mono ?_
    rintro x u ⟨z, hz, rfl, hx8⟩
    have hz1 : z = true := hz.2 (by trivial)
    subst hz1
    have HXU6 : Hid (Ext w6 u) := Ext.trans HX7.out hx8
    have HBU := Lib.hid (ext_heap hx8 HB7.out)
    have HBOU := Lib.hid (ext_heap HXU6.out HBO.out)
    have HBEU := Lib.hid (ext_heap HXU6.out HBE.out)
    clear hz hx8 a0 a1 a2 a3 b0 b1 b2 b3 HSB
    have HXU5 : Hid (Ext w5 u) := Ext.trans HX6.out HXU6.out
    have HXU : Hid (Ext W u) := Ext.trans HXW.out (Ext.trans HX26.out HXU6.out)
    have HRK : Hid (Row u (Value.slice g.kA e.key.length g.kc).ownBlock g.kA e.key.length) := (Row.of_own (HOK.out.below HXU5.out) HE.out.bk).2
    have HRV : Hid (Row u (Value.slice g.vA e.val.length g.vc).ownBlock g.vA e.val.length) := (Row.of_own (HOV.out.below HXU5.out) HE.out.bv).2
    have HLK := Lib.hid (row_lt HOK.out)
    have HLV := Lib.hid (row_lt HOV.out)
    have HS : Hid (W.heap.size < w4.heap.size ∧ w3.heap.size < w4.heap.size ∧ w4.heap.size ≤ w5.heap.size ∧ w5.heap.size < u.heap.size) := by
      have x1 := HZ1.out; have x2 := HX2.out.size; have x3 := HX3.out.size; have x4 := (Array.getElem?_eq_some_iff.1 HB4.out).1; have x5 := HX5.out.size; have x6 := (Array.getElem?_eq_some_iff.1 HBU.out).1
      exact Lib.hid ⟨by omega, x4, x5, x6⟩
    have HPU : Hid (∀ wr, Chg (fun i => w4.heap.size ≤ i ∧ i < w5.heap.size) u wr → wr.heap[W.heap.size]? = some (.cells #[.slice g0.kA e.key.length g0.kc, .int .i64 e.seq, .int .i64 e.kind, .slice g0.vA e.val.length g0.vc] 25 (0, 0)) ∧ wr.heap[w3.heap.size]? = some (.cells #[.slice g1.kA e.key.length g1.kc, .int .i64 e.seq, .int .i64 e.kind, .slice g1.vA e.val.length g1.vc] 25 (0, 0)) ∧ Em wr 0 W.heap.size e g0 ∧ Em wr 0 w3.heap.size e g1 ∧ W.heap.size ≤ wr.heap.size ∧ w3.heap.size ≤ wr.heap.size ∧ Ext W wr) := fun wr hc => by
      have hs := HS.out
      have hb := hc.below (B := w4.heap.size) (fun i h => h.1) (by omega)
      obtain ⟨m1, m2, m3, m4, m5, m6⟩ := HEE.out u HXU6.out
      have hsz := hb.size
      exact ⟨(hb.block _ hs.1).trans HBEU.out, (hb.block _ hs.2.1).trans HBOU.out, m2.below hb (by omega), m3.below hb (by omega), by omega, by omega, Below.trans HXU.out (hc.below (B := W.heap.size) (fun i h => by omega) HXU.out.size)⟩
    obtain ⟨ro, hro⟩ : ∃ ro, ro = (Value.slice g.kA e.key.length g.kc).ownBlock := ⟨_, rfl⟩
    obtain ⟨so, hso⟩ : ∃ so, so = (Value.slice g.vA e.val.length g.vc).ownBlock := ⟨_, rfl⟩
    rw [← hro] at HRK HLK
    rw [← hso] at HRV HLV
    obtain ⟨N, hN⟩ : ∃ N, N = e.key.length := ⟨_, rfl⟩
    obtain ⟨M, hM⟩ : ∃ M, M = e.val.length := ⟨_, rfl⟩
    have hNM : N ≤ 100000 ∧ M ≤ 100000 := by have := HLEN.out; omega
    rw [← hN] at HRK HBU
    rw [← hM] at HRV HBU
    have HP : Hid (∀ wr, Chg (fun i => w4.heap.size ≤ i ∧ i < w5.heap.size) u wr → wr.cell? ⟨w5.heap.size, 0, none⟩ = some (.slice g.kA N g.kc) ∧ wr.cell? ⟨w5.heap.size, 3, none⟩ = some (.slice g.vA M g.vc)) := fun wr hc => by
      have hh := (hc.block w5.heap.size HS.out.2.2.2 (by omega)).trans HBU.out
      exact ⟨cell_of hh (k := 0) rfl, cell_of hh (k := 3) rfl⟩
    clear hro hso hN hM HOK HOV HEM HEE HE1 HE HB1 HBA HB4 HB6 HB7 HBO HBO7 HBE HBOU HBEU HBU HX1 HX3 HX4 HX5 HX6 HX7 HX36 HX46 HX26 HXU5 HXU6 HL1
    go_wp2_with fail
    go_loopw [5] (fun x wr => ∃ k : Nat, k ≤ N ∧ x = .int .i64 (k : Int) ∧ Hid (Row wr ro g.kA N) ∧ Hid (Row wr so g.vA M) ∧ Hid (Chg (fun i => w4.heap.size ≤ i ∧ i < w5.heap.size) u wr)) (fun x _ => N - (intOf x).toNat)
    case atStart => exact ⟨0, Nat.zero_le _, rfl, HRK, HRV, Lib.hid (Chg.refl _ _)⟩
    case round =>
      clear HRK HRV
      obtain ⟨k, hk, rfl, HRK, HRV, HC⟩ := hrel
      have qc := (HP.out _ HC.out).1
      by_cases hlt : k < N
      · obtain ⟨gg, hrog, hAg, ⟨x, hx, hcell⟩, hfz⟩ := HRK.out k hlt
        rw [hAg] at qc
        have e1 : decide ((k : Int) < (N : Int)) = true := decide_eq_true (by omega)
        have e1n : decide (k < N) = true := decide_eq_true hlt
        have HG := Lib.hid hrog
        have hxr : bits .xor .u8 (x : Int) 1 = ((x ^^^ 1 : Nat) : Int) := u8_xor_nat x 1 hx (by omega)
        have HXL : Hid (x ^^^ 1 < 256) := Nat.xor_lt_two_pow (n := 8) hx (by omega)
        have n1 : (0 : Int) ≤ (k : Int) := by omega
        have n2 : (k : Int) < (N : Int) := by omega
        clear hrog hx hAg
        go_upto_region 10 with (fail)
        refine flow_tail (by kernel_rfl) [Is (.pointer (some ⟨w5.heap.size, 0, none⟩)), Is (.slice (some ⟨gg, 0, none⟩) N g.kc), Is (.int .i64 (k : Int)), Is (.pointer (some ⟨w5.heap.size, 0, none⟩)), Is (.slice (some ⟨gg, 0, none⟩) N g.kc), Is (.int .i64 (k : Int)), Is (.pointer (some ⟨gg, k, none⟩)), Is (.int .u8 (x : Int)), Is (.int .u8 ((x ^^^ 1 : Nat) : Int)), Is (.pointer (some ⟨gg, k, none⟩))] 10 (by kernel_rfl) (by kernel_rfl) (by kernel_rfl) (by kernel_rfl) ?mono (fun f1 => ?obl) ?fin
        case mono =>
          simp only [List.forall_mem_cons, List.not_mem_nil, false_imp_iff, implies_true, and_true]
          exact ⟨.is _, .is _, .is _, .is _, .is _, .is _, .is _, .is _, .is _, .is _⟩
        case fin =>
          intro g1 u1 hu hg
          simp only [List.take_succ_cons, List.take_zero, List.drop_succ_cons, List.drop_zero, puts, Act.put, List.setIfInBounds_toArray, List.set_cons_zero, List.set_cons_succ]
          have h8 : g1 8 = .int .u8 ((x ^^^ 1 : Nat) : Int) := hg 8 (by decide)
          have h9 : g1 9 = .pointer (some ⟨gg, k, none⟩) := hg 9 (by decide)
          rw [h8, h9]
          have hu2 := Ext.trans (Ext.drew wr) hu
          have hc2 := ext_cell hu2 hcell
          have hf2 : u1.frozen? ⟨gg, k, none⟩ = false := frozen_ext hcell hfz hu2
          have HR1 : Hid (Row u1 ro g.kA N) := row_later HRK.out hu2
          have HR2 : Hid (Row u1 so g.vA M) := row_later HRV.out hu2
          have HC2 : Hid (Chg (fun i => w4.heap.size ≤ i ∧ i < w5.heap.size) u u1) := HC.out.trans (Chg.of_ext hu2)
          clear h8 h9 hg hu hu2 qc hcell hfz
          go_wp2_with fail
          go_roundw
          case rel => exact ⟨k + 1, by omega, by go_num, Lib.hid (HR1.out.set HXL.out), Lib.hid (HR2.out.set HXL.out), Lib.hid (HC2.out.trans (Chg.setCell _ _ _ (HLK.out gg HG.out)))⟩
          case measure => simp [intOf]; omega
        case obl =>
          refine ⟨fun u2 hu hd => ?_, ?_⟩
          · go_simp
            exact ⟨Ext.refl _, rfl⟩
          refine ⟨fun u2 hu hd => ?_, ?_⟩
          · simp only [Act.put, List.setIfInBounds_toArray, List.set_cons_zero, List.set_cons_succ]
            have e0 : f1 0 = .pointer (some ⟨w5.heap.size, 0, none⟩) := hd 0 (by kernel_rfl)
            have hu2 := Ext.trans (Ext.drew wr) hu
            have q0 := ext_cell hu2 qc
            go_simp
            exact ⟨Ext.refl _, rfl⟩
          refine ⟨fun u2 hu hd => ?_, ?_⟩
          · simp only [Act.put, List.setIfInBounds_toArray, List.set_cons_zero, List.set_cons_succ]
            go_simp
            exact ⟨Ext.refl _, rfl⟩
          refine ⟨fun u2 hu hd => ?_, ?_⟩
          · simp only [Act.put, List.setIfInBounds_toArray, List.set_cons_zero, List.set_cons_succ]
            go_simp
            exact ⟨Ext.refl _, rfl⟩
          refine ⟨fun u2 hu hd => ?_, ?_⟩
          · simp only [Act.put, List.setIfInBounds_toArray, List.set_cons_zero, List.set_cons_succ]
            have e3 : f1 3 = .pointer (some ⟨w5.heap.size, 0, none⟩) := hd 3 (by kernel_rfl)
            have hu2 := Ext.trans (Ext.drew wr) hu
            have q0 := ext_cell hu2 qc
            go_simp
            exact ⟨Ext.refl _, rfl⟩
          refine ⟨fun u2 hu hd => ?_, ?_⟩
          · simp only [Act.put, List.setIfInBounds_toArray, List.set_cons_zero, List.set_cons_succ]
            go_simp
            exact ⟨Ext.refl _, rfl⟩
          refine ⟨fun u2 hu hd => ?_, ?_⟩
          · simp only [Act.put, List.setIfInBounds_toArray, List.set_cons_zero, List.set_cons_succ]
            have e4 : f1 4 = .slice (some ⟨gg, 0, none⟩) N g.kc := hd 4 (by kernel_rfl)
            have e5 : f1 5 = .int .i64 (k : Int) := hd 5 (by kernel_rfl)
            go_simp
            exact ⟨Ext.refl _, rfl⟩
          refine ⟨fun u2 hu hd => ?_, ?_⟩
          · simp only [Act.put, List.setIfInBounds_toArray, List.set_cons_zero, List.set_cons_succ]
            have e6 : f1 6 = .pointer (some ⟨gg, k, none⟩) := hd 6 (by kernel_rfl)
            have hu2 := Ext.trans (Ext.drew wr) hu
            have q0 := ext_cell hu2 hcell
            go_simp
            exact ⟨Ext.refl _, rfl⟩
          refine ⟨fun u2 hu hd => ?_, ?_⟩
          · simp only [Act.put, List.setIfInBounds_toArray, List.set_cons_zero, List.set_cons_succ]
            have e7 : f1 7 = .int .u8 (x : Int) := hd 7 (by kernel_rfl)
            go_simp
            exact ⟨Ext.refl _, rfl⟩
          refine ⟨fun u2 hu hd => ?_, ?_⟩
          · simp only [Act.put, List.setIfInBounds_toArray, List.set_cons_zero, List.set_cons_succ]
            have e1 : f1 1 = .slice (some ⟨gg, 0, none⟩) N g.kc := hd 1 (by kernel_rfl)
            have e2 : f1 2 = .int .i64 (k : Int) := hd 2 (by kernel_rfl)
            go_simp
            exact ⟨Ext.refl _, rfl⟩
          trivial
      · have e1 : decide ((k : Int) < (N : Int)) = false := decide_eq_false (by omega)
        have e1n : decide (k < N) = false := decide_eq_false hlt
        clear hlt hk
        go_wp2_with fail
        go_loopw [6] (fun x wr => ∃ k : Nat, k ≤ M ∧ x = .int .i64 (k : Int) ∧ Hid (Row wr ro g.kA N) ∧ Hid (Row wr so g.vA M) ∧ Hid (Chg (fun i => w4.heap.size ≤ i ∧ i < w5.heap.size) u wr)) (fun x _ => M - (intOf x).toNat)
        case atStart => exact ⟨0, Nat.zero_le _, rfl, HRK, HRV, HC⟩
        case round =>
          clear HRK HRV HC qc
          obtain ⟨k, hk, rfl, HRK, HRV, HC⟩ := hrel
          have qc := (HP.out _ HC.out).2
          by_cases hlt : k < M
          · obtain ⟨gg, hrog, hAg, ⟨x, hx, hcell⟩, hfz⟩ := HRV.out k hlt
            rw [hAg] at qc
            have e1 : decide ((k : Int) < (M : Int)) = true := decide_eq_true (by omega)
            have e1n : decide (k < M) = true := decide_eq_true hlt
            have HG := Lib.hid hrog
            have hxr : bits .xor .u8 (x : Int) 1 = ((x ^^^ 1 : Nat) : Int) := u8_xor_nat x 1 hx (by omega)
            have HXL : Hid (x ^^^ 1 < 256) := Nat.xor_lt_two_pow (n := 8) hx (by omega)
            have n1 : (0 : Int) ≤ (k : Int) := by omega
            have n2 : (k : Int) < (M : Int) := by omega
            clear hrog hx hAg
            go_upto_region 14 with (fail)
            refine flow_tail (by kernel_rfl) [Is (.pointer (some ⟨w5.heap.size, 3, none⟩)), Is (.slice (some ⟨gg, 0, none⟩) M g.vc), Is (.int .i64 (k : Int)), Is (.pointer (some ⟨w5.heap.size, 3, none⟩)), Is (.slice (some ⟨gg, 0, none⟩) M g.vc), Is (.int .i64 (k : Int)), Is (.pointer (some ⟨gg, k, none⟩)), Is (.int .u8 (x : Int)), Is (.int .u8 ((x ^^^ 1 : Nat) : Int)), Is (.pointer (some ⟨gg, k, none⟩))] 10 (by kernel_rfl) (by kernel_rfl) (by kernel_rfl) (by kernel_rfl) ?mono (fun f1 => ?obl) ?fin
            case mono =>
              simp only [List.forall_mem_cons, List.not_mem_nil, false_imp_iff, implies_true, and_true]
              exact ⟨.is _, .is _, .is _, .is _, .is _, .is _, .is _, .is _, .is _, .is _⟩
            case fin =>
              intro g1 u1 hu hg
              simp only [List.take_succ_cons, List.take_zero, List.drop_succ_cons, List.drop_zero, puts, Act.put, List.setIfInBounds_toArray, List.set_cons_zero, List.set_cons_succ]
              have h8 : g1 8 = .int .u8 ((x ^^^ 1 : Nat) : Int) := hg 8 (by decide)
              have h9 : g1 9 = .pointer (some ⟨gg, k, none⟩) := hg 9 (by decide)
              rw [h8, h9]
              have hu2 := Ext.trans (Ext.drew wr) hu
              have hc2 := ext_cell hu2 hcell
              have hf2 : u1.frozen? ⟨gg, k, none⟩ = false := frozen_ext hcell hfz hu2
              have HR1 : Hid (Row u1 ro g.kA N) := row_later HRK.out hu2
              have HR2 : Hid (Row u1 so g.vA M) := row_later HRV.out hu2
              have HC2 : Hid (Chg (fun i => w4.heap.size ≤ i ∧ i < w5.heap.size) u u1) := HC.out.trans (Chg.of_ext hu2)
              clear h8 h9 hg hu hu2 qc hcell hfz
              go_wp2_with fail
              go_roundw
              case rel => exact ⟨k + 1, by omega, by go_num, Lib.hid (HR1.out.set HXL.out), Lib.hid (HR2.out.set HXL.out), Lib.hid (HC2.out.trans (Chg.setCell _ _ _ (HLV.out gg HG.out)))⟩
              case measure => simp [intOf]; omega
            case obl =>
              refine ⟨fun u2 hu hd => ?_, ?_⟩
              · go_simp
                exact ⟨Ext.refl _, rfl⟩
              refine ⟨fun u2 hu hd => ?_, ?_⟩
              · simp only [Act.put, List.setIfInBounds_toArray, List.set_cons_zero, List.set_cons_succ]
                have e0 : f1 0 = .pointer (some ⟨w5.heap.size, 3, none⟩) := hd 0 (by kernel_rfl)
                have hu2 := Ext.trans (Ext.drew wr) hu
                have q0 := ext_cell hu2 qc
                go_simp
                exact ⟨Ext.refl _, rfl⟩
              refine ⟨fun u2 hu hd => ?_, ?_⟩
              · simp only [Act.put, List.setIfInBounds_toArray, List.set_cons_zero, List.set_cons_succ]
                go_simp
                exact ⟨Ext.refl _, rfl⟩
              refine ⟨fun u2 hu hd => ?_, ?_⟩
              · simp only [Act.put, List.setIfInBounds_toArray, List.set_cons_zero, List.set_cons_succ]
                go_simp
                exact ⟨Ext.refl _, rfl⟩
              refine ⟨fun u2 hu hd => ?_, ?_⟩
              · simp only [Act.put, List.setIfInBounds_toArray, List.set_cons_zero, List.set_cons_succ]
                have e3 : f1 3 = .pointer (some ⟨w5.heap.size, 3, none⟩) := hd 3 (by kernel_rfl)
                have hu2 := Ext.trans (Ext.drew wr) hu
                have q0 := ext_cell hu2 qc
                go_simp
                exact ⟨Ext.refl _, rfl⟩
              refine ⟨fun u2 hu hd => ?_, ?_⟩
              · simp only [Act.put, List.setIfInBounds_toArray, List.set_cons_zero, List.set_cons_succ]
                go_simp
                exact ⟨Ext.refl _, rfl⟩
              refine ⟨fun u2 hu hd => ?_, ?_⟩
              · simp only [Act.put, List.setIfInBounds_toArray, List.set_cons_zero, List.set_cons_succ]
                have e4 : f1 4 = .slice (some ⟨gg, 0, none⟩) M g.vc := hd 4 (by kernel_rfl)
                have e5 : f1 5 = .int .i64 (k : Int) := hd 5 (by kernel_rfl)
                go_simp
                exact ⟨Ext.refl _, rfl⟩
              refine ⟨fun u2 hu hd => ?_, ?_⟩
              · simp only [Act.put, List.setIfInBounds_toArray, List.set_cons_zero, List.set_cons_succ]
                have e6 : f1 6 = .pointer (some ⟨gg, k, none⟩) := hd 6 (by kernel_rfl)
                have hu2 := Ext.trans (Ext.drew wr) hu
                have q0 := ext_cell hu2 hcell
                go_simp
                exact ⟨Ext.refl _, rfl⟩
              refine ⟨fun u2 hu hd => ?_, ?_⟩
              · simp only [Act.put, List.setIfInBounds_toArray, List.set_cons_zero, List.set_cons_succ]
                have e7 : f1 7 = .int .u8 (x : Int) := hd 7 (by kernel_rfl)
                go_simp
                exact ⟨Ext.refl _, rfl⟩
              refine ⟨fun u2 hu hd => ?_, ?_⟩
              · simp only [Act.put, List.setIfInBounds_toArray, List.set_cons_zero, List.set_cons_succ]
                have e1 : f1 1 = .slice (some ⟨gg, 0, none⟩) M g.vc := hd 1 (by kernel_rfl)
                have e2 : f1 2 = .int .i64 (k : Int) := hd 2 (by kernel_rfl)
                go_simp
                exact ⟨Ext.refl _, rfl⟩
              trivial
          · have e1 : decide ((k : Int) < (M : Int)) = false := decide_eq_false (by omega)
            have e1n : decide (k < M) = false := decide_eq_false hlt
            clear hlt hk
            obtain ⟨k1, k2, m2, m3, s2, s3, hxx⟩ := HPU.out wr HC.out
            have HSA := Lib.hid (rsame_any m3 m2 s3 s2)
            have HXX : Hid (Ext W wr) := hxx
            unfold Ent.at_ at HSA
            have a0 := cell_of k1 (k := 0) rfl
            have a1 := cell_of k1 (k := 1) rfl
            have a2 := cell_of k1 (k := 2) rfl
            have a3 := cell_of k1 (k := 3) rfl
            have b0 := cell_of k2 (k := 0) rfl
            have b1 := cell_of k2 (k := 1) rfl
            have b2 := cell_of k2 (k := 2) rfl
            have b3 := cell_of k2 (k := 3) rfl
            clear k1 k2 m2 m3 s2 s3 hxx HPU HP HRK HRV HC
            go_wp2_with fail
            refine HSA.out.mono ?_
            rintro x w8 ⟨z, hz, rfl, hx8⟩
            have hz1 : z = true := hz.2 (by trivial)
            subst hz1
            have HX8 : Hid (Ext W w8) := Ext.trans HXX.out hx8
            clear hz hx8 a0 a1 a2 a3 b0 b1 b2 b3
            go_wp2_with fail
            refine (known_any w8).mono ?_
            rintro x w9 ⟨rfl, hb⟩
            have HZ : Hid (Ext W w9) := Ext.trans HX8.out hb
            clear hb
            go_wp2_with fail
            go_ret
            exact ⟨rfl, HZ.out⟩
end Go.Proofs.Ytfalpagimmaipaa.ikeyCopies
