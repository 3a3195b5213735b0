import Derived.Test.YtkdidghfcfcpfaaGreatMb17
import Derived.Test.YtkdidghfcfcpfaaGreatMb14
import Derived.Deep.DeepCutAuto
import Derived.Test.YtkdidghfcfcpfaaGreatMb9
import Derived.Test.YtkdidghfcfcpfaaGreatMb10
import Derived.Maps.AppendAt
import Derived.Test.YtkdidghfcfcpfaaGreatMb12
import Derived.Test.YtkdidghfcfcpfaaGreatMb8
import Derived.Test.YtkdidghfcfcpfaaGreatMb0
namespace Go.Proofs.YtkdidghfcfcpfaaGreat
open Go.ChangeShapes Go.WideShapes Go.ChangeAt Go.RowKit
theorem rview_ret {fn : Func} (hr : fn.results = #[.cell 8 45]) {tmps : Array Value} {w : World} {g : Nat} {c : Array Value} {R : Ending → World → Prop} (h2 : tmps.getD 8 undef = .pointer (some ⟨g, 0, none⟩)) (hg : w.heap[g]? = some (.cells c 45 (0, 0))) (hc : c.size = 4) (h : R (.returned (.agg c)) w) :
    bodyPost Tryz.prog fn R .ret { tmps := tmps, defers := [] } w := by
 have hi : (Tryz.prog.info? 45).map (·.size) = some 4 := by kernel_rfl
 exact ⟨rfl, .agg c, results_cell_row hr _ _ _ _ _ _ _ h2 hg Tryz.underlying45 rfl (by rw [hc]; exact hi), h⟩
def RClipAns (w : World) (H : Nat) (A : Option Addr) (n c : Nat) (fr tt a b : List Nat) (en e : Bool) (x : Ending) (w' : World) : Prop :=
 Ext w w' ∧ ∃ (fA : Option Addr) (fc : Nat) (tA : Option Addr) (tc : Nat), x = .returned (.agg #[.slice A n c, .slice fA (clipF fr a).length fc, .slice tA (clipT tt en b e).length tc, .bool (clipE en e)]) ∧ Bs w' 0 H (.slice fA (clipF fr a).length fc) (clipF fr a) ∧ Bs w' 0 H (.slice tA (clipT tt en b e).length tc) (clipT tt en b e)
theorem rclip_of {w w' : World} {H : Nat} {A : Option Addr} {n c : Nat} {fr tt a b fr1 t1 : List Nat} {en e e1 : Bool} {fA tA : Option Addr} {fc tc : Nat} (h1 : fr1 = clipF fr a) (h2 : t1 = clipT tt en b e) (h3 : e1 = clipE en e) (hx : Ext w w') (hH : H ≤ w.heap.size) (hf : Bs w 0 H (.slice fA fr1.length fc) fr1) (ht : Bs w 0 H (.slice tA t1.length tc) t1) :
    RClipAns w H A n c fr tt a b en e (.returned (.agg #[.slice A n c, .slice fA fr1.length fc, .slice tA t1.length tc, .bool e1])) w' := by
 subst h1 h2 h3
 exact ⟨hx, fA, fc, tA, tc, rfl, hf.below hx hH, ht.below hx hH⟩
set_option maxRecDepth 100000 in
set_option maxHeartbeats 8000000 in
theorem rvclip_any {w : World} {H n c fc tc ac bc : Nat} {A fA tA aA bA : Option Addr} {fr tt a b : List Nat} {en e : Bool} (hf : Bs w 0 H (.slice fA fr.length fc) fr) (bf : ∀ x ∈ fr, x < 256) (ht : Bs w 0 H (.slice tA tt.length tc) tt) (bt : ∀ x ∈ tt, x < 256) (ha : Bs w 0 H (.slice aA a.length ac) a) (ba : ∀ x ∈ a, x < 256) (hb : Bs w 0 H (.slice bA b.length bc) b) (bb : ∀ x ∈ b, x < 256) (hH : H ≤ w.heap.size) (l1 : fr.length ≤ 140737488351232) (l2 : tt.length ≤ 140737488351232) (l3 : a.length ≤ 140737488351232) (l4 : b.length ≤ 140737488351232) :
    Calls Tryz.prog 51 #[.agg #[.slice A n c, .slice fA fr.length fc, .slice tA tt.length tc, .bool en], .slice aA a.length ac, .slice bA b.length bc, .bool e] w (RClipAns w H A n c fr tt a b en e) := by
 obtain ⟨w1, hw1⟩ : ∃ w1, w1 = ((w.alloc (.cells #[.slice A n c, .slice fA fr.length fc, .slice tA tt.length tc, .bool en] 45)).alloc (.cells #[.slice none 0 0, .slice none 0 0, .slice none 0 0, .bool false] 45)).alloc (.cells #[.slice A n c, .slice fA fr.length fc, .slice tA tt.length tc, .bool en] 45) := ⟨_, rfl⟩
 have HX1 : Hid (Ext w w1) := by rw [hw1]; exact zEt (zEt (ext_alloc _ _) (ext_alloc _ _)) (ext_alloc _ _)
 have HR1 : Hid (w1.heap[w.heap.size + 1]? = some (.cells #[.slice none 0 0, .slice none 0 0, .slice none 0 0, .bool false] 45 (0, 0))) := by rw [hw1]; exact ext_heap (ext_alloc _ _) (heap_at _ _ (by simp))
 have HB1 : Hid (w1.heap[w.heap.size + 2]? = some (.cells #[.slice A n c, .slice fA fr.length fc, .slice tA tt.length tc, .bool en] 45 (0, 0))) := by rw [hw1]; exact heap_at _ _ (by simp)
 have HF := zHd hf
 have HT := zHd ht
 have HA := zHd ha
 have HBB := zHd hb
 have HH := zHd hH
 have HK := zHd (rkeys_any ((ha.below HX1.out hH)) ((hf.below HX1.out hH)) ba bf (zNt hH HX1.out.size) (zNt hH HX1.out.size) l3 l1)
 have HK2 : Hid (∀ u, Ext w u → Calls Tryz.prog 60 #[.slice bA b.length bc, .slice tA tt.length tc] u fun x w' => x = .returned (.int .i64 (cmpK b tt)) ∧ Ext u w') := fun u hu => rkeys_any (hb.below hu hH) (ht.below hu hH) bb bt (zNt hH hu.size) (zNt hH hu.size) l4 l2
 have c1 := cell_of HB1.out (k := 1) rfl
 obtain ⟨s, hs⟩ : ∃ s, s = cmpK a fr := ⟨_, rfl⟩
 obtain ⟨s2, hs2⟩ : ∃ s2, s2 = cmpK b tt := ⟨_, rfl⟩
 have HS := zHd hs
 have HS2 := zHd hs2
 rw [← hs] at HK
 rw [← hs2] at HK2
 clear hf ht bt ha ba hb bb bf hs hs2 hH l1 l2 l3 l4
 go_enter Tryz.func51, Tryz.ntmps51
 go_upto_region 2 with (fail)
 rw [← hw1]
 clear hw1
 go_wp2_with fail
 refine HK.out.mono ?_
 rintro x w2 ⟨rfl, hx2⟩
 have HX2 : Hid (Ext w w2) := zEt HX1.out hx2
 have HB2 := zHd (ext_heap hx2 HB1.out)
 have HR2 := zHd (ext_heap hx2 HR1.out)
 clear hx2 c1 HK
 go_upto_if 15 with (fail)
 go_cut [9] (fun v wx => v = .pointer (some ⟨w.heap.size + 2, 0, none⟩) ∧ ∃ (f1 : List Nat) (F : Option Addr) (fc1 : Nat), Hid (f1 = clipF fr a ∧ Bs w 0 H (.slice F f1.length fc1) f1 ∧ Ext w wx) ∧ Hid (wx.heap[w.heap.size + 1]? = some (.cells #[.slice none 0 0, .slice none 0 0, .slice none 0 0, .bool false] 45 (0, 0))) ∧ Hid (wx.heap[w.heap.size + 2]? = some (.cells #[.slice A n c, .slice F f1.length fc1, .slice tA tt.length tc, .bool en] 45 (0, 0))))
 case first =>
  by_cases hlt : 0 < s
  · have d : decide (0 < s) = true := decide_eq_true hlt
    have HFR : Hid (a = clipF fr a) := by unfold clipF; rw [if_pos (by have h1 := HS.out; have h2 := cmpK_turn a fr; omega)]; exact rfl
    have y1 := frozen_four (j := 1) HB2.out
    have p1 := cell_of HB2.out (k := 1) rfl
    clear hlt
    rw [d]
    go_wp2_with fail
    go_meet
    case rel => exact ⟨rfl, a, aA, ac, ⟨HFR.out, HA.out, Below.setCell HX2.out (show w.heap.size ≤ w.heap.size + 2 by omega) _⟩, (Below.heap_setCell _ _ _ _ (by show w.heap.size + 1 ≠ w.heap.size + 2; omega)).trans HR2.out, heap_setCell_same _ _ _ _ _ _ HB2.out⟩
  · have d : decide (0 < s) = false := decide_eq_false hlt
    have HFR : Hid (fr = clipF fr a) := by unfold clipF; rw [if_neg (by have h1 := HS.out; have h2 := cmpK_turn a fr; omega)]; exact rfl
    clear hlt
    rw [d]
    go_wp2_with fail
    go_meet
    case rel => exact ⟨rfl, fr, fA, fc, ⟨HFR.out, HF.out, HX2.out⟩, HR2.out, HB2.out⟩
 case rest =>
 obtain ⟨rfl, f1, F, fc1, HFF, HRU, HBU⟩ := hcut
 clear HB1 HR1 HB2 HR2
 obtain ⟨z, hz⟩ : ∃ z, z = (e && !endsV tt en b) := ⟨_, rfl⟩
 have HZ := zHd hz
 clear hz
 go_upto_region 4 with (fail)
 go_cut [30] (fun v wx => v = .bool z ∧ Hid (Ext wc wx))
 case first =>
  have x2 := cell_of HBU.out (k := 2) rfl
  have x3 := cell_of HBU.out (k := 3) rfl
  cases e with
  | false =>
   go_wp2_with fail
   go_meet
   case rel => exact ⟨by rw [HZ.out]; rfl, Ext.refl _⟩
  | true =>
   cases en with
   | false =>
    go_wp2_with fail
    go_meet
    case rel => exact ⟨by rw [HZ.out]; rfl, Ext.refl _⟩
   | true =>
    have HKU := zHd (HK2.out wc HFF.out.2.2)
    obtain ⟨y, hy⟩ : ∃ y, y = decide (s2 < 0) := ⟨_, rfl⟩
    have HY := zHd hy
    have hy2 := hy.symm
    have hzy : z = y := by
     rw [HZ.out, hy]
     have h2 := HS2.out
     have h3 := cmpK_turn b tt
     unfold endsV
     by_cases h4 : s2 < 0
     · rw [decide_eq_true h4, decide_eq_false (show ¬ cmpK tt b ≤ 0 by omega)]; rfl
     · rw [decide_eq_false h4, decide_eq_true (show cmpK tt b ≤ 0 by omega)]; rfl
    have HZY := zHd hzy
    clear hy hzy
    go_wp2_with fail
    refine HKU.out.mono ?_
    rintro x v2 ⟨rfl, hx2⟩
    have HXV := zHd hx2
    clear hx2
    go_wp2_with fail
    go_meet
    case rel => exact ⟨by rw [HZY.out], HXV.out⟩
 case rest =>
 rename_i w3
 obtain ⟨rfl, HX3⟩ := hcut
 have HXW : Hid (Ext w wc) := zEt HFF.out.2.2 HX3.out
 have HB3 := zHd (ext_heap HX3.out HBU.out)
 have HR3 := zHd (ext_heap HX3.out HRU.out)
 clear HBU HRU
 go_upto_if 30 with (fail)
 go_cut [9] (fun v wx => v = .pointer (some ⟨w.heap.size + 2, 0, none⟩) ∧ ∃ (t1 : List Nat) (U : Option Addr) (tc1 : Nat), Hid (t1 = clipT tt en b e ∧ Bs w 0 H (.slice U t1.length tc1) t1 ∧ Ext w wx) ∧ Hid (wx.heap[w.heap.size + 1]? = some (.cells #[.slice none 0 0, .slice none 0 0, .slice none 0 0, .bool false] 45 (0, 0))) ∧ Hid (wx.heap[w.heap.size + 2]? = some (.cells #[.slice A n c, .slice F f1.length fc1, .slice U t1.length tc1, .bool en] 45 (0, 0))))
 case first =>
  cases z with
  | true =>
   have y2 := frozen_four (j := 2) HB3.out
   have p2 := cell_of HB3.out (k := 2) rfl
   go_wp2_with fail
   go_meet
   case rel => exact ⟨rfl, b, bA, bc, ⟨by unfold clipT; rw [← HZ.out]; exact rfl, HBB.out, Below.setCell HXW.out (show w.heap.size ≤ w.heap.size + 2 by omega) _⟩, (Below.heap_setCell _ _ _ _ (by show w.heap.size + 1 ≠ w.heap.size + 2; omega)).trans HR3.out, heap_setCell_same _ _ _ _ _ _ HB3.out⟩
  | false =>
   go_wp2_with fail
   go_meet
   case rel => exact ⟨rfl, tt, tA, tc, ⟨by unfold clipT; rw [← HZ.out]; exact rfl, HT.out, HXW.out⟩, HR3.out, HB3.out⟩
 case rest =>
 obtain ⟨rfl, t1, U, tc1, HTT, HR4, HB4⟩ := hcut
 clear HB3 HR3 HXW HX3
 cases en with
 | false =>
  have p3 := cell_of HB4.out (k := 3) rfl
  have y3 := frozen_four (j := 3) HB4.out
  go_upto_region 7 with (fail)
  obtain ⟨v6, hv6⟩ : ∃ v6, v6 = wc.setCell ⟨w.heap.size + 2, 3, none⟩ (.bool e) := ⟨_, rfl⟩
  rw [← hv6]
  have HX6 : Hid (Ext w v6) := by rw [hv6]; exact Below.setCell HTT.out.2.2 (show w.heap.size ≤ w.heap.size + 2 by omega) _
  have HB6 : Hid (v6.heap[w.heap.size + 2]? = some (.cells #[.slice A n c, .slice F f1.length fc1, .slice U t1.length tc1, .bool e] 45 (0, 0))) := by rw [hv6]; exact heap_setCell_same _ _ _ _ _ _ HB4.out
  have HR6 : Hid (v6.heap[w.heap.size + 1]? = some (.cells #[.slice none 0 0, .slice none 0 0, .slice none 0 0, .bool false] 45 (0, 0))) := by rw [hv6]; exact (Below.heap_setCell _ _ _ _ (by show w.heap.size + 1 ≠ w.heap.size + 2; omega)).trans HR4.out
  clear hv6 p3 y3
  have b0 := cell_of HB6.out (k := 0) rfl
  have q0 := cell_of HR6.out (k := 0) rfl
  have z0 := frozen_four (j := 0) HR6.out
  have b1 := cell_of HB6.out (k := 1) rfl
  have q1 := cell_of HR6.out (k := 1) rfl
  have z1 := frozen_four (j := 1) HR6.out
  have b2 := cell_of HB6.out (k := 2) rfl
  have q2 := cell_of HR6.out (k := 2) rfl
  have z2 := frozen_four (j := 2) HR6.out
  have b3 := cell_of HB6.out (k := 3) rfl
  have q3 := cell_of HR6.out (k := 3) rfl
  have z3 := frozen_four (j := 3) HR6.out
  go_wp2_with fail
  refine rview_ret rfl rfl (set_four HR6.out) rfl (rclip_of HFF.out.1 HTT.out.1 (Bool.false_or e).symm (Below.trans HX6.out ((chg_four _ _ _ _ _ _).below (fun i hi => by rw [hi]; omega) HX6.out.size)) HH.out HFF.out.2.1 HTT.out.2.1)
 | true =>
  have p3 := cell_of HB4.out (k := 3) rfl
  have y3 := frozen_four (j := 3) HB4.out
  go_upto_region 7 with (fail)
  obtain ⟨v6, hv6⟩ : ∃ v6, v6 = wc.setCell ⟨w.heap.size + 2, 3, none⟩ (.bool true) := ⟨_, rfl⟩
  rw [← hv6]
  have HX6 : Hid (Ext w v6) := by rw [hv6]; exact Below.setCell HTT.out.2.2 (show w.heap.size ≤ w.heap.size + 2 by omega) _
  have HB6 : Hid (v6.heap[w.heap.size + 2]? = some (.cells #[.slice A n c, .slice F f1.length fc1, .slice U t1.length tc1, .bool true] 45 (0, 0))) := by rw [hv6]; exact heap_setCell_same _ _ _ _ _ _ HB4.out
  have HR6 : Hid (v6.heap[w.heap.size + 1]? = some (.cells #[.slice none 0 0, .slice none 0 0, .slice none 0 0, .bool false] 45 (0, 0))) := by rw [hv6]; exact (Below.heap_setCell _ _ _ _ (by show w.heap.size + 1 ≠ w.heap.size + 2; omega)).trans HR4.out
  clear hv6 p3 y3
  have b0 := cell_of HB6.out (k := 0) rfl
  have q0 := cell_of HR6.out (k := 0) rfl
  have z0 := frozen_four (j := 0) HR6.out
  have b1 := cell_of HB6.out (k := 1) rfl
  have q1 := cell_of HR6.out (k := 1) rfl
  have z1 := frozen_four (j := 1) HR6.out
  have b2 := cell_of HB6.out (k := 2) rfl
  have q2 := cell_of HR6.out (k := 2) rfl
  have z2 := frozen_four (j := 2) HR6.out
  have b3 := cell_of HB6.out (k := 3) rfl
  have q3 := cell_of HR6.out (k := 3) rfl
  have z3 := frozen_four (j := 3) HR6.out
  go_wp2_with fail
  refine rview_ret rfl rfl (set_four HR6.out) rfl (rclip_of HFF.out.1 HTT.out.1 rfl (Below.trans HX6.out ((chg_four _ _ _ _ _ _).below (fun i hi => by rw [hi]; omega) HX6.out.size)) HH.out HFF.out.2.1 HTT.out.2.1)
set_option maxRecDepth 100000 in
set_option maxHeartbeats 8000000 in
theorem rtkeys_any {w : World} {lo hi c : Nat} {A : Option Addr} {L : List (Ent × Hd)} (h : Es w lo hi A L) (hhi : hi ≤ w.heap.size) (hlen : L.length ≤ 4096) :
    Calls Tryz.prog 59 #[.slice A L.length c] w fun x w' => ∃ v, x = .returned v ∧ KeyRow w.heap.size lo hi v (keysT (L.map Prod.fst)) w' ∧ Ext w w' := by
 have HE := zHd h
 have HHI := zHd hhi
 have HL := zHd hlen
 obtain ⟨Ls, hLs⟩ : ∃ Ls, Ls = L.map Prod.fst := ⟨_, rfl⟩
 have HLS := zHd hLs
 have HLL : Hid (Ls.length = L.length) := by rw [hLs]; simp [Hid]
 rw [← hLs]
 have hlI : (L.length : Int) ≤ 4096 := by omega
 obtain ⟨i2, hi2', z1, z2, z3⟩ := info_parts tbytesinfo
 have HI2 := zHd hi2'
 clear h hhi hlen hLs hi2'
 go_enter Tryz.func59, Tryz.ntmps59
 go_wp2_with fail
 go_loopw [3, 4] (fun v i wr => ∃ k : Nat, k ≤ L.length ∧ i = .int .i64 (k : Int) ∧ Hid (KeyRow w.heap.size lo hi v (keysTo Ls k) wr) ∧ Hid (Ext w wr)) (fun _ i _ => L.length - (intOf i).toNat)
 case atStart => exact ⟨0, Nat.zero_le _, rfl, KeyRow.nil _ _ _ _, Ext.refl _⟩
 case round =>
  obtain ⟨k, hk, rfl, HKR, HX⟩ := hrel
  by_cases hlt : k < L.length
  rotate_left
  · have d : decide ((k : Int) < (L.length : Int)) = false := decide_eq_false (by omega)
    have dn : decide (k < L.length) = false := decide_eq_false hlt
    have hkn : k = L.length := by omega
    have hkt : keysTo Ls k = keysT Ls := by unfold keysT; rw [HLL.out, hkn]
    rw [hkt] at HKR
    clear hlt hk hkn hkt z1 z2 z3
    go_wp2_with fail
    refine bodyPost_ret (results_tmp rfl _ _ _) rfl ?_
    exact ⟨_, rfl, HKR.out, HX.out⟩
  have d : decide ((k : Int) < (L.length : Int)) = true := decide_eq_true (by omega)
  have dn : decide (k < L.length) = true := decide_eq_true hlt
  have HLT := zHd hlt
  obtain ⟨b, o, hA⟩ := HE.out.base (by omega)
  subst hA
  obtain ⟨p, hp⟩ : ∃ p, L[k]? = some p := ⟨_, List.getElem?_eq_getElem hlt⟩
  have HP := zHd hp
  have HEr := zHd (HE.out.below HX.out HHI.out)
  have HPS : Hid (Ls[k]? = some p.1) := by unfold Hid; rw [HLS.out, List.getElem?_map, hp]; rfl
  have HEM : Hid (Em wr lo hi p.1 p.2) := HEr.out.each p (List.mem_of_getElem? hp)
  obtain ⟨b0, _, _, _⟩ := HEr.out.get hp
  have n1 : (0 : Int) ≤ (k : Int) := by omega
  have n2 : (k : Int) < (L.length : Int) := by omega
  have HHIr : Hid (hi ≤ wr.heap.size) := zNt HHI.out HX.out.size
  clear hp hlt hk
  go_upto_region 5 with (fail)
  rcases k with _ | k1
  · have l1 : (0 : Int) < (L.length : Int) := n2
    have l2 : 0 < L.length := HLT.out
    refine flow (by kernel_rfl) [Is (.int .i64 ((0 : Nat) : Int)), Is (.bool true), Is (.bool true), Is undef, Is undef, Is undef, Is undef, Is undef, Is undef, Is undef, Is undef, Is undef, Is undef, Is undef, Is undef, Is undef, Is undef, Is (.bool true)] (by kernel_rfl) (by kernel_rfl) ?mono (fun f1 => ?obl) ?fin
    case mono =>
     simp only [List.forall_mem_cons, List.not_mem_nil, false_imp_iff, implies_true, and_true]
     and_intros <;> exact .is _
    case fin =>
     intro g1 u hu hg
     simp only [puts, Act.put, zq]
     have e17 : g1 17 = _ := hg 17 (by decide)
     rw [e17]
     have HXU : Hid (Ext wr u) := zEt (Ext.drew wr) hu
     have HKU := zHd (HKR.out.below HXU.out HHIr.out)
     have hb0 := ext_cell HXU.out b0
     clear hg hu b0 e17
     rw [Nat.zero_mul, Nat.add_zero] at hb0
     have HKA : Hid (keyAt Ls 0 = [p.1.key]) := keyAt_first HPS.out
     obtain ⟨KA, kc, xs, hv, hrw, hxn, hea⟩ := HKU.out.ex
     subst hv
     have HRW := zHd hrw
     have HXN0 := zHd hxn
     have HEA := zHd hea
     obtain ⟨KN, hKN⟩ : ∃ KN, KN = (keysTo Ls (0)).length := ⟨_, rfl⟩
     have HKE : Hid ((keysTo Ls (0)).length = KN) := hKN.symm
     have HXN : Hid (xs.length = KN) := by rw [hKN]; exact hxn
     have HKN : Hid (KN ≤ 4096) := by rw [hKN]; have := keysTo_len Ls (0); have := HLT.out; have := HL.out; unfold Hid; omega
     have HNL : Hid (keysTo Ls (0 + 1) = keysTo Ls (0) ++ [p.1.key]) := by unfold Hid; rw [keysTo_succ, HKA.out]
     have HNX : Hid ((keysTo Ls (0 + 1)).length = KN + 1) := by rw [HNL.out, List.length_append, hKN]; rfl
     rw [← hKN] at HRW ⊢
     clear hrw hxn hea hKN
     go_wp2_with (at_builtin; refine wpList_pushrow rfl (.tmp 29) (.tmp 35) 105 rfl w.heap.size 22 i2 (.slice none 0 0) 24 Tryz.underlying105 HI2.out z1 z2 z3 rfl _ _ _ rfl HRW.out _ rfl _ rfl rfl ?k4 ?k5 (zNt HX.out.size HXU.out.size) ?_)
     case k4 => unfold maxLen; have := HKN.out; omega
     case k5 => have := HKN.out; omega
     intro A6 c6 w6 ho6 hg6
     have HX6 : Hid (Below w.heap.size u w6) := grown_belowR hg6 (fun g hg => (row_lt HRW.out g hg).1) (zNt HX.out.size HXU.out.size)
     have HK6 : Hid (KeyRow w.heap.size lo hi (.slice A6 (KN + 1) c6) (keysTo Ls (0 + 1)) w6) := by
      refine ⟨A6, c6, xs ++ [.slice p.2.kA p.1.key.length p.2.kc], by rw [HNX.out], ?_, ?_, fun i x l hx hl => ?_⟩
      · have e9 : (keysTo Ls (0 + 1)).length = KN + 1 := HNX.out
        rw [e9]; exact ho6
      · rw [HNX.out, List.length_append, HXN.out]; rfl
      · have hu6 : ∀ {x : Value} {l : List Nat}, Bs u lo hi x l → Bs w6 lo hi x l := fun hb => hb.below HX6.out HHI.out
        rw [HNL.out] at hl
        rcases Nat.lt_or_ge i KN with hi5 | hi5
        · rw [List.getElem?_append_left (by rw [HXN.out]; exact hi5)] at hx
          rw [List.getElem?_append_left (by rw [HKE.out]; exact hi5)] at hl
          exact hu6 (HEA.out i x l hx hl)
        · rw [List.getElem?_append_right (by rw [HXN.out]; exact hi5)] at hx
          rw [List.getElem?_append_right (by rw [HKE.out]; exact hi5)] at hl
          rw [HXN.out] at hx
          rw [HKE.out] at hl
          rcases h9 : i - KN with _ | j
          · rw [h9] at hx hl
            simp at hx hl
            subst hx hl
            exact hu6 (HEM.out.k.below HXU.out HHIr.out)
          · rw [h9] at hx; simp at hx
     have HXF : Hid (Ext w w6) := Below.trans (zEt HX.out HXU.out) HX6.out
     clear ho6 hg6 hb0
     go_wp2_with fail
     go_roundw
     case rel => exact ⟨0 + 1, HLT.out, by go_num, HK6, HXF⟩
     case measure => have := HLT.out; simp [intOf]; omega
    case obl =>
     refine ⟨fun u hu hd => ?_, fun u hu hd => ?_, fun u hu hd => ?_, fun u hu hd => ?_, fun u hu hd => ?_, fun u hu hd => ?_, fun u hu hd => ?_, fun u hu hd => ?_, fun u hu hd => ?_, fun u hu hd => ?_, fun u hu hd => ?_, fun u hu hd => ?_, fun u hu hd => ?_, fun u hu hd => ?_, fun u hu hd => ?_, fun u hu hd => ?_, fun u hu hd => ?_, fun u hu hd => ?_, trivial⟩
     all_goals try simp only [Act.put, zq]
     · go_simp
       exact zEr
     · have e0 : f1 0 = _ := hd 0 (by kernel_rfl)
       go_simp
       exact zEr
     · have e1 : f1 1 = _ := hd 1 (by kernel_rfl)
       go_simp
       exact zEr
     · have e2 : f1 2 = _ := hd 2 (by kernel_rfl)
       go_simp
       rfl
     · have e2 : f1 2 = _ := hd 2 (by kernel_rfl)
       go_simp
       rfl
     · have e2 : f1 2 = _ := hd 2 (by kernel_rfl)
       go_simp
       rfl
     · have e2 : f1 2 = _ := hd 2 (by kernel_rfl)
       go_simp
       rfl
     · have e2 : f1 2 = _ := hd 2 (by kernel_rfl)
       go_simp
       rfl
     · have e2 : f1 2 = _ := hd 2 (by kernel_rfl)
       go_simp
       rfl
     · have e2 : f1 2 = _ := hd 2 (by kernel_rfl)
       go_simp
       rfl
     · have e2 : f1 2 = _ := hd 2 (by kernel_rfl)
       go_simp
       rfl
     · have e2 : f1 2 = _ := hd 2 (by kernel_rfl)
       go_simp
       rfl
     · have e2 : f1 2 = _ := hd 2 (by kernel_rfl)
       go_simp
       rfl
     · have e2 : f1 2 = _ := hd 2 (by kernel_rfl)
       go_simp
       rfl
     · have e2 : f1 2 = _ := hd 2 (by kernel_rfl)
       go_simp
       rfl
     · have e2 : f1 2 = _ := hd 2 (by kernel_rfl)
       go_simp
       rfl
     · have e2 : f1 2 = _ := hd 2 (by kernel_rfl)
       go_simp
       rfl
     · have e2 : f1 2 = _ := hd 2 (by kernel_rfl)
       go_simp
       exact zEr
  · obtain ⟨p0, hp0⟩ : ∃ p0, L[k1]? = some p0 := ⟨_, List.getElem?_eq_getElem (by have := HLT.out; omega)⟩
    have HP0 := zHd hp0
    have HPS0 : Hid (Ls[k1]? = some p0.1) := by unfold Hid; rw [HLS.out, List.getElem?_map, hp0]; rfl
    have HEM0 : Hid (Em wr lo hi p0.1 p0.2) := HEr.out.each p0 (List.mem_of_getElem? hp0)
    obtain ⟨c0, _, _, _⟩ := HEr.out.get hp0
    obtain ⟨z, hz⟩ : ∃ z : Bool, (z = true ↔ p0.1.key ≠ p.1.key) := by
     by_cases h : p0.1.key = p.1.key
     · exact ⟨false, by simp [h]⟩
     · exact ⟨true, by simp [h]⟩
    have HZ := zHd hz
    have m1 : (0 : Int) ≤ (k1 : Int) := by omega
    have l1 : (0 : Int) ≤ (k1 : Int) + 1 := n1
    have l2 : (k1 : Int) + 1 < (L.length : Int) := n2
    have l3 : k1 + 1 < L.length := HLT.out
    have m2 : (k1 : Int) < (L.length : Int) := by have := HLT.out; omega
    have hcz : ((tx p.1.key).toList == (tx p0.1.key).toList) = !z := by
     rw [tx_same HEM.out.bk HEM0.out.bk]
     cases z
     · have : p.1.key = p0.1.key := by
         by_cases h : p0.1.key = p.1.key
         · exact h.symm
         · exact absurd (hz.2 h) (by decide)
       simp [this]
     · have : p.1.key ≠ p0.1.key := fun e => hz.1 rfl e.symm
       simp [this]
    clear hp0 hz
    refine flow (by kernel_rfl) [Is (.int .i64 ((k1 + 1 : Nat) : Int)), Is (.bool false), Is (.bool false), Is (.slice (some ⟨b, o, none⟩) L.length c), Is (.int .i64 ((k1 + 1 : Nat) : Int)), Is (.pointer (some ⟨b, o + ((k1 + 1 : Nat)) * 4, none⟩)), Is (.pointer (some ⟨b, o + ((k1 + 1 : Nat)) * 4, none⟩)), Is (.slice p.2.kA p.1.key.length p.2.kc), Is (.string (tx p.1.key)), Is (.slice (some ⟨b, o, none⟩) L.length c), Is (.int .i64 ((k1 + 1 : Nat) : Int)), Is (.int .i64 (k1 : Int)), Is (.pointer (some ⟨b, o + k1 * 4, none⟩)), Is (.pointer (some ⟨b, o + k1 * 4, none⟩)), Is (.slice p0.2.kA p0.1.key.length p0.2.kc), Is (.string (tx p0.1.key)), Is (.bool z), Is (.bool z)] (by kernel_rfl) (by kernel_rfl) ?mono (fun f1 => ?obl) ?fin
    case mono =>
     simp only [List.forall_mem_cons, List.not_mem_nil, false_imp_iff, implies_true, and_true]
     and_intros <;> exact .is _
    case fin =>
     intro g1 u hu hg
     simp only [puts, Act.put, zq]
     have e17 : g1 17 = _ := hg 17 (by decide)
     rw [e17]
     have HXU : Hid (Ext wr u) := zEt (Ext.drew wr) hu
     have HKU := zHd (HKR.out.below HXU.out HHIr.out)
     have hb0 := ext_cell HXU.out b0
     clear hg hu b0 e17 c0
     have HKN1 := zHd (keyAt_next HPS0.out HPS.out)
     cases z with
     | true =>
      have HKA : Hid (keyAt Ls (k1 + 1) = [p.1.key]) := by rw [HKN1.out, if_neg (HZ.out.1 rfl)]; rfl
      obtain ⟨KA, kc, xs, hv, hrw, hxn, hea⟩ := HKU.out.ex
      subst hv
      have HRW := zHd hrw
      have HXN0 := zHd hxn
      have HEA := zHd hea
      obtain ⟨KN, hKN⟩ : ∃ KN, KN = (keysTo Ls (k1 + 1)).length := ⟨_, rfl⟩
      have HKE : Hid ((keysTo Ls (k1 + 1)).length = KN) := hKN.symm
      have HXN : Hid (xs.length = KN) := by rw [hKN]; exact hxn
      have HKN : Hid (KN ≤ 4096) := by rw [hKN]; have := keysTo_len Ls (k1 + 1); have := HLT.out; have := HL.out; unfold Hid; omega
      have HNL : Hid (keysTo Ls (k1 + 1 + 1) = keysTo Ls (k1 + 1) ++ [p.1.key]) := by unfold Hid; rw [keysTo_succ, HKA.out]
      have HNX : Hid ((keysTo Ls (k1 + 1 + 1)).length = KN + 1) := by rw [HNL.out, List.length_append, hKN]; rfl
      rw [← hKN] at HRW ⊢
      clear hrw hxn hea hKN
      go_wp2_with (at_builtin; refine wpList_pushrow rfl (.tmp 29) (.tmp 35) 105 rfl w.heap.size 22 i2 (.slice none 0 0) 24 Tryz.underlying105 HI2.out z1 z2 z3 rfl _ _ _ rfl HRW.out _ rfl _ rfl rfl ?k4 ?k5 (zNt HX.out.size HXU.out.size) ?_)
      case k4 => unfold maxLen; have := HKN.out; omega
      case k5 => have := HKN.out; omega
      intro A6 c6 w6 ho6 hg6
      have HX6 : Hid (Below w.heap.size u w6) := grown_belowR hg6 (fun g hg => (row_lt HRW.out g hg).1) (zNt HX.out.size HXU.out.size)
      have HK6 : Hid (KeyRow w.heap.size lo hi (.slice A6 (KN + 1) c6) (keysTo Ls (k1 + 1 + 1)) w6) := by
       refine ⟨A6, c6, xs ++ [.slice p.2.kA p.1.key.length p.2.kc], by rw [HNX.out], ?_, ?_, fun i x l hx hl => ?_⟩
       · have e9 : (keysTo Ls (k1 + 1 + 1)).length = KN + 1 := HNX.out
         rw [e9]; exact ho6
       · rw [HNX.out, List.length_append, HXN.out]; rfl
       · have hu6 : ∀ {x : Value} {l : List Nat}, Bs u lo hi x l → Bs w6 lo hi x l := fun hb => hb.below HX6.out HHI.out
         rw [HNL.out] at hl
         rcases Nat.lt_or_ge i KN with hi5 | hi5
         · rw [List.getElem?_append_left (by rw [HXN.out]; exact hi5)] at hx
           rw [List.getElem?_append_left (by rw [HKE.out]; exact hi5)] at hl
           exact hu6 (HEA.out i x l hx hl)
         · rw [List.getElem?_append_right (by rw [HXN.out]; exact hi5)] at hx
           rw [List.getElem?_append_right (by rw [HKE.out]; exact hi5)] at hl
           rw [HXN.out] at hx
           rw [HKE.out] at hl
           rcases h9 : i - KN with _ | j
           · rw [h9] at hx hl
             simp at hx hl
             subst hx hl
             exact hu6 (HEM.out.k.below HXU.out HHIr.out)
           · rw [h9] at hx; simp at hx
      have HXF : Hid (Ext w w6) := Below.trans (zEt HX.out HXU.out) HX6.out
      clear ho6 hg6 hb0
      go_wp2_with fail
      go_roundw
      case rel => exact ⟨k1 + 1 + 1, HLT.out, by go_num, HK6, HXF⟩
      case measure => have := HLT.out; simp [intOf]; omega
     | false =>
      have HST : Hid (keysTo Ls (k1 + 1 + 1) = keysTo Ls (k1 + 1)) := by
       unfold Hid
       rw [keysTo_succ, HKN1.out, if_pos, List.append_nil]
       by_cases h : p0.1.key = p.1.key
       · exact h
       · exact absurd (HZ.out.2 h) (by decide)
      have HKS : Hid (KeyRow w.heap.size lo hi u3 (keysTo Ls (k1 + 1 + 1)) u) := by rw [HST.out]; exact HKU.out
      clear hb0
      go_wp2_with fail
      go_roundw
      case rel => exact ⟨k1 + 1 + 1, HLT.out, by go_num, HKS, zEt HX.out HXU.out⟩
      case measure => have := HLT.out; simp [intOf]; omega
    case obl =>
     refine ⟨fun u hu hd => ?_, fun u hu hd => ?_, fun u hu hd => ?_, fun u hu hd => ?_, fun u hu hd => ?_, fun u hu hd => ?_, fun u hu hd => ?_, fun u hu hd => ?_, fun u hu hd => ?_, fun u hu hd => ?_, fun u hu hd => ?_, fun u hu hd => ?_, fun u hu hd => ?_, fun u hu hd => ?_, fun u hu hd => ?_, fun u hu hd => ?_, fun u hu hd => ?_, fun u hu hd => ?_, trivial⟩
     all_goals try simp only [Act.put, zq]
     · go_simp
       exact zEr
     · have e0 : f1 0 = _ := hd 0 (by kernel_rfl)
       go_simp
       exact zEr
     · have e1 : f1 1 = _ := hd 1 (by kernel_rfl)
       go_simp
       exact zEr
     · have e2 : f1 2 = _ := hd 2 (by kernel_rfl)
       go_simp
       exact zEr
     · have e2 : f1 2 = _ := hd 2 (by kernel_rfl)
       go_simp
       exact zEr
     · have e2 : f1 2 = _ := hd 2 (by kernel_rfl)
       have e3 : f1 3 = _ := hd 3 (by kernel_rfl)
       have e4 : f1 4 = _ := hd 4 (by kernel_rfl)
       go_simp
       exact zEr
     · have e2 : f1 2 = _ := hd 2 (by kernel_rfl)
       have e5 : f1 5 = _ := hd 5 (by kernel_rfl)
       go_simp
       exact zEr
     · have e2 : f1 2 = _ := hd 2 (by kernel_rfl)
       have e6 : f1 6 = _ := hd 6 (by kernel_rfl)
       have hu2 := zEt (Ext.drew wr) hu
       have q0 := ext_cell hu2 b0
       go_simp
       exact zEr
     · have e2 : f1 2 = _ := hd 2 (by kernel_rfl)
       have e7 : f1 7 = _ := hd 7 (by kernel_rfl)
       have hcv := cv_any (HEM.out.k.below (zEt (Ext.drew wr) hu) HHIr.out)
       go_simp
       exact zEr
     · have e2 : f1 2 = _ := hd 2 (by kernel_rfl)
       go_simp
       exact zEr
     · have e2 : f1 2 = _ := hd 2 (by kernel_rfl)
       go_simp
       exact zEr
     · have e2 : f1 2 = _ := hd 2 (by kernel_rfl)
       have e10 : f1 10 = _ := hd 10 (by kernel_rfl)
       have hs : IntKind.i64.wrap (k1 : Int) = (k1 : Int) := by have := HLT.out; rw [IntKind.wrap_i64]; omega
       go_simp
       exact zEr
     · have e2 : f1 2 = _ := hd 2 (by kernel_rfl)
       have e9 : f1 9 = _ := hd 9 (by kernel_rfl)
       have e11 : f1 11 = _ := hd 11 (by kernel_rfl)
       go_simp
       exact zEr
     · have e2 : f1 2 = _ := hd 2 (by kernel_rfl)
       have e12 : f1 12 = _ := hd 12 (by kernel_rfl)
       go_simp
       exact zEr
     · have e2 : f1 2 = _ := hd 2 (by kernel_rfl)
       have e13 : f1 13 = _ := hd 13 (by kernel_rfl)
       have hu2 := zEt (Ext.drew wr) hu
       have q0 := ext_cell hu2 c0
       go_simp
       exact zEr
     · have e2 : f1 2 = _ := hd 2 (by kernel_rfl)
       have e14 : f1 14 = _ := hd 14 (by kernel_rfl)
       have hcv := cv_any (HEM0.out.k.below (zEt (Ext.drew wr) hu) HHIr.out)
       go_simp
       exact zEr
     · have e2 : f1 2 = _ := hd 2 (by kernel_rfl)
       have e8 : f1 8 = _ := hd 8 (by kernel_rfl)
       have e15 : f1 15 = _ := hd 15 (by kernel_rfl)
       cases z
       · go_simp
         exact zEr
       · go_simp
         exact zEr
     · have e2 : f1 2 = _ := hd 2 (by kernel_rfl)
       have e16 : f1 16 = _ := hd 16 (by kernel_rfl)
       go_simp
       exact zEr
end Go.Proofs.YtkdidghfcfcpfaaGreat
namespace Go.Proofs.YtkdidghfcfcpfaaGreat
open Go.ChangeShapes Go.WideShapes Go.ChangeAt Go.RowKit
theorem wpList_addrow_at {ops : Array Oper} {rest : List Oper} {o : Oper} {a : Act} {Q : Exit → Act → World → Prop} {u : World} (hgd : o.guard = none) (s x : Operand)
    (ho : o.op = .call { callee := .builtin .append, args := #[s, x], argTypes := #[22, 22] }) (B : Nat) (v : Value) (l : List Nat) (hs : a.eval s = v) (hown : Own B l v u)
    (lo hi : Nat) (y : Value) (r : List Nat) (hx : a.eval x = y) (hy : Bs u lo hi y r) (hr : 0 < r.length) (hlen : l.length + r.length ≤ 1099511627776) (hB : B ≤ u.heap.size)
    (h : ∀ A' c' w', Own B (l ++ r) (.slice A' (l ++ r).length c') w' → u.grownBy w' v.ownBlock → ((Value.slice A' (l ++ r).length c').ownBlock = v.ownBlock ∨ (Value.slice A' (l ++ r).length c').ownBlock = some u.heap.size) → wpList Tryz.prog ops Q rest (a.put o.dst (.slice A' (l ++ r).length c')) w') :
    wpList Tryz.prog ops Q (o :: rest) a u := by
 obtain ⟨i0, hi0, ix0, ix1, ix2⟩ := info_parts t5info
 obtain ⟨A, c, rfl, h1, h2, hnil, hby⟩ := hy
 obtain ⟨b, o', e, _, _, hc⟩ := hby.at_ (i := 0) hr
 subst e
 have hcells : ∀ j q, (bv r)[j]? = some q → u.cell? ((⟨b, o', none⟩ : Addr).add j) = some q := fun j q hj => by
  rcases hby with h0 | ⟨b2, o2, e2, _, _, h3⟩
  · rw [h0] at hj; simp at hj
  · have e3 : b = b2 := congrArg Addr.block (Option.some.inj e2)
    have e4 : o' = o2 := congrArg Addr.off (Option.some.inj e2)
    subst e3 e4
    rw [addr_add]; exact h3 j q hj
 refine wpList_append_own_at _ hgd s x 22 ho B 5 i0 (.int .u8 0) 1 1 Tryz.underlying22 hi0 ix0 ix1 ix2 rfl (by decide) v l.length (bv l) hs hown ⟨b, o', none⟩ r.length c (bv r) hx (by rw [bv_length]; omega) hcells (bv_one r) (by unfold maxLen; omega) (by omega) hB (fun v' w' ho' hg _ hf => ?_)
 have hown' : Own B (l ++ r) v' w' := by unfold Own; rw [List.length_append, bv_append]; exact ho'
 obtain ⟨A', c', rfl⟩ := hown'.slice
 exact h A' c' w' hown' hg hf
structure W2 (w : World) (T S : List Nat) (BA : Option Addr) (bc : Nat) (RA : Option Addr) (rc : Nat) (u : World) : Prop where
 b : Own w.heap.size T (.slice BA T.length bc) u
 r : Own w.heap.size S (.slice RA S.length rc) u
 x : Ext w u
 ne : ∀ g, (Value.slice BA T.length bc).ownBlock = some g → (Value.slice RA S.length rc).ownBlock ≠ some g
theorem W2.ext {w u u' : World} {T S : List Nat} {BA RA : Option Addr} {bc rc : Nat} (h : W2 w T S BA bc RA rc u) (hx : Ext u u') : W2 w T S BA bc RA rc u' := ⟨h.b.below hx, h.r.below hx, zEt h.x hx, h.ne⟩
theorem w2_addb {ops : Array Oper} {rest : List Oper} {o : Oper} {a : Act} {Q : Exit → Act → World → Prop} {u : World} (hgd : o.guard = none) (s x : Operand)
    (ho : o.op = .call { callee := .builtin .append, args := #[s, x], argTypes := #[22, 22] }) {w : World} {T S : List Nat} {BA RA : Option Addr} {bc rc : Nat} (hst : W2 w T S BA bc RA rc u) (hs : a.eval s = .slice BA T.length bc)
    (lo hi : Nat) (y : Value) (r : List Nat) (hx : a.eval x = y) (hy : Bs u lo hi y r) (hr : 0 < r.length) (hlen : T.length + r.length ≤ 1099511627776) (T' : List Nat) (hT : T' = T ++ r)
    (h : ∀ A' c' w', W2 w T' S A' c' RA rc w' → wpList Tryz.prog ops Q rest (a.put o.dst (.slice A' T'.length c')) w') :
    wpList Tryz.prog ops Q (o :: rest) a u := by
 subst hT
 refine wpList_addrow_at hgd s x ho w.heap.size _ T hs hst.b lo hi y r hx hy hr hlen hst.x.size fun A' c' w' hO hg hf => h A' c' w' ⟨hO, ?_, ?_, ?_⟩
 · exact hst.r.wall fun g hg' => hg.block g (row_lt hst.r g hg').2 (fun e => hst.ne g e.symm hg')
 · exact Below.grown hst.x hg hst.x.size (fun k hk => (row_lt hst.b k hk).1)
 · intro g h1 h2
   rcases hf with hf | hf
   · exact hst.ne g (by rw [← hf]; exact h1) h2
   · rw [hf] at h1
     have := (row_lt hst.r g h2).2
     injection h1 with h1
     omega
theorem w2_addr {ops : Array Oper} {rest : List Oper} {o : Oper} {a : Act} {Q : Exit → Act → World → Prop} {u : World} (hgd : o.guard = none) (s x : Operand)
    (ho : o.op = .call { callee := .builtin .append, args := #[s, x], argTypes := #[22, 22] }) {w : World} {T S : List Nat} {BA RA : Option Addr} {bc rc : Nat} (hst : W2 w T S BA bc RA rc u) (hs : a.eval s = .slice RA S.length rc)
    (lo hi : Nat) (y : Value) (r : List Nat) (hx : a.eval x = y) (hy : Bs u lo hi y r) (hr : 0 < r.length) (hlen : S.length + r.length ≤ 1099511627776) (S' : List Nat) (hT : S' = S ++ r)
    (h : ∀ A' c' w', W2 w T S' BA bc A' c' w' → u.grownBy w' (Value.slice RA S.length rc).ownBlock → ((Value.slice A' S'.length c').ownBlock = (Value.slice RA S.length rc).ownBlock ∨ (Value.slice A' S'.length c').ownBlock = some u.heap.size) → wpList Tryz.prog ops Q rest (a.put o.dst (.slice A' S'.length c')) w') :
    wpList Tryz.prog ops Q (o :: rest) a u := by
 subst hT
 refine wpList_addrow_at hgd s x ho w.heap.size _ S hs hst.r lo hi y r hx hy hr hlen hst.x.size fun A' c' w' hO hg hf => h A' c' w' ⟨?_, hO, ?_, ?_⟩ hg hf
 · exact hst.b.wall fun g hg' => hg.block g (row_lt hst.b g hg').2 (fun e => hst.ne g hg' e.symm)
 · exact Below.grown hst.x hg hst.x.size (fun k hk => (row_lt hst.r k hk).1)
 · intro g h1 h2
   rcases hf with hf | hf
   · exact hst.ne g h1 (by rw [← hf]; exact h2)
   · rw [hf] at h2
     have := (row_lt hst.b g h1).2
     injection h2 with h2
     omega
theorem below_sr {B g : Nat} {w0 w : World} (hb : Below B w0 w) (hBg : B ≤ g) (cs : Array Value) : Below B w0 (w.setRow g cs) :=
 ⟨hb.os, hb.tape, hb.output, by simpa using hb.size, fun i hi => by rw [setRow_other _ _ _ _ (by omega)]; exact hb.block i hi⟩
theorem box_kept {B gb : Nat} {S : List Nat} {v : Value} {u w' : World} {cs : Array Value} (h : Own B S v u) (hb : u.heap[gb]? = some (.cells cs 50 (0, 0))) (hg : u.grownBy w' v.ownBlock) : w'.heap[gb]? = some (.cells cs 50 (0, 0)) := by
 refine (hg.block gb (zAg.1 hb).1 fun e => ?_).trans hb
 rcases h.2 with ⟨rfl, _⟩ | ⟨g, cap, cur, rfl, _, h1, _⟩
 · cases e
 · injection e with e
   subst e
   rw [h1] at hb
   injection hb with hb
   injection hb with _ hb
   exact absurd hb (by decide)
theorem rtwordo_any (x : Nat) (hx : x < 4294967296) (w : World) : Calls Tryz.prog 65 #[.int .u32 (x : Int)] w fun e w' => ∃ A c, e = .returned (.slice A 4 c) ∧ Own w.heap.size (be4 x) (.slice A 4 c) w' ∧ Ext w w' := by
 have HX := zHd hx
 clear hx
 go_enter Tryz.func65, Tryz.ntmps65
 go_wp2_with fail
 refine bodyPost_ret (results_tmp rfl _ _ _) rfl ?_
 refine ⟨_, _, rfl, ?_, ext_alloc _ _⟩
 have h9 := World.ownsRow_lit (base := w.heap.size) (e := 5) (size := 1) w (bv (be4 x)).toArray 4 (zNr _) (by unfold maxLen; omega) (by simp [be4, bv])
 exact h9
theorem CutRow.pcs {w0 w : World} {lo hi d : Nat} {A X : Option Addr} {L : List (Ent × Hd)} {C : List (List (Ent × Hd))} (h : CutRow w0.heap.size (.slice X C.length d) C w) (hE : Es w0 lo hi A L) (hhi : hi ≤ w0.heap.size) (hx : Ext w0 w) (hC : C.flatten = L) (hne : C ≠ []) :
    ∃ g, X = some ⟨g, 0, none⟩ ∧ ∀ (i : Nat) (q : List (Ent × Hd)), C[i]? = some q → ∃ (A : Option Addr) (c : Nat), w.cell? ⟨g, i, none⟩ = some (.slice A q.length c) ∧ Es w 0 w.heap.size A q := by
 obtain ⟨vs, h1, h2⟩ := h
 rcases h1.2 with ⟨_, he⟩ | ⟨g, cap, cur, hv, hg, hh, r⟩
 · exact absurd (List.eq_nil_of_length_eq_zero he) hne
 · injection hv with e1 e2 e3
   subst e1
   refine ⟨g, rfl, fun i q hq => ?_⟩
   obtain ⟨A', c', h3, h4⟩ := h2 i q hq
   refine ⟨A', c', ?_, (erow_sl h4).1, fun p hp => ?_⟩
   · have h9 := h1.cells (g := g) rfl i _ h3
     rwa [addr_add, Nat.zero_add] at h9
   · have hpL : p ∈ L := by rw [← hC]; exact List.mem_flatten.2 ⟨q, List.mem_of_getElem? hq, hp⟩
     exact ((hE.each p hpL).below hx hhi).wide (Nat.zero_le _) (zNt hhi hx.size)
end Go.Proofs.YtkdidghfcfcpfaaGreat
namespace Go.Proofs.YtkdidghfcfcpfaaGreat.Bl
open Go.ChangeShapes Go.WideShapes Go.ChangeAt Go.RowKit
end Go.Proofs.YtkdidghfcfcpfaaGreat.Bl
namespace Go.Proofs.YtkdidghfcfcpfaaGreat.Bl
open Go.ChangeShapes Go.WideShapes Go.ChangeAt Go.RowKit
theorem rem_one {m : Nat} (h : m % 2 = 1) : ((m : Int) % 2 == 1) = true := by simp; omega
theorem rem_none {m : Nat} (h : m % 2 = 0) : ((m : Int) % 2 == 1) = false := by simp; omega
theorem sh_odd {m : Nat} (hm : m < 4294967296) (h : m % 2 = 1) : bits .xor .u32 ((m : Int) / 2 % 4294967296) 2197175160 = ((sh m : Nat) : Int) := by
 rw [show (m : Int) / 2 % 4294967296 = (m : Int) / 2 by omega]
 have e : ((m / 2 : Nat) : Int) = (m : Int) / 2 := by omega
 have := xor_u32 (a := m / 2) (b := 2197175160) (by omega) (by omega)
 rw [e] at this
 rw [sh, h, Nat.one_mul]
 exact this
theorem sh_even {m : Nat} (hm : m < 4294967296) (h : m % 2 = 0) : (m : Int) / 2 % 4294967296 = ((sh m : Nat) : Int) := by
 rw [show (m : Int) / 2 % 4294967296 = (m : Int) / 2 by omega]
 rw [sh, h, Nat.zero_mul, Nat.xor_zero]; omega
theorem step_any (s : Nat) (hs : s < 4294967296) (w : World) : Calls Tryz.prog 116 #[.int .u32 (s : Int)] w fun e w' => e = .returned (.int .u32 (shn 8 s : Nat)) ∧ w = w' := by
 have HS := zHd hs
 clear hs
 go_enter Tryz.func116, Tryz.ntmps116
 go_wp2_with fail
 go_loop [0, 3] (fun x i => ∃ (k m : Nat), k ≤ 8 ∧ i = .int .i64 (k : Int) ∧ x = .int .u32 (m : Int) ∧ Hid (m = shn k s)) (fun _ i => 8 - (intOf i).toNat)
 case atStart => exact ⟨0, s, Nat.zero_le _, rfl, rfl, zHd rfl⟩
 case round =>
  obtain ⟨k, m, hk, rfl, rfl, hm⟩ := hrel
  have HM := zHd (show m < 4294967296 by rw [hm.out]; exact shn_lt HS.out)
  by_cases hlt : k < 8
  · rcases Nat.mod_two_eq_zero_or_one m with hp | hp
    · have hd := rem_none hp
      have HE := zHd (sh_even HM.out hp)
      clear hp
      go_wp2_with fail
      go_round
      case rel => exact ⟨k + 1, sh m, by omega, by go_num, by rw [HE.out], zHd (by rw [hm.out, shn_succ'])⟩
      case measure => simp [intOf]; omega
    · have hd := rem_one hp
      have HE := zHd (sh_odd HM.out hp)
      clear hp
      go_wp2_with fail
      go_round
      case rel => exact ⟨k + 1, sh m, by omega, by go_num, by rw [HE.out], zHd (by rw [hm.out, shn_succ'])⟩
      case measure => simp [intOf]; omega
  · go_wp2_with fail
    go_ret
    obtain rfl : k = 8 := by omega
    exact ⟨by rw [hm.out]; rfl, rfl⟩
theorem xor_top {m : Nat} (h : m < 4294967296) : bits BinOp.xor IntKind.u32 (m : Int) 4294967295 = ((m ^^^ ones : Nat) : Int) := xor_u32 h ones_lt
theorem rmore_any (s : Nat) (hs : s < 4294967296) (v : Value) (lo hi : Nat) (l : List Nat) (w : World) (hv : Bs w lo hi v l) (hl : ∀ c ∈ l, c < 256) :
    Calls Tryz.prog 98 #[.int .u32 (s : Int), v] w fun e w' => e = .returned (.int .u32 (more s l : Nat)) ∧ w = w' := by
 have HS := zHd (xor_lt hs ones_lt)
 have HX := zHd (xor_top hs)
 have HL := zHd hl
 obtain ⟨A, c, rfl, q1, q2, q3, hby⟩ := hv
 have HBY := zHd hby
 have hlen : l.length ≤ 9223372036854775807 := by unfold maxLen at q2; omega
 clear hs hl q1 q2 q3 hby
 go_enter Tryz.func98, Tryz.ntmps98
 go_wp2_with fail
 rw [HX.out]
 go_loop [5, 6] (fun r i => ∃ (k m : Nat), k ≤ l.length ∧ i = .int .i64 (k : Int) ∧ r = .int .u32 (m : Int) ∧ Hid (m = reg (s ^^^ ones) (l.take k))) (fun _ i => l.length - (intOf i).toNat)
 case atStart => exact ⟨0, s ^^^ ones, Nat.zero_le _, rfl, rfl, zHd rfl⟩
 case round =>
  obtain ⟨k, m, hk, rfl, rfl, hm⟩ := hrel
  have HM := zHd (show m < 4294967296 by rw [hm.out]; exact reg_take_lt HS.out HL.out k)
  by_cases hlt : k < l.length
  · obtain ⟨b, o, rfl, _, _, hcell⟩ := HBY.out.at_ hlt
    have hc256 := HL.out l[k] (List.getElem_mem hlt)
    have HC := zHd (show l[k] < 4294967296 by omega)
    have HY := zHd (xor_u32 HM.out HC.out)
    go_wp2_with fail
    rw [HY.out]
    refine (step_any _ (xor_lt HM.out HC.out) _).mono ?_
    rintro e w1 ⟨rfl, rfl⟩
    go_wp2_with fail
    go_round
    case rel => exact ⟨k + 1, _, by omega, by go_num, rfl, zHd (by rw [reg_take _ l hlt, hm.out])⟩
    case measure => simp [intOf]; omega
  · have HZ := zHd (xor_top HM.out)
    go_wp2_with fail
    go_ret
    obtain rfl : k = l.length := by omega
    exact ⟨by rw [HZ.out, hm.out, List.take_length]; rfl, rfl⟩
theorem rsum_any (v : Value) (lo hi : Nat) (l : List Nat) (w : World) (hv : Bs w lo hi v l) (hl : ∀ c ∈ l, c < 256) :
    Calls Tryz.prog 64 #[v] w fun e w' => e = .returned (.int .u32 (crc l : Nat)) ∧ w = w' := by
 have H := zHd (rmore_any 0 (by omega) v lo hi l w hv hl)
 rw [more_zero] at H
 obtain ⟨A, c, rfl, q1, q2, q3, hby⟩ := hv
 clear q1 q2 q3 hby hl
 go_enter Tryz.func64, Tryz.ntmps64
 go_wp2_with fail
 refine Calls.mono H.out ?_
 rintro e w1 ⟨rfl, rfl⟩
 go_wp2_with fail
 go_ret
 exact ⟨rfl, rfl⟩
end Go.Proofs.YtkdidghfcfcpfaaGreat.Bl
namespace Go.Proofs.YtkdidghfcfcpfaaGreat.Bl
open Go.ChangeShapes Go.WideShapes Go.ChangeAt Go.RowKit
theorem rsize_any (n : Int) (h1 : -9223372036854775808 ≤ n) (h2 : n ≤ 9223372036854775807) (w : World) :
    Calls Tryz.prog 95 #[.int .i64 n] w fun e w' => e = .returned (.int .i64 (sizeI n : Nat)) ∧ w = w' := by
 by_cases ha : n < 0
 · have hd : decide (n < 0) = true := by simpa using ha
   have HS : Hid (sizeI n = 0) := by unfold sizeI Hid; rw [if_pos (.inl ha)]
   go_enter Tryz.func95, Tryz.ntmps95
   go_wp2_with fail
   go_ret
   exact ⟨by rw [HS.out]; rfl, rfl⟩
 · have hd : decide (n < 0) = false := by simpa using ha
   by_cases hb : 65536 < n
   · have hd2 : decide (65536 < n) = true := by simpa using hb
     have HS : Hid (sizeI n = 0) := by unfold sizeI Hid; rw [if_pos (.inr hb)]
     go_enter Tryz.func95, Tryz.ntmps95
     go_wp2_with fail
     go_ret
     exact ⟨by rw [HS.out]; rfl, rfl⟩
   · have hd2 : decide (65536 < n) = false := by simpa using hb
     obtain ⟨m, rfl⟩ : ∃ m : Nat, n = (m : Int) := ⟨n.toNat, by omega⟩
     have HS : Hid (sizeI (m : Int) = bsize m) := sizeI_nat (by omega)
     have hm : m ≤ 65536 := by omega
     clear ha hb h1 h2
     go_enter Tryz.func95, Tryz.ntmps95
     go_wp2_with fail
     go_loop [3] (fun i => ∃ k : Nat, 8 * (m + 1) ≤ k ∧ k ≤ 8 * bsize m ∧ i = .int .i64 (k : Int)) (fun i => 8 * bsize m - (intOf i).toNat)
     case atStart => exact ⟨8 * (m + 1), zNr _, by unfold bsize; omega, by go_num⟩
     case round =>
      obtain ⟨k, hk1, hk2, rfl⟩ := hrel
      have hkb : (k : Int) ≤ 1000000 := by have := bsize_le hm; omega
      by_cases hz : k % 64 = 0
      · have hd3 : ((k : Int) % 64 != 0) = false := by simp; omega
        have hkk : k = 8 * bsize m := by unfold bsize at hk2 ⊢; omega
        have hmin : ((k : Int) ≤ 1048576) := by omega
        clear hz
        go_wp2_with fail
        go_ret
        have e8 : min (8 * ((bsize m : Nat) : Int)) 1048576 / 8 = ((bsize m : Nat) : Int) := by omega
        refine ⟨?_, rfl⟩
        rw [HS.out]
        first
         | (simp; done)
         | (show Ending.returned (Value.int .i64 (min (8 * ((bsize m : Nat) : Int)) 1048576 / 8)) = _; rw [e8])
         | rfl
      · have hd3 : ((k : Int) % 64 != 0) = true := by simp; omega
        have hk3 : k + 1 ≤ 8 * bsize m := by unfold bsize at hk2 ⊢; omega
        clear hz
        go_wp2_with fail
        go_round
        case rel => exact ⟨k + 1, by omega, by omega, by go_num⟩
        case measure => simp [intOf]; omega
theorem bit_word (x j : Nat) (hx : x < 256) : (bits .and .u8 ((x : Int) / (2 : Int) ^ (j % 8)) 1 == 1) = (x / 2 ^ (j % 8) % 2 == 1) := by
 have e : ((x / 2 ^ (j % 8) : Nat) : Int) = (x : Int) / (2 : Int) ^ (j % 8) := by simp
 rw [← e]
 have h : x / 2 ^ (j % 8) < 256 := Nat.lt_of_le_of_lt (Nat.div_le_self _ _) hx
 have h2 := and_u8 h (show 1 < 256 by decide)
 rw [show ((1 : Nat) : Int) = 1 from rfl] at h2
 rw [h2, Nat.and_one_is_mod]
 rw [Bool.eq_iff_iff, beq_iff_eq, beq_iff_eq]
 omega
set_option maxHeartbeats 1000000 in
theorem rhas_any {w : World} {lo hi c : Nat} {A : Option Addr} {F : List Nat} {j : Nat} (hu : Bs w lo hi (.slice A F.length c) F) (hF : ∀ x ∈ F, x < 256) (hj : j < 8 * F.length) (hl : F.length ≤ 1099511627776) :
    Calls Tryz.prog 94 #[.slice A F.length c, .int .i64 (j : Int)] w fun e w' => e = .returned (.bool (bitOf F j)) ∧ w = w' := by
 obtain ⟨q, hq⟩ : ∃ q, q = j / 8 := ⟨_, rfl⟩
 have hqn : q < F.length := by omega
 obtain ⟨x, hx⟩ : ∃ x, x = F[q] := ⟨_, rfl⟩
 have hx8 : x < 256 := by rw [hx]; exact hF _ (List.getElem_mem _)
 have HBT : Hid (bitOf F j = (x / 2 ^ (j % 8) % 2 == 1)) := by subst hq; rw [hx]; exact bit_at hqn
 have HW := zHd (bit_word x j hx8)
 obtain ⟨A', c', he, _, _, _, hby⟩ := hu
 injection he with e1 _ e3
 subst e1 e3
 obtain ⟨g, o, rfl, _, _, c0⟩ := hby.at_ hqn
 rw [← hx] at c0
 have hq2 : (j : Int) / 8 = (q : Int) := by omega
 have hqi : (q : Int) < (F.length : Int) := by omega
 have hji : (j : Int) ≤ 9223372036854775807 := by omega
 clear hq hx hby hF hj hl
 go_enter Tryz.func94, Tryz.ntmps94
 go_wp2_with fail
 go_ret
 exact ⟨by rw [HBT.out, ← HW.out]; rfl, rfl⟩
theorem way_ref {l : List Nat} (hl : ∀ x ∈ l, x < 256) : bits .or .u32 ((crc (l ++ [1]) : Nat) : Int) 1 = ((way l : Nat) : Int) := by
 have h := way_bits hl
 rw [crc_more] at h
 exact h
theorem snoc_lt {l : List Nat} (hl : ∀ x ∈ l, x < 256) : ∀ x ∈ l ++ [1], x < 256 := fun x hx => by
 rcases List.mem_append.1 hx with hx | hx
 · exact hl x hx
 · exact one_lt x hx
set_option maxRecDepth 100000 in
set_option maxHeartbeats 4000000 in
theorem rbits_any (v : Value) (lo hi : Nat) (l : List Nat) (m : Nat) (w : World) (hv : Bs w lo hi v l) (hhi : hi ≤ w.heap.size) (hl : ∀ c ∈ l, c < 256) (hll : l.length ≤ 1000000) (hm1 : 0 < m) (hm2 : m ≤ 1048576) :
    Calls Tryz.prog 93 #[v, .int .i64 (m : Int)] w fun e w' => e = .returned (.agg (irow (kbs l m))) ∧ Ext w w' := by
 have HV := zHd hv
 have HL := zHd hl
 have H0 := zHd (five0 (kb l m))
 have HW := zHd (way_ref hl)
 have HA0 : Hid (IArr (w.alloc (.cells #[.int .i64 0, .int .i64 0, .int .i64 0, .int .i64 0, .int .i64 0] 131)) w.heap.size 131 (part (kb l m) 5 0)) := by unfold IArr Hid; rw [H0.out]; exact heap_alloc_new _ _
 have HX0 : Hid (Ext w (w.alloc (.cells #[.int .i64 0, .int .i64 0, .int .i64 0, .int .i64 0, .int .i64 0] 131))) := ext_alloc _ _
 have HS := zHd (rsum_any v lo hi l _ (HV.out.alloc hhi (.cells #[.int .i64 0, .int .i64 0, .int .i64 0, .int .i64 0, .int .i64 0] 131)) hl)
 obtain ⟨A, c, rfl, _, _, _, _⟩ := hv
 clear hl
 go_enter Tryz.func93, Tryz.ntmps93
 go_upto_region 1 with (fail)
 obtain ⟨w0, hw0⟩ : ∃ w0, w0 = w.alloc (.cells #[.int .i64 0, .int .i64 0, .int .i64 0, .int .i64 0, .int .i64 0] 131) := ⟨_, rfl⟩
 rw [← hw0] at HS HA0 HX0 ⊢
 have hsz0 : w.heap.size < w0.heap.size := by rw [hw0]; simp
 clear hw0
 go_wp2_with fail
 refine Calls.mono HS.out ?_
 rintro e w1 ⟨rfl, rfl⟩
 go_wp2_with (at_builtin; refine wpList_addn rfl (.const (.slice none 0 0)) (.tmp 11) rfl w0.heap.size _ [] rfl (Own.nil _ _) lo hi _ l rfl (HV.out.below HX0.out hhi) l l.length rfl rfl (by omega) (zNr _) ?_)
 intro A2 c2 w2 ho2 hb2
 have HO2 := zHd ho2
 have HX2 : Hid (Ext w0 w2) := hb2 w0 (Ext.refl _)
 clear ho2 hb2
 go_wp2_with (at_builtin; refine wpList_addn rfl (.tmp 12) (.tmp 13) rfl w0.heap.size _ l rfl (HO2.out.below (ext_alloc w2 _)) _ _ _ [1] rfl (bs_new w2 [1] (by simp)) (l ++ [1]) (l ++ [1]).length rfl rfl (by simp; omega) (by have := HX2.out.size; simp; omega) ?_)
 intro A3 c3 w3 ho3 hb3
 have HO3 := zHd ho3
 have HX3 : Hid (Ext w0 w3) := hb3 w0 (zEt HX2.out (ext_alloc w2 _))
 clear ho3 hb3
 go_wp2_with fail
 refine (rsum_any _ _ _ (l ++ [1]) _ HO3.out.bs (snoc_lt HL.out)).mono ?_
 rintro e w4 ⟨rfl, rfl⟩
 go_wp2_with fail
 rw [HW.out, ← H0.out]
 have HA3 := zHd (HA0.out.below HX3.out hsz0)
 have hsz3 : w.heap.size < w3.heap.size := by have := HX3.out.size; omega
 have HX03 : Hid (Ext w w3) := zEt HX0.out HX3.out
 go_loopw [8] (fun i wr => ∃ k : Nat, k ≤ 5 ∧ i = .int .i64 (k : Int) ∧ Hid (IArr wr w.heap.size 131 (part (kb l m) 5 0)) ∧ Hid (IArr wr w3.heap.size 131 (part (kb l m) 5 k)) ∧ Hid (Below w.heap.size w wr)) (fun i _ => 5 - (intOf i).toNat)
 case atStart =>
  exact ⟨0, by omega, rfl, HA3.out.below (below_new1 _ _) hsz3, heap_alloc_new _ _, zEt HX03.out (ext_alloc _ _)⟩
 case round =>
  obtain ⟨k, hk, rfl, HA, HC, HB⟩ := hrel
  by_cases hlt : k < 5
  · have hcell := HC.out.cell k (by rw [part_length]; exact hlt)
    have hfree := HC.out.free k
    have HK := zHd (kb_int l m k hm1 hm2)
    have hmz : ((m : Int) == 0) = false := by simp; omega
    go_wp2_with fail
    go_roundw
    case rel =>
     rw [HK.out]
     refine ⟨k + 1, by omega, by go_num, HA.out.far (by simp; omega) _, ?_, below_set HB.out (by omega) _ _⟩
     have := HC.out.set k (kb l m k)
     rw [part_set] at this
     exact this
    case measure => simp [intOf]; omega
  · obtain rfl : k = 5 := by omega
    go_wp2_with (first | (refine wpList_load_row rfl 131 (.tmp 7) rfl w3.heap.size rfl 131 _ (0, 0) _ HC.out Tryz.underlying131 rfl info5 ?_) | (refine wpList_store_row rfl 131 (.tmp 4) (.tmp 33) rfl w.heap.size (irow (part (kb l m) 5 5)) rfl rfl 131 _ HA.out info5 (by simp [irow_size, part_length]) (irow_one _) ?_))
    have HR := HA.out.setRow (part (kb l m) 5 5)
    refine bodyPost_ret (v := .agg (irow (part (kb l m) 5 5))) (results_cell_row Tryz.results93 _ _ w.heap.size 131 _ (0, 0) _ rfl HR Tryz.underlying131 rfl (by simp [irow_size, part_length, info5])) rfl ⟨by rw [part_kbs], below_row HB.out (zNr _) _⟩
end Go.Proofs.YtkdidghfcfcpfaaGreat.Bl
namespace Go.Proofs.YtkdidghfcfcpfaaGreat.Bl
open Go.ChangeShapes Go.WideShapes Go.ChangeAt Go.RowKit
theorem IArr.lt {w : World} {b : Nat} {t : TypeId} {l : List Nat} (h : IArr w b t l) : b < w.heap.size := (zAg.1 h).1
theorem setB_is {G : List Nat} {j q x M : Nat} (hq : q = j / 8) (hqn : q < G.length) (hx : x = G[q]) (hM : M = 2 ^ (j % 8)) (hx8 : x < 256) : (bitOf G j = true → setB G j = G) ∧ (bitOf G j = false → setB G j = G.set q (x + M) ∧ x + M < 256) := by
 subst hq hM
 have hb := bit_at hqn
 rw [← hx] at hb
 have hs := byte_set x hx8 (j % 8) (Nat.mod_lt _ (by decide))
 have hlt := byte_or x hx8 (j % 8) (Nat.mod_lt _ (by decide))
 have e : setB G j = G.set (j / 8) (x ||| 2 ^ (j % 8)) := by unfold setB; rw [List.getD_eq_getElem?_getD, List.getElem?_eq_getElem hqn, hx]; rfl
 constructor
 · intro h
   rw [hb, beq_iff_eq] at h
   rw [if_pos h] at hs
   rw [e, hs, hx, List.set_getElem_self]
 · intro h
   rw [hb] at h
   have h' : ¬ x / 2 ^ (j % 8) % 2 = 1 := by intro h2; rw [h2] at h; cases h
   rw [if_neg h'] at hs
   rw [hs] at hlt
   exact ⟨by rw [e, hs], hlt⟩
set_option maxRecDepth 100000 in
set_option maxHeartbeats 8000000 in
theorem radd_any {u v : Value} {lo hi lo2 hi2 : Nat} {F l : List Nat} {w : World} (hu : Bs w lo hi u F) (hF : ∀ x ∈ F, x < 256) (hf0 : 0 < F.length) (hf1 : F.length ≤ 131072) (hv : Bs w lo2 hi2 v l) (hhi2 : hi2 ≤ w.heap.size) (hl : ∀ x ∈ l, x < 256) (hll : l.length ≤ 1000000) :
    Calls Tryz.prog 96 #[u, v] w fun e w' => ∃ g c, e = .returned (.slice (some ⟨g, 0, none⟩) F.length c) ∧ Own w.heap.size (addK F l) (.slice (some ⟨g, 0, none⟩) F.length c) w' ∧ Ext w w' := by
 have HU := zHd hu
 have HV := zHd hv
 have HF := zHd hF
 have HL := zHd hl
 have HN0 := zHd hf0
 have HN1 := zHd hf1
 have HLL := zHd hll
 obtain ⟨A, c, rfl, q1, q2, _, _⟩ := hu
 have hl8 : 8 * (F.length : Int) = ((8 * F.length : Nat) : Int) := by omega
 have HWL := zHd hl8
 have hli : (F.length : Int) ≤ 131072 := by omega
 clear q1 q2 hv hF hl hf0 hf1 hl8 hll
 go_enter Tryz.func96, Tryz.ntmps96
 go_wp2_with (at_builtin; refine wpList_addn rfl (.const (.slice none 0 0)) (.tmp 8) rfl w.heap.size _ [] rfl (Own.nil _ _) lo hi _ F rfl HU.out F F.length rfl rfl (by have := HN1.out; omega) (zNr _) ?_)
 intro A2 c2 w2 ho2 hb2
 obtain ⟨g, c2', he, hg1, hg2, _⟩ := ho2.block HN0.out
 injection he with e1 _ e3
 subst e1 e3
 have HO2 := zHd ho2
 have HX2 : Hid (Ext w w2) := hb2 w (Ext.refl _)
 clear ho2 hb2
 go_wp2_with fail
 rw [HWL.out]
 refine (rbits_any v lo2 hi2 l (8 * F.length) w2 (HV.out.below HX2.out hhi2) (zNt hhi2 HX2.out.size) HL.out HLL.out (by have := HN0.out; omega) (by have := HN1.out; omega)).mono ?_
 rintro e w3 ⟨rfl, hb⟩
 have HX23 : Hid (Ext w2 w3) := hb
 clear hb
 have HZ5 := zHd (zeros5 w3)
 go_wp2_with (refine wpList_store_row rfl 131 (.tmp 6) (.tmp 14) rfl w3.heap.size (irow (kbs l (8 * F.length))) rfl rfl 131 _ HZ5.out info5 (by simp [irow_size, kbs_length]) (irow_one _) ?_)
 obtain ⟨w4, hw4⟩ : ∃ w4, w4 = (w3.alloc (.cells #[.int .i64 0, .int .i64 0, .int .i64 0, .int .i64 0, .int .i64 0] 131)).setRow w3.heap.size (irow (kbs l (8 * F.length))) := ⟨_, rfl⟩
 obtain ⟨b, hb⟩ : ∃ b, b = w3.heap.size := ⟨_, rfl⟩
 have HA4 : Hid (IArr w4 b 131 (kbs l (8 * F.length))) := by rw [hw4, hb]; exact HZ5.out.setRow _
 have HX34 : Hid (Ext w3 w4) := by rw [hw4]; exact below_row (ext_alloc _ _) (zNr _) _
 have HX4 : Hid (Ext w w4) := zEt HX2.out (zEt HX23.out HX34.out)
 have HO4 := zHd ((HO2.out.below HX23.out).below HX34.out)
 have HGB : Hid (g < b) := by rw [hb]; have := HX23.out.size; unfold Hid; omega
 have HBW : Hid (w.heap.size ≤ b) := by have := HGB.out; unfold Hid; omega
 have HB4 : Hid (b < w4.heap.size) := by
  have h : w3.heap.size < w4.heap.size := by rw [hw4]; simp
  rw [hb]; exact h
 rw [← hw4, ← hb]
 clear hw4 hb HZ5 hg2
 go_loopw [7] (fun i wr => ∃ k : Nat, k ≤ 5 ∧ i = .int .i64 (k : Int) ∧ Hid (Own w.heap.size (((kbs l (8 * F.length)).take k).foldl setB F) (.slice (some ⟨g, 0, none⟩) F.length c2) wr) ∧ Hid (IArr wr b 131 (kbs l (8 * F.length))) ∧ Hid (Ext w wr)) (fun i _ => 5 - (intOf i).toNat)
 case atStart => exact ⟨0, by omega, rfl, HO4, HA4, HX4⟩
 case round =>
  obtain ⟨k, hk, rfl, HOK, HAK, HXK⟩ := hrel
  by_cases hlt : k < 5
  · obtain ⟨G, hG⟩ : ∃ G, G = ((kbs l (8 * F.length)).take k).foldl setB F := ⟨_, rfl⟩
    have HOG : Hid (Own w.heap.size G (.slice (some ⟨g, 0, none⟩) F.length c2) wr) := by rw [hG]; exact HOK.out
    have hGl : G.length = F.length := by rw [hG, setBs_length]
    have HGN : Hid (∀ x ∈ G, x < 256) := by rw [hG]; exact setBs_lt HF.out
    obtain ⟨j, hj⟩ : ∃ j, j = kb l (8 * F.length) k := ⟨_, rfl⟩
    have hjl : j < 8 * F.length := by rw [hj]; exact kb_lt (by have := HN0.out; omega)
    have hkj : (kbs l (8 * F.length))[k]'(by rw [kbs_length]; exact hlt) = j := by rw [kbs_get, hj]
    have a0 := HAK.out.cell k (by rw [kbs_length]; exact hlt)
    rw [hkj] at a0
    have HST : Hid (((kbs l (8 * F.length)).take (k + 1)).foldl setB F = setB G j) := by rw [kbs_take F l hlt, ← hG, ← hj]; exact rfl
    obtain ⟨q, hq⟩ : ∃ q, q = j / 8 := ⟨_, rfl⟩
    have hqn : q < G.length := by omega
    obtain ⟨x, hx⟩ : ∃ x, x = G[q] := ⟨_, rfl⟩
    have HX8 : Hid (x < 256) := by rw [hx]; exact HGN.out _ (List.getElem_mem _)
    obtain ⟨M, hM⟩ : ∃ M, M = 2 ^ (j % 8) := ⟨_, rfl⟩
    have HSB := zHd (setB_is hq hqn hx hM HX8.out)
    have c0 : wr.cell? ⟨g, q, none⟩ = some (.int .u8 (x : Int)) := by rw [hx]; exact HOG.out.cell hqn
    have HBG : Bs wr 0 wr.heap.size (.slice (some ⟨g, 0, none⟩) G.length c2) G := by rw [hGl]; exact HOG.out.bs
    have HONE := zHd (rhas_any (j := j) HBG HGN.out (by omega) (by omega))
    rw [hGl] at HONE
    obtain ⟨z, hz⟩ : ∃ z, z = bitOf G j := ⟨_, rfl⟩
    rw [← hz] at HONE HSB
    have HJ8 : Hid ((j : Int) / 8 = (q : Int)) := by rw [hq]; unfold Hid; omega
    have HWQ : Hid (IntKind.i64.wrap (q : Int) = (q : Int)) := IntWalk.i64_in _ (by omega)
    obtain ⟨r, hr⟩ : ∃ r, r = j % 8 := ⟨_, rfl⟩
    have hr8 : r < 8 := by rw [hr]; exact Nat.mod_lt _ (by decide)
    have HR8 : Hid ((j : Int).tmod 8 = (r : Int)) := by rw [hr, Int.tmod_eq_emod_of_nonneg (by omega)]; unfold Hid; omega
    have HWR : Hid (IntKind.u64.wrap (r : Int) = (r : Int)) := by rw [IntKind.wrap_u64]; unfold Hid; omega
    have HSH : Hid (IntKind.u8.wrap ((2 : Int) ^ r) = (M : Int)) := by rw [hr, hM]; exact shl8 j
    have hqi : (q : Int) < (F.length : Int) := by omega
    have HQL := zHd hqn
    have hji : (j : Int) ≤ 1048576 := by omega
    clear hG hj hkj hq hx hqn hGl hk hM hz hr HBG
    cases z with
    | true =>
     have HSM := zHd (HSB.out.1 rfl)
     go_wp2_with fail
     refine Calls.mono HONE.out ?_
     rintro e w5 ⟨rfl, rfl⟩
     go_wp2_with fail
     go_roundw
     case rel => exact ⟨k + 1, by omega, by go_num, by rw [HST.out, HSM.out]; exact HOG, HAK, HXK⟩
     case measure => simp [intOf]; omega
    | false =>
     obtain ⟨hsm, hxm⟩ := HSB.out.2 rfl
     have HSM := zHd hsm
     have HXM : Hid (IntKind.u8.wrap ((x : Int) + (M : Int)) = ((x + M : Nat) : Int)) := by
      have e : (x : Int) + (M : Int) = ((x + M : Nat) : Int) := by omega
      rw [e]
      simp only [IntKind.wrap, IntKind.signed, IntKind.bits, Hid]
      simp
      omega
     clear hsm hxm
     obtain ⟨S, hS⟩ : ∃ S, S = x + M := ⟨_, rfl⟩
     rw [← hS] at HSM HXM
     clear hS
     go_upto_region 7 with (go_at_call 94; refine Calls.mono HONE.out ?_; rintro e w5 ⟨rfl, rfl⟩)
     refine flow_tail (by kernel_rfl) [Is (.slice (some ⟨g, 0, none⟩) F.length c2), Is (.int .i64 (k : Int)), Is (.pointer (some ⟨b, k, none⟩)), Is (.int .i64 (j : Int)), Is (.int .i64 (q : Int)), Is (.slice (some ⟨g, 0, none⟩) F.length c2), Is (.int .i64 (k : Int)), Is (.pointer (some ⟨b, k, none⟩)), Is (.int .i64 (j : Int)), Is (.int .i64 (q : Int)), Is (.pointer (some ⟨g, q, none⟩)), Is (.int .u8 (x : Int)), Is (.int .i64 (k : Int)), Is (.pointer (some ⟨b, k, none⟩)), Is (.int .i64 (j : Int)), Is (.int .i64 (r : Int)), Is (.int .u64 (r : Int)), Is (.int .u8 (M : Int)), Is (.int .u8 (S : Int)), Is (.pointer (some ⟨g, q, none⟩))] 20 (by kernel_rfl) (by kernel_rfl) (by kernel_rfl) (by kernel_rfl) ?mono (fun f1 => ?obl) ?fin
     case mono =>
      simp only [List.forall_mem_cons, List.not_mem_nil, false_imp_iff, implies_true, and_true]
      and_intros <;> exact .is _
     case fin =>
      intro g1 u hu hg
      simp only [List.take_succ_cons, List.take_zero, List.drop_succ_cons, List.drop_zero, puts, Act.put, zq]
      have h18 : g1 18 = _ := hg 18 (by decide)
      have h19 : g1 19 = _ := hg 19 (by decide)
      rw [h18, h19]
      have HXU : Hid (Ext wr u) := zEt (Ext.drew wr) hu
      have HOU := zHd (HOG.out.below HXU.out)
      have HAU := zHd (HAK.out.below HXU.out HAK.out.lt)
      have c1 := ext_cell HXU.out c0
      have f1 : u.frozen? ⟨g, q, none⟩ = false := HOU.out.free q
      clear hg hu h18 h19 c0 a0
      go_wp2_with fail
      go_roundw
      case rel =>
       refine ⟨k + 1, by omega, by go_num, zHd (by rw [HST.out, HSM.out]; exact HOU.out.set q _), zHd (HAU.out.far (by have := HGB.out; simp; omega) _), zHd ?_⟩
       exact (zEt HXK.out HXU.out).setCell hg1 _
      case measure => simp [intOf]; omega
     case obl =>
      refine ⟨fun u hu hd => ?_, fun u hu hd => ?_, fun u hu hd => ?_, fun u hu hd => ?_, fun u hu hd => ?_, fun u hu hd => ?_, fun u hu hd => ?_, fun u hu hd => ?_, fun u hu hd => ?_, fun u hu hd => ?_, fun u hu hd => ?_, fun u hu hd => ?_, fun u hu hd => ?_, fun u hu hd => ?_, fun u hu hd => ?_, fun u hu hd => ?_, fun u hu hd => ?_, fun u hu hd => ?_, fun u hu hd => ?_, fun u hu hd => ?_, trivial⟩
      all_goals try simp only [Act.put, zq]
      · go_simp
        exact zEr
      · go_simp
        exact zEr
      · have e1 : f1 1 = _ := hd 1 (by kernel_rfl)
        go_simp
        exact zEr
      · have e2 : f1 2 = _ := hd 2 (by kernel_rfl)
        have hu2 := zEt (Ext.drew wr) hu
        have q0 := ext_cell hu2 a0
        go_simp
        exact zEr
      · have e3 : f1 3 = _ := hd 3 (by kernel_rfl)
        have q1 := HJ8.out
        have q2 := HWQ.out
        go_simp
        exact zEr
      · go_simp
        exact zEr
      · go_simp
        exact zEr
      · have e6 : f1 6 = _ := hd 6 (by kernel_rfl)
        go_simp
        exact zEr
      · have e7 : f1 7 = _ := hd 7 (by kernel_rfl)
        have hu2 := zEt (Ext.drew wr) hu
        have q0 := ext_cell hu2 a0
        go_simp
        exact zEr
      · have e8 : f1 8 = _ := hd 8 (by kernel_rfl)
        have q1 := HJ8.out
        have q2 := HWQ.out
        go_simp
        exact zEr
      · have e5 : f1 5 = _ := hd 5 (by kernel_rfl)
        have e9 : f1 9 = _ := hd 9 (by kernel_rfl)
        go_simp
        exact zEr
      · have e10 : f1 10 = _ := hd 10 (by kernel_rfl)
        have hu2 := zEt (Ext.drew wr) hu
        have q0 := ext_cell hu2 c0
        go_simp
        exact zEr
      · go_simp
        exact zEr
      · have e12 : f1 12 = _ := hd 12 (by kernel_rfl)
        go_simp
        exact zEr
      · have e13 : f1 13 = _ := hd 13 (by kernel_rfl)
        have hu2 := zEt (Ext.drew wr) hu
        have q0 := ext_cell hu2 a0
        go_simp
        exact zEr
      · have e14 : f1 14 = _ := hd 14 (by kernel_rfl)
        have q1 := HR8.out
        go_simp
        exact zEr
      · have e15 : f1 15 = _ := hd 15 (by kernel_rfl)
        have q1 := HWR.out
        go_simp
        exact zEr
      · have e16 : f1 16 = _ := hd 16 (by kernel_rfl)
        have q1 := HSH.out
        go_simp
        exact zEr
      · have e11 : f1 11 = _ := hd 11 (by kernel_rfl)
        have e17 : f1 17 = _ := hd 17 (by kernel_rfl)
        have q1 := HXM.out
        go_simp
        exact zEr
      · have e0 : f1 0 = _ := hd 0 (by kernel_rfl)
        have e4 : f1 4 = _ := hd 4 (by kernel_rfl)
        go_simp
        exact zEr
  · obtain rfl : k = 5 := by omega
    have e := HOK.out
    rw [List.take_of_length_le (by rw [kbs_length]; exact zNr _)] at e
    have HE := zHd e
    clear e
    go_wp2_with fail
    go_ret
    exact ⟨g, c2, rfl, HE.out, HXK.out⟩
end Go.Proofs.YtkdidghfcfcpfaaGreat.Bl
namespace Go.Proofs.YtkdidghfcfcpfaaGreat.Bl
open Go.ChangeShapes Go.WideShapes Go.ChangeAt Go.RowKit
set_option maxRecDepth 100000 in
set_option maxHeartbeats 4000000 in
theorem rmake_any (A : Option Addr) (c lo hi : Nat) (vs : List Value) (ls : List (List Nat)) (w : World) (h : Rows2 w lo hi A vs ls) (hhi : hi ≤ w.heap.size) (hlen : ls.length ≤ 65536) (hl : ∀ l ∈ ls, ∀ x ∈ l, x < 256) (hll : ∀ l ∈ ls, l.length ≤ 1000000) :
    Calls Tryz.prog 58 #[.slice A ls.length c] w fun e w' => ∃ A' c', e = .returned (.slice A' (bsize ls.length) c') ∧ Own w.heap.size (mk ls) (.slice A' (bsize ls.length) c') w' ∧ Ext w w' := by
 have HR := zHd h
 have HL := zHd hl
 have HLL := zHd hll
 clear h hl hll
 have HS := zHd (rsize_any (ls.length : Int) (by omega) (by omega) w)
 have HZ := zHd (bsize_pos ls.length)
 have HZ2 : Hid (bsize ls.length ≤ 65544) := bsize_le (by omega)
 rw [sizeI_nat (by omega)] at HS
 obtain ⟨N, hN⟩ : ∃ N, N = bsize ls.length := ⟨_, rfl⟩
 rw [← hN] at HS HZ HZ2
 have HN := zHd hN
 obtain ⟨w1, hrun, hown, hx⟩ := zeros_run w N (by have := HZ2.out; omega)
 have HO1 := zHd hown
 have HX1 := zHd hx
 have hli : (ls.length : Int) ≤ 65536 := by omega
 clear hown hx hN
 go_enter Tryz.func58, Tryz.ntmps58
 go_wp2_with fail
 refine Calls.mono HS.out ?_
 rintro e w2 ⟨rfl, rfl⟩
 go_wp2_with fail
 have HF0 : Hid ((List.replicate N 0).length = N) := List.length_replicate
 go_loopw [3, 4] (fun f i wr => ∃ (k : Nat) (g : Nat) (cc : Nat), k ≤ ls.length ∧ i = .int .i64 (k : Int) ∧ f = .slice (some ⟨g, 0, none⟩) N cc ∧ Hid (Own w.heap.size ((ls.take k).foldl addK (List.replicate N 0)) (.slice (some ⟨g, 0, none⟩) N cc) wr) ∧ Hid (Ext w wr)) (fun _ i _ => ls.length - (intOf i).toNat)
 case atStart => exact ⟨0, w.heap.size, N, Nat.zero_le _, rfl, rfl, HO1, HX1⟩
 case round =>
  obtain ⟨k, g, cc, hk, rfl, rfl, HOK, HXK⟩ := hrel
  have HRK : Hid (Rows2 wr lo hi A vs ls) := HR.out.below HXK.out hhi
  by_cases hlt : k < ls.length
  · have d : decide ((k : Int) < (ls.length : Int)) = true := decide_eq_true (by omega)
    have dn : decide (k < ls.length) = true := decide_eq_true hlt
    obtain ⟨b, o, A', c', rfl, hcell, q1, q2, q3, q4⟩ := HRK.out.at_ hlt
    have HV : Hid (Bs wr lo hi (.slice A' ls[k].length c') ls[k]) := ⟨A', c', rfl, q1, q2, q3, q4⟩
    obtain ⟨G, hG⟩ : ∃ G, G = (ls.take k).foldl addK (List.replicate N 0) := ⟨_, rfl⟩
    have hGN : G.length = N := by rw [hG, addKs_length, HF0.out]
    have HOG : Hid (Own w.heap.size G (.slice (some ⟨g, 0, none⟩) G.length cc) wr) := by rw [hGN, hG]; exact HOK.out
    have HADD := zHd (radd_any HOG.out.bs (by rw [hG]; exact addKs_lt (zeros_lt _)) (by have := HZ.out; omega) (by have := HZ2.out; omega) HV.out (by have := HXK.out.size; omega) (HL.out _ (List.getElem_mem hlt)) (HLL.out _ (List.getElem_mem hlt)))
    rw [hGN] at HADD
    have HNX : Hid ((ls.take (k + 1)).foldl addK (List.replicate N 0) = addK G ls[k]) := by rw [hG]; exact mk_take ls _ hlt
    clear q1 q2 q3 q4 hG hGN
    go_wp2_with fail
    refine Calls.mono HADD.out ?_
    rintro e w3 ⟨g3, c3, rfl, ho, hb⟩
    have HO3 : Hid (Own w.heap.size (addK G ls[k]) (.slice (some ⟨g3, 0, none⟩) N c3) w3) := ho.base HXK.out.size
    have HX3 : Hid (Ext w w3) := zEt HXK.out hb
    clear ho hb
    go_wp2_with fail
    go_roundw
    case rel => exact ⟨k + 1, g3, c3, by omega, by go_num, rfl, by rw [HNX.out]; exact HO3, HX3⟩
    case measure => simp [intOf]; omega
  · have d : decide ((k : Int) < (ls.length : Int)) = false := decide_eq_false (by omega)
    have dn : decide (k < ls.length) = false := decide_eq_false hlt
    obtain rfl : k = ls.length := by omega
    go_wp2_with fail
    go_ret
    refine ⟨some ⟨g, 0, none⟩, cc, by rw [HN.out]; rfl, ?_, HXK.out⟩
    have e := HOK.out
    rw [List.take_length] at e
    unfold mk
    rw [← HN.out]
    exact e
end Go.Proofs.YtkdidghfcfcpfaaGreat.Bl
