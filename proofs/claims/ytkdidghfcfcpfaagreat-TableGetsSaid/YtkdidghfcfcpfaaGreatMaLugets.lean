/- TableGets: for every input the law answers true, and its arguments stay. No conditions. -/
import Derived.Test.YtkdidghfcfcpfaaGreatMa20
import Derived.Test.YtkdidghfcfcpfaaGreatMa21
import Derived.Test.YtkdidghfcfcpfaaGreatMa14
import Derived.Test.YtkdidghfcfcpfaaGreatMa7
import Derived.Test.YtkdidghfcfcpfaaGreatMa0
namespace Go.Proofs.YtkdidghfcfcpfaaGreat.ugets
open Go.ChangeShapes Go.WideShapes Go.ChangeAt Go.RowKit
theorem em_zero (w : World) : Em w 0 w.heap.size zeroE ⟨none, 0, none, 0⟩ := ⟨Bs.nil _ _ _, Bs.nil _ _ _, (fun x hx => by cases hx), (fun x hx => by cases hx), by decide, by decide, by decide, by decide⟩
theorem em_next {w w' : World} {e : Ent} {g : Hd} (h : Em w 0 w.heap.size e g) (hx : Ext w w') : Em w' 0 w'.heap.size e g := (h.below hx (zNr _)).wide (zNr _) hx.size
theorem got_t {w w' : World} {L : List Ent} {inn : Bool} {key : List Nat} {s : Int} {x : Ending} (h : TGetAns w L inn key s x w') : Ext w w' ∧ ∃ g : Hd, x = .returned (.tuple #[((if inn then L.find? (seenE key s) else none).getD zeroE).at_ g, .int .i64 (if (if inn then L.find? (seenE key s) else none).isSome then 0 else 6)]) ∧ Em w' 0 w'.heap.size ((if inn then L.find? (seenE key s) else none).getD zeroE) g := by
 obtain ⟨hx, h⟩ := h
 refine ⟨hx, ?_⟩
 cases ho : (if inn then L.find? (seenE key s) else none) with
 | none => rw [ho] at h; exact ⟨⟨none, 0, none, 0⟩, h, em_zero _⟩
 | some e => rw [ho] at h; exact h
theorem got_v {w w' : World} {o : Option Ent} {x : Ending} (h : RVGetAns w o x w') : Ext w w' ∧ ∃ g : Hd, x = .returned (.tuple #[(o.getD zeroE).at_ g, .int .i64 (if o.isSome then 0 else 6)]) ∧ Em w' 0 w'.heap.size (o.getD zeroE) g := by
 obtain ⟨hx, h⟩ := h
 refine ⟨hx, ?_⟩
 cases o with
 | none => exact ⟨⟨none, 0, none, 0⟩, h, em_zero _⟩
 | some e => exact h
set_option maxRecDepth 100000 in
set_option maxHeartbeats 16000000 in
theorem walk (W : World) (A : Option Addr) (c : Nat) (L : List (Ent × Hd)) (hlc : L.length ≤ c) (_hc : c ≤ maxLen) (hE : Es W 0 W.heap.size A L) (hln : ∀ p ∈ L, p.1.key.length ≤ 140737488351232 ∧ p.1.val.length ≤ 140737488351232) (hn : L.length ≤ 2199023255552)
    (B : Option Addr) (c1 : Nat) (PL : List (Prt × PrtH)) (hlc1 : PL.length ≤ c1) (_hc1 : c1 ≤ maxLen) (hP : prts W 0 W.heap.size B PL) (hln1 : ∀ p ∈ PL, p.1.fr.length ≤ 140737488351232 ∧ p.1.tt.length ≤ 140737488351232) (hn1 : PL.length ≤ 140737488351232)
    (v2 : Value) (key : List Nat) (hK : Bs W 0 W.heap.size v2 key) (bk : ∀ x ∈ key, x < 256) (s : Int) (ws : (Lit.int .i64 s).wf = true) :
    Calls Tryz.prog 4 #[.slice A L.length c, .slice B PL.length c1, v2, .int .i64 s] W fun e w' => e = .returned (.bool true) ∧ Below W.heap.size W w' := by
 have HS := zHd (i64_wf ws)
 clear ws
 have HE0 := zHd hE
 have HP0 := zHd hP
 have HMU := zHd (tmuch_any (c := c) hE (zNr _) (by omega) hln)
 have HLG : Hid (∀ u, Ext W u → Calls Tryz.prog 17 #[.slice B PL.length c1] u fun x w' => ∃ z : Bool, LongAns PL z ∧ x = .returned (.bool z) ∧ Ext u w') := fun u hu => tlong_any (hP.below hu (zNr _)) hu.size hn1 hln1
 obtain ⟨kA, kc, rfl, hklc, hkcm, hkn, hkby⟩ := id hK
 have HK := zHd hK
 have HBK := zHd bk
 have HLC := zHd (And.intro hlc hlc1)
 have HKL : Hid (key.length ≤ 9223372036854775807) := by unfold maxLen at hkcm; unfold Hid; omega
 clear hE hP hln hn hlc hlc1 hln1 hn1 hK bk hklc hkcm hkn hkby _hc _hc1
 go_enter Tryz.func4, Tryz.ntmps4
 go_wp2_with fail
 refine HMU.out.mono ?_
 rintro x w2 ⟨z, hz, rfl, hx2⟩
 have HZ := zHd hz
 have HX2 : Hid (Ext W w2) := hx2
 clear hz hx2 HMU
 rcases z with _ | _
 rotate_left
 · go_wp2_with fail
   refine (uknown_any w2).mono ?_
   rintro x w3 ⟨rfl, hx⟩
   have HXK := zHd (zEt HX2.out hx)
   clear hx
   go_wp2_with fail
   go_ret
   exact ⟨rfl, HXK.out⟩
 have HB := zHd (HZ.out rfl)
 clear HZ
 go_wp2_with fail
 refine (HLG.out w2 HX2.out).mono ?_
 rintro x w3 ⟨z, hz, rfl, hx3⟩
 have HZ := zHd hz
 have HX3 : Hid (Ext W w3) := zEt HX2.out hx3
 clear hz hx3 HLG
 rcases z with _ | _
 rotate_left
 · go_wp2_with fail
   refine (uknown_any w3).mono ?_
   rintro x w4 ⟨rfl, hx⟩
   have HXK := zHd (zEt HX3.out hx)
   clear hx
   go_wp2_with fail
   go_ret
   exact ⟨rfl, HXK.out⟩
 have HB1 := zHd (HZ.out rfl)
 clear HZ
 by_cases hk9 : key.length ≤ 9000
 rotate_left
 · have d : decide ((9000 : Int) < (key.length : Int)) = true := decide_eq_true (by omega)
   have dn : decide (9000 < key.length) = true := decide_eq_true (by omega)
   clear hk9
   go_wp2_with fail
   refine (uknown_any w3).mono ?_
   rintro x w4 ⟨rfl, hx⟩
   have HXK := zHd (zEt HX3.out hx)
   clear hx
   go_wp2_with fail
   go_ret
   exact ⟨rfl, HXK.out⟩
 have d : decide ((9000 : Int) < (key.length : Int)) = false := decide_eq_false (by omega)
 have dn : decide (9000 < key.length) = false := decide_eq_false (by omega)
 have HK9 := zHd hk9
 clear hk9
 have HMB := zHd (rtmay_any (c := c) (HE0.out.below HX3.out (zNr _)) HX3.out.size (by have := HB.out.1; omega) HB.out.2)
 go_wp2_with fail
 refine HMB.out.mono ?_
 rintro x w4 ⟨z, hz, rfl, hx4⟩
 have HZ := zHd hz
 have HX4 : Hid (Ext W w4) := zEt HX3.out hx4
 clear hz hx4 HMB d dn
 rcases z with _ | _
 · go_wp2_with fail
   refine (uknown_any w4).mono ?_
   rintro x w5 ⟨rfl, hx⟩
   have HXK := zHd (zEt HX4.out hx)
   clear hx
   go_wp2_with fail
   go_ret
   exact ⟨rfl, HXK.out⟩
 have HM : Hid (MayT (L.map Prod.fst)) := HZ.out.1 rfl
 clear HZ
 have HCL := zHd (tlclip_any (c := c) (c2 := c1) (HE0.out.below HX4.out (zNr _)) HX4.out.size HM.out (HP0.out.below HX4.out (zNr _)) HX4.out.size HB1.out.1 HB1.out.2)
 obtain ⟨Ls, hLs⟩ : ∃ Ls, Ls = L.map Prod.fst := ⟨_, rfl⟩
 have HLS := zHd hLs
 obtain ⟨V, hV⟩ : ∃ V, V = clips PL := ⟨_, rfl⟩
 have HVL : Hid (V.fr.length ≤ 9000 ∧ V.tt.length ≤ 9000 ∧ (∀ x ∈ V.fr, x < 256) ∧ ∀ x ∈ V.tt, x < 256) := by
  rw [hV]
  have h1 := clips_of (P := fun l => l.length ≤ 9000) (Nat.zero_le _) (L := PL) HB1.out.2
  have h2 := clips_of (P := fun l => ∀ x ∈ l, x < 256) (fun x hx => by cases hx) (L := PL) (fun q hq => ⟨(HP0.out.each q hq).frb, (HP0.out.each q hq).ttb⟩)
  exact ⟨h1.1, h1.2, h2.1, h2.2⟩
 rw [← hLs, ← hV] at HCL
 clear hLs hV
 go_upto_region 3 with (fail)
 go_wp2_with fail
 refine HCL.out.mono ?_
 rintro x w5 ⟨hx5, g, C, fA, fc, tA, tc, rfl, htv, hf, ht⟩
 have HX5 : Hid (Ext W w5) := zEt HX4.out hx5
 have HH5 : Hid (w4.heap.size ≤ w5.heap.size) := hx5.size
 have HTV5 := zHd htv
 have HFT5 := zHd (And.intro hf ht)
 obtain ⟨w6, hw6⟩ : ∃ w6, w6 = w5.alloc (.cells #[.slice A L.length c, .slice fA V.fr.length fc, .slice tA V.tt.length tc, .bool V.en] 45) := ⟨_, rfl⟩
 have HX56 : Hid (Ext w5 w6) := by rw [hw6]; exact ext_alloc _ _
 have HVB : Hid (w6.heap[w5.heap.size]? = some (.cells #[.slice A L.length c, .slice fA V.fr.length fc, .slice tA V.tt.length tc, .bool V.en] 45 (0, 0))) := by rw [hw6]; exact heap_at _ _ rfl
 have HX6 : Hid (Ext W w6) := zEt HX5.out HX56.out
 obtain ⟨vb, hvb⟩ : ∃ vb, vb = w5.heap.size := ⟨_, rfl⟩
 clear hx5 htv hf ht HCL
 go_upto_region 4 with (fail)
 rw [← hw6]
 rw [← hvb] at HVB ⊢
 clear hw6 hvb
 have HTV6 := zHd (HTV5.out.ext HX56.out)
 have HK6 := zHd (HK.out.below HX6.out (zNr _))
 have HG := zHd (tget_any (s := s) HTV6.out HK6.out HX6.out.size HBK.out HS.out.1 HS.out.2)
 go_wp2_with fail
 refine HG.out.mono ?_
 intro x w7 hgt
 obtain ⟨hx7, g7, rfl, hm7⟩ := got_t hgt
 have hov := get_view V.fr V.tt V.en key s Ls
 rw [hov] at hm7
 rw [hov]
 obtain ⟨o, ho⟩ : ∃ o, o = (inV V.fr V.tt V.en Ls).find? (seenE key s) := ⟨_, rfl⟩
 rw [← ho] at hm7 ⊢
 have HO := zHd ho
 have HX7 : Hid (Ext W w7) := zEt HX6.out hx7
 have HVB7 := zHd (ext_heap hx7 HVB.out)
 have HTV7 := zHd (HTV6.out.ext hx7)
 have HX57 : Hid (Ext w5 w7) := zEt HX56.out hx7
 obtain ⟨e, he⟩ : ∃ e, e = o.getD zeroE := ⟨_, rfl⟩
 obtain ⟨no, hno⟩ : ∃ no : Int, no = if o.isSome then 0 else 6 := ⟨_, rfl⟩
 have HEE := zHd (And.intro he hno)
 rw [← he] at hm7
 rw [← he, ← hno]
 obtain ⟨w8, hw8⟩ : ∃ w8, w8 = w7.alloc (.cells #[.slice g7.kA e.key.length g7.kc, .int .i64 e.seq, .int .i64 e.kind, .slice g7.vA e.val.length g7.vc] 50) := ⟨_, rfl⟩
 have HX78 : Hid (Ext w7 w8) := by rw [hw8]; exact ext_alloc _ _
 have HEB : Hid (w8.heap[w7.heap.size]? = some (.cells #[.slice g7.kA e.key.length g7.kc, .int .i64 e.seq, .int .i64 e.kind, .slice g7.vA e.val.length g7.vc] 50 (0, 0))) := by rw [hw8]; exact heap_at _ _ rfl
 obtain ⟨eb, heb⟩ : ∃ eb, eb = w7.heap.size := ⟨_, rfl⟩
 have HM7 := zHd hm7
 clear hgt hx7 hm7 hov ho he hno HG
 dsimp only [Ent.at_]
 go_upto_region 7 with (fail)
 rw [← hw8]
 rw [← heb] at HEB ⊢
 clear hw8 heb
 have HX8 : Hid (Ext W w8) := zEt HX7.out HX78.out
 have HX58 : Hid (Ext w5 w8) := zEt HX57.out HX78.out
 have HVB8 := zHd (ext_heap HX78.out HVB7.out)
 have q0 := cell_of HVB8.out (k := 0) rfl
 have q1 := cell_of HVB8.out (k := 1) rfl
 have q2 := cell_of HVB8.out (k := 2) rfl
 have q3 := cell_of HVB8.out (k := 3) rfl
 have HRG := zHd (rvget_any (s := s) (c := c) (fc := fc) (tc := tc) (en := V.en) (HE0.out.below HX8.out (zNr _)) HX8.out.size (by have := HB.out.1; omega) (HFT5.out.1.below HX58.out HH5.out) (zNt HH5.out HX58.out.size) HVL.out.2.2.1 (HFT5.out.2.below HX58.out HH5.out) (zNt HH5.out HX58.out.size) HVL.out.2.2.2 (by have := HVL.out.1; omega) (by have := HVL.out.2.1; omega) (fun p hp => by have := HB.out.2 p hp; omega) (HK.out.below HX8.out (zNr _)) HX8.out.size HBK.out)
 rw [← HLS.out, ← HO.out] at HRG
 go_wp2_with fail
 refine HRG.out.mono ?_
 intro x w9 hgt
 obtain ⟨hx9, g9, rfl, hm9⟩ := got_v hgt
 rw [← HEE.out.1] at hm9
 rw [← HEE.out.1, ← HEE.out.2]
 have HX9 : Hid (Ext W w9) := zEt HX8.out hx9
 have HX59 : Hid (Ext w5 w9) := zEt HX58.out hx9
 have HM9 := zHd hm9
 have HM79 := zHd (em_next (em_next HM7.out HX78.out) hx9)
 have HTV9 := zHd ((HTV7.out.ext HX78.out).ext hx9)
 have HVB9 := zHd (ext_heap hx9 HVB8.out)
 have HEB9 := zHd (ext_heap hx9 HEB.out)
 obtain ⟨wa, hwa⟩ : ∃ wa, wa = w9.alloc (.cells #[.slice g9.kA e.key.length g9.kc, .int .i64 e.seq, .int .i64 e.kind, .slice g9.vA e.val.length g9.vc] 50) := ⟨_, rfl⟩
 have HX9A : Hid (Ext w9 wa) := by rw [hwa]; exact ext_alloc _ _
 have HFB : Hid (wa.heap[w9.heap.size]? = some (.cells #[.slice g9.kA e.key.length g9.kc, .int .i64 e.seq, .int .i64 e.kind, .slice g9.vA e.val.length g9.vc] 50 (0, 0))) := by rw [hwa]; exact heap_at _ _ rfl
 obtain ⟨fb, hfb⟩ : ∃ fb, fb = w9.heap.size := ⟨_, rfl⟩
 clear hgt hx9 hm9 HRG q0 q1 q2 q3
 dsimp only [Ent.at_]
 go_upto_region 8 with (fail)
 rw [← hwa]
 rw [← hfb] at HFB ⊢
 clear hwa hfb
 have HXA : Hid (Ext W wa) := zEt HX9.out HX9A.out
 have HX5A : Hid (Ext w5 wa) := zEt HX59.out HX9A.out
 have hva := ext_heap HX9A.out HVB9.out
 have hea := ext_heap HX9A.out HEB9.out
 have q0 := cell_of hva (k := 0) rfl
 have q1 := cell_of hva (k := 1) rfl
 have q2 := cell_of hva (k := 2) rfl
 have q3 := cell_of hva (k := 3) rfl
 have e0 := cell_of hea (k := 0) rfl
 have e1' := cell_of hea (k := 1) rfl
 have e2' := cell_of hea (k := 2) rfl
 have e3' := cell_of hea (k := 3) rfl
 have f0' := cell_of HFB.out (k := 0) rfl
 have f1' := cell_of HFB.out (k := 1) rfl
 have f2' := cell_of HFB.out (k := 2) rfl
 have f3' := cell_of HFB.out (k := 3) rfl
 have HSAME : Hid (∀ u, Ext wa u → Calls Tryz.prog 22 #[e.at_ g7, e.at_ g9] u fun x w' => x = .returned (.bool true) ∧ Ext u w') := fun u hu => by
  refine (rsame_any (em_next (em_next HM79.out HX9A.out) hu) (em_next (em_next HM9.out HX9A.out) hu) (zNr _) (zNr _)).mono ?_
  rintro x w' ⟨z, hz, rfl, hx⟩
  obtain rfl : z = true := hz.2 rfl
  exact ⟨rfl, hx⟩
 obtain ⟨m, hm⟩ : ∃ m, m = (hasV V.fr V.tt V.en key && Bl.mayB (Bl.mk (keysT Ls)) key) := ⟨_, rfl⟩
 have HMT : Hid (∀ u, Ext wa u → Calls Tryz.prog 23 #[.pointer (some ⟨g, 0, none⟩), .slice kA key.length kc] u fun x w' => x = .returned (.bool m) ∧ Ext u w') := fun u hu => by
  rw [hm]
  exact tmay_any ((HTV9.out.ext HX9A.out).ext hu) (HK.out.below (zEt HXA.out hu) (zNr _)) (zEt HXA.out hu).size HBK.out
 have HMR : Hid (∀ u, Ext wa u → Calls Tryz.prog 24 #[.agg #[.slice A L.length c, .slice fA V.fr.length fc, .slice tA V.tt.length tc, .bool V.en], .slice kA key.length kc] u fun x w' => x = .returned (.bool m) ∧ Ext u w') := fun u hu => by
  have hxu := zEt HXA.out hu
  have hx5 := zEt HX5A.out hu
  rw [hm, HLS.out]
  exact rvmay_any (HE0.out.below hxu (zNr _)) hxu.size (by have := HB.out.1; omega) (HFT5.out.1.below hx5 HH5.out) (zNt HH5.out hx5.size) HVL.out.2.2.1 (HFT5.out.2.below hx5 HH5.out) (zNt HH5.out hx5.size) HVL.out.2.2.2 (by have := HVL.out.1; omega) (by have := HVL.out.2.1; omega) (fun p hp => by have := HB.out.2 p hp; omega) (HK.out.below hxu (zNr _)) hxu.size HBK.out (by have := HK9.out; omega)
 clear hva hea hm
 refine flow (by kernel_rfl) [Is (.agg #[.slice g7.kA e.key.length g7.kc, .int .i64 e.seq, .int .i64 e.kind, .slice g7.vA e.val.length g7.vc]), Is (.agg #[.slice g9.kA e.key.length g9.kc, .int .i64 e.seq, .int .i64 e.kind, .slice g9.vA e.val.length g9.vc]), Is (.bool true), Is (.bool true), Is (.int .i64 no), Is (.int .i64 no), Is (.int .i64 no), Is (.bool true), Is (.bool true), Is (.bool true), Is (.pointer (some ⟨g, 0, none⟩)), Is (.slice kA key.length kc), Is (.bool m), Is (.agg #[.slice A L.length c, .slice fA V.fr.length fc, .slice tA V.tt.length tc, .bool V.en]), Is (.slice kA key.length kc), Is (.bool m), Is (.bool true), Is (.bool true), Is (.bool true), Is (.bool true), Is (.bool true), Is (.bool true)] (by kernel_rfl) (by kernel_rfl) ?mono (fun f1 => ?obl) ?fin
 case mono =>
  simp only [List.forall_mem_cons, List.not_mem_nil, false_imp_iff, implies_true, and_true]
  and_intros <;> exact .is _
 case fin =>
  intro g1 u hu hg
  simp only [puts, Act.put, zq]
  have h21 : g1 21 = _ := hg 21 (by decide)
  rw [h21]
  have HU := zHd (zEt HXA.out (zEt (Ext.drew wa) hu))
  clear h21 hg hu
  go_wp2_with fail
  go_ret
  exact ⟨rfl, HU.out⟩
 case obl =>
  refine ⟨fun u hu hd => ?_, fun u hu hd => ?_, fun u hu hd => ?_, fun u hu hd => ?_, fun u hu hd => ?_, fun u hu hd => ?_, fun u hu hd => ?_, fun u hu hd => ?_, fun u hu hd => ?_, fun u hu hd => ?_, fun u hu hd => ?_, fun u hu hd => ?_, fun u hu hd => ?_, fun u hu hd => ?_, fun u hu hd => ?_, fun u hu hd => ?_, fun u hu hd => ?_, fun u hu hd => ?_, fun u hu hd => ?_, fun u hu hd => ?_, fun u hu hd => ?_, fun u hu hd => ?_, trivial⟩
  all_goals try simp only [Act.put, zq]
  · have hu2 := zEt (Ext.drew wa) hu
    have q0 := ext_cell hu2 e0
    have q1 := ext_cell hu2 e1'
    have q2 := ext_cell hu2 e2'
    have q3 := ext_cell hu2 e3'
    go_simp
    exact zEr
  · have hu2 := zEt (Ext.drew wa) hu
    have q0 := ext_cell hu2 f0'
    have q1 := ext_cell hu2 f1'
    have q2 := ext_cell hu2 f2'
    have q3 := ext_cell hu2 f3'
    go_simp
    exact zEr
  · have e0 : f1 0 = _ := hd 0 (by kernel_rfl)
    have e1 : f1 1 = _ := hd 1 (by kernel_rfl)
    have hu2 := zEt (Ext.drew wa) hu
    go_simp
    refine (HSAME.out u hu2).mono ?_
    rintro x9 w9 ⟨rfl, hx9⟩
    exact ⟨_, rfl, hx9, rfl⟩
  · have e2 : f1 2 = _ := hd 2 (by kernel_rfl)
    go_simp
    exact zEr
  · have e3 : f1 3 = _ := hd 3 (by kernel_rfl)
    go_simp
    exact zEr
  · have e3 : f1 3 = _ := hd 3 (by kernel_rfl)
    have e4 : f1 4 = _ := hd 4 (by kernel_rfl)
    go_simp
    refine (unum no u).mono ?_
    rintro x9 w9 ⟨rfl, rfl⟩
    exact ⟨_, rfl, Ext.refl _, rfl⟩
  · have e3 : f1 3 = _ := hd 3 (by kernel_rfl)
    go_simp
    exact zEr
  · have e3 : f1 3 = _ := hd 3 (by kernel_rfl)
    have e5 : f1 5 = _ := hd 5 (by kernel_rfl)
    have e6 : f1 6 = _ := hd 6 (by kernel_rfl)
    go_simp
    exact zEr
  · have e3 : f1 3 = _ := hd 3 (by kernel_rfl)
    have e7 : f1 7 = _ := hd 7 (by kernel_rfl)
    go_simp
    exact zEr
  · have e8 : f1 8 = _ := hd 8 (by kernel_rfl)
    go_simp
    exact zEr
  · have e9 : f1 9 = _ := hd 9 (by kernel_rfl)
    go_simp
    exact zEr
  · have e9 : f1 9 = _ := hd 9 (by kernel_rfl)
    go_simp
    exact zEr
  · have e9 : f1 9 = _ := hd 9 (by kernel_rfl)
    have e10 : f1 10 = _ := hd 10 (by kernel_rfl)
    have e11 : f1 11 = _ := hd 11 (by kernel_rfl)
    have hu2 := zEt (Ext.drew wa) hu
    go_simp
    refine (HMT.out u hu2).mono ?_
    rintro x9 w9 ⟨rfl, hx9⟩
    exact ⟨_, rfl, hx9, rfl⟩
  · have e9 : f1 9 = _ := hd 9 (by kernel_rfl)
    have hu2 := zEt (Ext.drew wa) hu
    have q0 := ext_cell hu2 q0
    have q1 := ext_cell hu2 q1
    have q2 := ext_cell hu2 q2
    have q3 := ext_cell hu2 q3
    go_simp
    exact zEr
  · have e9 : f1 9 = _ := hd 9 (by kernel_rfl)
    go_simp
    exact zEr
  · have e9 : f1 9 = _ := hd 9 (by kernel_rfl)
    have e13 : f1 13 = _ := hd 13 (by kernel_rfl)
    have e14 : f1 14 = _ := hd 14 (by kernel_rfl)
    have hu2 := zEt (Ext.drew wa) hu
    go_simp
    refine (HMR.out u hu2).mono ?_
    rintro x9 w9 ⟨rfl, hx9⟩
    exact ⟨_, rfl, hx9, rfl⟩
  · have e9 : f1 9 = _ := hd 9 (by kernel_rfl)
    have e12 : f1 12 = _ := hd 12 (by kernel_rfl)
    have e15 : f1 15 = _ := hd 15 (by kernel_rfl)
    go_simp
    exact zEr
  · have e9 : f1 9 = _ := hd 9 (by kernel_rfl)
    have e16 : f1 16 = _ := hd 16 (by kernel_rfl)
    go_simp
    exact zEr
  · have e17 : f1 17 = _ := hd 17 (by kernel_rfl)
    go_simp
    exact zEr
  · have e18 : f1 18 = _ := hd 18 (by kernel_rfl)
    go_simp
    refine (uknown_any u).mono ?_
    rintro x9 w9 ⟨rfl, hx9⟩
    exact ⟨_, rfl, hx9, rfl⟩
  · have e18 : f1 18 = _ := hd 18 (by kernel_rfl)
    have e19 : f1 19 = _ := hd 19 (by kernel_rfl)
    go_simp
    exact zEr
  · have e20 : f1 20 = _ := hd 20 (by kernel_rfl)
    go_simp
    exact zEr
end Go.Proofs.YtkdidghfcfcpfaaGreat.ugets
namespace Go.Proofs.YtkdidghfcfcpfaaGreat.ugets
open Go.ChangeShapes Go.WideShapes Go.ChangeAt Go.RowKit
set_option linter.unusedVariables false
set_option maxRecDepth 100000 in
theorem lifted (os : Os) (started : os.Started) (H : Type) (enc : TypeId × Value → H) :
    ReturnsInHanded {} Tryz.checked os 4 .any (Rows.tableGetsSpec.pre6 enc Tryz.prog Tryz.f4 Rows.tableGetsRow.domain false) (Rows.tableGetsSpec.post enc Tryz.prog Tryz.f4 false true false false) := by
 refine returnsInHanded_of_change_sized (C := Tryz.checked) own started (by kernel_rfl) Tryz.func4
  (ChangeSpec.witness6 (enc := enc) (C := Tryz.checked) false ⟨#[], #[.slice none 0 0, .slice none 0 0, .slice none 0 0, .int .i64 0], []⟩ 8 (by kernel_rfl) (by kernel_rfl) (by kernel_rfl) (by kernel_rfl)) ?_
 intro W base args ds gs before hval0 hW hcnd hsz0 _
 have hsz : (DataW.weightsEach Tryz.prog (Tryz.f4.params.toList ++ Rows.tableGetsSpec.plain.varTypes Tryz.prog) (ds ++ gs)).all (· ≤ reachBytes) = true := hsz0
 have hval : ∀ (j : Nat) t v, Tryz.f4.params[j]? = some t → args[j]? = some v → Value.okWide Tryz.prog W .any base t v := hval0
 have hW' := hW
 obtain ⟨p, q, hA0, hV, rfl, hfz, hnd⟩ := hW
 have hA : DataW.TrodAll enc Tryz.prog W 0 (fun _ => true) true Tryz.f4.params.toList args.toList ds p := hA0
 rw [Tryz.params4] at hA hval hsz
 obtain ⟨v0, vs0, d0, ds0, p0, q0, hargs, rfl, rfl, h0, r0⟩ := trodAll_cons hA
 obtain ⟨v1, vs1, d1, ds1, p1, q1, rfl, rfl, rfl, h1, r1⟩ := trodAll_cons r0
 obtain ⟨v2, vs2, d2, ds2, p2, q2, rfl, rfl, rfl, h2, r2⟩ := trodAll_cons r1
 obtain ⟨v3, vs3, d3, ds3, p3, q3, rfl, rfl, rfl, h3, r3⟩ := trodAll_cons r2
 obtain ⟨rfl, rfl, rfl⟩ := trodAll_nil r3
 obtain rfl : args = #[v0, v1, v2, v3] := by cases args; simp_all
 obtain ⟨rfl, rfl⟩ := trodVars_none hV
 have k0 := h0
 have lt0 : ∀ x ∈ p0, x.block < W.heap.size := by obtain ⟨m, hm⟩ := k0; exact DataW.trod_lt m _ _ _ hm
 obtain ⟨A0, c0, L0, rfl, x0, y0, m0, z0, n0⟩ := open_entries (hval 0 28 v0 rfl rfl) h0 hsz (jj := 0) rfl rfl
 have k1 := h1
 have lt1 : ∀ x ∈ p1, x.block < W.heap.size := by obtain ⟨m, hm⟩ := k1; exact DataW.trod_lt m _ _ _ hm
 obtain ⟨A1, c1, L1, rfl, x1, y1, m1, z1, n1⟩ := open_prts (hval 1 41 v1 rfl rfl) h1 (fun n hn => of_decide_eq_true (List.all_eq_true.1 hsz _ (DataW.weights_mem_each (j := 1) rfl rfl n hn)))
 have k2 := h2
 have lt2 : ∀ x ∈ p2, x.block < W.heap.size := by obtain ⟨m, hm⟩ := k2; exact DataW.trod_lt m _ _ _ hm
 obtain ⟨l2, y2, b2⟩ := open_bytes (hval 2 22 v2 rfl rfl) h2
 obtain ⟨a3, rfl, rfl, rfl, w3⟩ := open_int Tryz.underlying2 (hval 3 2 v3 rfl rfl) h3
 clear hA0 hval0 hsz0
 refine (walk W A0 c0 L0 x0 y0 m0 z0 n0 A1 c1 L1 x1 y1 m1 z1 n1 v2 l2 b2 y2 a3 w3).mono fun e W' ⟨he, bel⟩ => ?_
 subst he
 exact ⟨_, rfl, _, _, _, [], _, [], hW', trodAll_mk1 (shut_bool Tryz.underlying4 _), (trodAll_cons_mk (Below.trod laidOut (by kernel_rfl) (of_decide_eq_true (by kernel_rfl)) k0 bel lt0) (trodAll_cons_mk (Below.trod laidOut (by kernel_rfl) (of_decide_eq_true (by kernel_rfl)) k1 bel lt1) (trodAll_cons_mk (Below.trod laidOut (by kernel_rfl) (of_decide_eq_true (by kernel_rfl)) k2 bel lt2) (trodAll_cons_mk (shut_int Tryz.underlying2 w3) trodAll_mk0)))), rfl, bel.frame _, fun h => by cases h⟩
theorem over : Rows.tableGetsRow.holds Tryz.pinned (OpenSpec.ofChange Rows.tableGetsSpec) :=
 OpenClaim.holds_of_wide 4 Tryz.f4 rfl rfl rfl rfl rfl rfl rfl ⟨rfl, rfl, rfl, rfl, rfl⟩ rfl rfl rfl rfl rfl (by kernel_rfl) Tryz.func4 (by kernel_rfl)
  (of_decide_eq_true (by kernel_rfl)) (by unfold Func.isWrapper; first | (rw [if_pos (by decide +kernel)]; kernel_rfl) | (rw [if_neg (by decide +kernel)]; exact ⟨rfl, rfl⟩))
  (fun os started H enc _ => lifted os started H enc)
theorem proved : Rows.TableGetsSaid := over
end Go.Proofs.YtkdidghfcfcpfaaGreat.ugets
