/- TableGoes: for every input the law answers true, and its arguments stay. No conditions. -/
import Derived.Test.YtkdidghfcfcpfaaGreatMb20
import Derived.Test.YtkdidghfcfcpfaaGreatMb21
import Derived.Test.YtkdidghfcfcpfaaGreatMb19
import Derived.Test.YtkdidghfcfcpfaaGreatMb13
import Derived.Deep.DeepCutAuto
import Derived.Test.YtkdidghfcfcpfaaGreatMb7
import Derived.Test.YtkdidghfcfcpfaaGreatMb0
namespace Go.Proofs.YtkdidghfcfcpfaaGreat.ugoes
open Go.ChangeShapes Go.WideShapes Go.ChangeAt Go.RowKit
theorem filter_drop {α : Type} {q : α → Bool} : ∀ {L : List α}, L.Pairwise (fun a b => q b = true → q a = true) → L.filter (fun e => !q e) = L.drop (cutOf q L)
 | [], _ => rfl
 | a :: l, h => by
  obtain ⟨h1, h2⟩ := List.pairwise_cons.1 h
  by_cases hq : q a = true
  · rw [List.filter_cons_of_neg (by simp [hq])]
    have e : cutOf q (a :: l) = cutOf q l + 1 := by unfold cutOf; rw [List.takeWhile_cons_of_pos hq]; rfl
    rw [e, List.drop_succ_cons]
    exact filter_drop h2
  · have e : cutOf q (a :: l) = 0 := by unfold cutOf; rw [List.takeWhile_cons_of_neg hq]; rfl
    rw [e, List.drop_zero]
    refine List.filter_eq_self.2 fun b hb => ?_
    rcases List.mem_cons.1 hb with rfl | hb
    · simp [hq]
    · have := mt (h1 b hb) hq; simp [this]
theorem from_view {fr tt key : List Nat} {en : Bool} {L : List Ent} (h : Rise L) : inV (clipF fr key) tt en L = (inV fr tt en L).drop (cutOf (belowK key) (inV fr tt en L)) := by
 rw [inV_clip, ← filter_drop]
 · congr 1
   funext e
   unfold belowK
   have := cmpK_turn key e.key
   by_cases hq : cmpK e.key key < 0
   · rw [decide_eq_true hq, decide_eq_false (by omega)]; rfl
   · rw [decide_eq_false hq, decide_eq_true (by omega)]; rfl
 · have hp : (inV fr tt en L).Pairwise (fun a b => cmpE a b < 0) := (rise_pair h).filter _
   exact hp.imp fun hab => belowK_down hab
theorem end_shape {w w' : World} {o : Option Ent} {x : Ending} (h : EndAns w o x w') : Ext w w' ∧ ∃ (e : Ent) (g : Hd), x = .returned (.tuple #[e.at_ g, .bool o.isSome]) ∧ (∀ e', o = some e' → e = e') ∧ (o.isSome = true → Em w' 0 w'.heap.size e g) := by
 obtain ⟨hx, h⟩ := h
 refine ⟨hx, ?_⟩
 cases o with
 | none => exact ⟨⟨[], 0, 0, []⟩, ⟨none, 0, none, 0⟩, h, fun e' he => (by cases he), fun h => (by cases h)⟩
 | some e =>
  obtain ⟨g, h1, h2⟩ := h
  exact ⟨e, g, h1, fun e' he => (by injection he), fun _ => h2⟩
def GoF (C : List (List Ent)) (L : List Ent) (fr tt : List Nat) (en : Bool) (v : Value) (u : World) : Prop := ∃ bx g, v = .func (.func 40) #[] #[.pointer (some ⟨bx, 0, none⟩)] ∧ Boxed u bx 24 (.pointer (some ⟨g, 0, none⟩)) ∧ TV u g C L fr tt en
theorem goF_mono (C : List (List Ent)) (L : List Ent) (fr tt : List Nat) (en : Bool) : Mono (GoF C L fr tt en) := fun _ _ _ ⟨bx, g, h, hb, hv⟩ hu => ⟨bx, g, h, ext_heap hu hb, hv.ext hu⟩
theorem goF_goes {C : List (List Ent)} {L : List Ent} {fr tt : List Nat} {en : Bool} {v : Value} {u : World} (h : GoF C L fr tt en v u) {lo2 hi2 c2 : Nat} {X : Option Addr} {L2 : List (Ent × Hd)} {most : Int} (h2 : Es u lo2 hi2 X L2) (hhi2 : hi2 ≤ u.heap.size) (hl2 : L2.length ≤ 1000000000000) (hfit : inV fr tt en L = L2.map Prod.fst) :
    Calls Tryz.prog 10 #[v, .slice X L2.length c2, .int .i64 most] u fun e w' => e = .returned (.bool true) ∧ Ext u w' := by
 obtain ⟨bx, g, rfl, hb, hv⟩ := h
 exact tgoes_any (hv.goes.2 u bx (Ext.refl _) hb) (fun A hA => ⟨hA, ext_heap hA hb⟩) h2 hhi2 hl2 hfit
set_option maxRecDepth 100000 in
set_option maxHeartbeats 16000000 in
theorem walk (W : World) (A : Option Addr) (c : Nat) (L : List (Ent × Hd)) (hlc : L.length ≤ c) (_hc : c ≤ maxLen) (hE : Es W 0 W.heap.size A L) (hln : ∀ p ∈ L, p.1.key.length ≤ 140737488351232 ∧ p.1.val.length ≤ 140737488351232) (hn : L.length ≤ 2199023255552)
    (B : Option Addr) (c1 : Nat) (PL : List (Prt × PrtH)) (hlc1 : PL.length ≤ c1) (_hc1 : c1 ≤ maxLen) (hP : prts W 0 W.heap.size B PL) (hln1 : ∀ p ∈ PL, p.1.fr.length ≤ 140737488351232 ∧ p.1.tt.length ≤ 140737488351232) (hn1 : PL.length ≤ 140737488351232)
    (v2 : Value) (key : List Nat) (hK : Bs W 0 W.heap.size v2 key) (bk : ∀ x ∈ key, x < 256) (most : Int) (_ws : (Lit.int .i64 most).wf = true) :
    Calls Tryz.prog 5 #[.slice A L.length c, .slice B PL.length c1, v2, .int .i64 most] W fun e w' => e = .returned (.bool true) ∧ Below W.heap.size W w' := by
 clear _ws
 have HE0 := zHd hE
 have HP0 := zHd hP
 have HMU := zHd (tmuch_any (c := c) hE (zNr _) (by omega) hln)
 have HLG : Hid (∀ u, Ext W u → Calls Tryz.prog 17 #[.slice B PL.length c1] u fun x w' => ∃ z : Bool, LongAns PL z ∧ x = .returned (.bool z) ∧ Ext u w') := fun u hu => tlong_any (hP.below hu (zNr _)) hu.size hn1 hln1
 obtain ⟨kA, kc, rfl, hklc, hkcm, hkn, hkby⟩ := id hK
 have HK := zHd hK
 have HBK := zHd bk
 have HLC := zHd (And.intro hlc hlc1)
 have HKL : Hid (key.length ≤ 9223372036854775807) := by unfold maxLen at hkcm; unfold Hid; omega
 clear hE hP hln hn hlc hlc1 hln1 hn1 hK bk hklc hkcm hkn hkby _hc _hc1
 go_enter Tryz.func5, Tryz.ntmps5
 go_wp2_with fail
 refine HMU.out.mono ?_
 rintro x w2 ⟨z, hz, rfl, hx2⟩
 have HZ := zHd hz
 have HX2 : Hid (Ext W w2) := hx2
 clear hz hx2 HMU
 rcases z with _ | _
 rotate_left
 · go_wp2_with fail
   refine (uknown_any w2).mono ?_
   rintro x w3 ⟨rfl, hx⟩
   have HXK := zHd (zEt HX2.out hx)
   clear hx
   go_wp2_with fail
   go_ret
   exact ⟨rfl, HXK.out⟩
 have HB := zHd (HZ.out rfl)
 clear HZ
 go_wp2_with fail
 refine (HLG.out w2 HX2.out).mono ?_
 rintro x w3 ⟨z, hz, rfl, hx3⟩
 have HZ := zHd hz
 have HX3 : Hid (Ext W w3) := zEt HX2.out hx3
 clear hz hx3 HLG
 rcases z with _ | _
 rotate_left
 · go_wp2_with fail
   refine (uknown_any w3).mono ?_
   rintro x w4 ⟨rfl, hx⟩
   have HXK := zHd (zEt HX3.out hx)
   clear hx
   go_wp2_with fail
   go_ret
   exact ⟨rfl, HXK.out⟩
 have HB1 := zHd (HZ.out rfl)
 clear HZ
 by_cases hk9 : key.length ≤ 9000
 rotate_left
 · have d : decide ((9000 : Int) < (key.length : Int)) = true := decide_eq_true (by omega)
   have dn : decide (9000 < key.length) = true := decide_eq_true (by omega)
   clear hk9
   go_wp2_with fail
   refine (uknown_any w3).mono ?_
   rintro x w4 ⟨rfl, hx⟩
   have HXK := zHd (zEt HX3.out hx)
   clear hx
   go_wp2_with fail
   go_ret
   exact ⟨rfl, HXK.out⟩
 have d : decide ((9000 : Int) < (key.length : Int)) = false := decide_eq_false (by omega)
 have dn : decide (9000 < key.length) = false := decide_eq_false (by omega)
 have HK9 := zHd hk9
 clear hk9
 have HMB := zHd (rtmay_any (c := c) (HE0.out.below HX3.out (zNr _)) HX3.out.size (by have := HB.out.1; omega) HB.out.2)
 go_wp2_with fail
 refine HMB.out.mono ?_
 rintro x w4 ⟨z, hz, rfl, hx4⟩
 have HZ := zHd hz
 have HX4 : Hid (Ext W w4) := zEt HX3.out hx4
 clear hz hx4 HMB d dn
 rcases z with _ | _
 · go_wp2_with fail
   refine (uknown_any w4).mono ?_
   rintro x w5 ⟨rfl, hx⟩
   have HXK := zHd (zEt HX4.out hx)
   clear hx
   go_wp2_with fail
   go_ret
   exact ⟨rfl, HXK.out⟩
 have HM : Hid (MayT (L.map Prod.fst)) := HZ.out.1 rfl
 clear HZ
 have HCL := zHd (tlclip_any (c := c) (c2 := c1) (HE0.out.below HX4.out (zNr _)) HX4.out.size HM.out (HP0.out.below HX4.out (zNr _)) HX4.out.size HB1.out.1 HB1.out.2)
 obtain ⟨Ls, hLs⟩ : ∃ Ls, Ls = L.map Prod.fst := ⟨_, rfl⟩
 have HLS := zHd hLs
 obtain ⟨V, hV⟩ : ∃ V, V = clips PL := ⟨_, rfl⟩
 have HVL : Hid (V.fr.length ≤ 9000 ∧ V.tt.length ≤ 9000 ∧ (∀ x ∈ V.fr, x < 256) ∧ ∀ x ∈ V.tt, x < 256) := by
  rw [hV]
  have h1 := clips_of (P := fun l => l.length ≤ 9000) (Nat.zero_le _) (L := PL) HB1.out.2
  have h2 := clips_of (P := fun l => ∀ x ∈ l, x < 256) (fun x hx => by cases hx) (L := PL) (fun q hq => ⟨(HP0.out.each q hq).frb, (HP0.out.each q hq).ttb⟩)
  exact ⟨h1.1, h1.2, h2.1, h2.2⟩
 rw [← hLs, ← hV] at HCL
 clear hLs hV
 go_upto_region 3 with (fail)
 go_wp2_with fail
 refine HCL.out.mono ?_
 rintro x w5 ⟨hx5, g, C, fA, fc, tA, tc, rfl, htv, hf, ht⟩
 have HX5 : Hid (Ext W w5) := zEt HX4.out hx5
 have HH5 : Hid (w4.heap.size ≤ w5.heap.size) := hx5.size
 have HTV5 := zHd htv
 have HFT5 := zHd (And.intro hf ht)
 obtain ⟨w6, hw6⟩ : ∃ w6, w6 = w5.alloc (.cells #[.slice A L.length c, .slice fA V.fr.length fc, .slice tA V.tt.length tc, .bool V.en] 45) := ⟨_, rfl⟩
 have HX56 : Hid (Ext w5 w6) := by rw [hw6]; exact ext_alloc _ _
 have HVB : Hid (w6.heap[w5.heap.size]? = some (.cells #[.slice A L.length c, .slice fA V.fr.length fc, .slice tA V.tt.length tc, .bool V.en] 45 (0, 0))) := by rw [hw6]; exact heap_at _ _ rfl
 have HX6 : Hid (Ext W w6) := zEt HX5.out HX56.out
 obtain ⟨vb, hvb⟩ : ∃ vb, vb = w5.heap.size := ⟨_, rfl⟩
 clear hx5 htv hf ht HCL
 go_upto_region 4 with (fail)
 rw [← hw6]
 rw [← hvb] at HVB ⊢
 clear hw6 hvb
 have HTV6 := zHd (HTV5.out.ext HX56.out)
 have q0 := cell_of HVB.out (k := 0) rfl
 have q1 := cell_of HVB.out (k := 1) rfl
 have q2 := cell_of HVB.out (k := 2) rfl
 have q3 := cell_of HVB.out (k := 3) rfl
 have HEN := zHd (rtents_any (c := c) (fc := fc) (tc := tc) (en := V.en) (HE0.out.below HX6.out (zNr _)) HX6.out.size (by have := HB.out.1; omega) (HFT5.out.1.below HX56.out HH5.out) (zNt HH5.out HX56.out.size) HVL.out.2.2.1 (HFT5.out.2.below HX56.out HH5.out) (zNt HH5.out HX56.out.size) HVL.out.2.2.2 (by have := HVL.out.1; omega) (by have := HVL.out.2.1; omega) (fun p hp => by have := HB.out.2 p hp; omega))
 go_wp2_with fail
 refine HEN.out.mono ?_
 rintro x w7 ⟨hx7, A2, c2, rfl, hrow⟩
 obtain ⟨R, hR⟩ : ∃ R, R = inR V.fr V.tt V.en L := ⟨_, rfl⟩
 obtain ⟨E, hE⟩ : ∃ E, E = inV V.fr V.tt V.en Ls := ⟨_, rfl⟩
 have hmap : R.map Prod.fst = E := by rw [hR, hE, HLS.out]; exact inR_map ..
 have hmem : ∀ p ∈ R, p ∈ L := fun p hp => by rw [hR] at hp; exact (List.mem_filter.1 hp).1
 have hlen : R.length ≤ 600 := by rw [hR]; exact zNt (inR_len ..) HB.out.1
 rw [← hR] at hrow ⊢
 have HX7 : Hid (Ext W w7) := zEt HX6.out hx7
 have HES : Hid (Es w7 0 w7.heap.size A2 R) := ⟨(erow_sl hrow).1, fun p hp => ((HE0.out.each p (hmem p hp)).below HX7.out (zNr _)).wide (zNr _) HX7.out.size⟩
 have HRC : Hid (R.length ≤ c2) := (erow_sl hrow).2.1
 have HMAP := zHd hmap
 have HEE := zHd hE
 have HRL := zHd hlen
 have HKL2 : Hid (∀ p ∈ R, p.1.key.length ≤ 140737488351232) := fun p hp => by have := HB.out.2 p (hmem p hp); omega
 have HTV7 := zHd (HTV6.out.ext hx7)
 have HRF := zHd (rfrom_any (c := c2) HES.out (zNr _) HRC.out (by have := HRL.out; omega) HKL2.out (HK.out.below HX7.out (zNr _)) HX7.out.size HBK.out (by have := HK9.out; omega))
 clear hx7 hrow hR hE hmap hmem hlen q0 q1 q2 q3 HEN
 go_upto_region 7 with (fail)
 go_wp2_with fail
 refine HRF.out.mono ?_
 rintro x w8 ⟨X, d8, rfl, hes8, hx8⟩
 obtain ⟨R2, hR2⟩ : ∃ R2, R2 = R.drop (cutOf (belowK key) (R.map Prod.fst)) := ⟨_, rfl⟩
 rw [← hR2] at hes8 ⊢
 have HM2 : Hid (R2.map Prod.fst = inV (clipF V.fr key) V.tt V.en Ls) := by
  unfold Hid
  rw [hR2, List.map_drop, HMAP.out, HEE.out]
  exact (from_view (HLS.out ▸ HM.out.2.2.1)).symm
 have HRL2 : Hid (R2.length ≤ 600) := by rw [hR2, Hid, List.length_drop]; have := HRL.out; omega
 have HX8 : Hid (Ext W w8) := zEt HX7.out hx8
 have HX78 : Hid (Ext w7 w8) := hx8
 have HES2 := zHd hes8
 have HTV8 := zHd (HTV7.out.ext hx8)
 have HFS := zHd (tfst_any HTV8.out.goes)
 rw [← HEE.out] at HFS
 clear hes8 hx8 hR2 HRF
 go_upto_region 8 with (fail)
 go_wp2_with fail
 refine HFS.out.mono ?_
 intro x w9 hen
 obtain ⟨hx9, ea, ga, rfl, ha1, ha2⟩ := end_shape hen
 have HX9 : Hid (Ext W w9) := zEt HX8.out hx9
 have HX79 : Hid (Ext w7 w9) := zEt HX78.out hx9
 have HX89 : Hid (Ext w8 w9) := hx9
 have HA := zHd (And.intro ha1 ha2)
 obtain ⟨is, his⟩ : ∃ is, is = E.head?.isSome := ⟨_, rfl⟩
 have HIS := zHd his
 rw [← his]
 obtain ⟨wa, hwa⟩ : ∃ wa, wa = w9.alloc (.cells #[.slice ga.kA ea.key.length ga.kc, .int .i64 ea.seq, .int .i64 ea.kind, .slice ga.vA ea.val.length ga.vc] 50) := ⟨_, rfl⟩
 have HX9A : Hid (Ext w9 wa) := by rw [hwa]; exact ext_alloc _ _
 have HEB : Hid (wa.heap[w9.heap.size]? = some (.cells #[.slice ga.kA ea.key.length ga.kc, .int .i64 ea.seq, .int .i64 ea.kind, .slice ga.vA ea.val.length ga.vc] 50 (0, 0))) := by rw [hwa]; exact heap_at _ _ rfl
 obtain ⟨eb, heb⟩ : ∃ eb, eb = w9.heap.size := ⟨_, rfl⟩
 clear hen hx9 ha1 ha2 his HFS
 dsimp only [Ent.at_]
 go_upto_region 9 with (fail)
 rw [← hwa]
 rw [← heb] at HEB ⊢
 clear hwa heb
 have HXA : Hid (Ext W wa) := zEt HX9.out HX9A.out
 have HX8A : Hid (Ext w8 wa) := zEt HX89.out HX9A.out
 have HLT := zHd (tlast_any (HTV8.out.ext HX8A.out))
 rw [← HEE.out] at HLT
 go_wp2_with fail
 refine HLT.out.mono ?_
 intro x wb hen
 obtain ⟨hxb, el, gl, rfl, hl1, hl2⟩ := end_shape hen
 have HXB : Hid (Ext W wb) := zEt HXA.out hxb
 have HXAB : Hid (Ext wa wb) := hxb
 have HLL := zHd (And.intro hl1 hl2)
 have his2 : E.getLast?.isSome = is := by rw [HIS.out]; cases E <;> simp
 rw [his2]
 obtain ⟨wy, hwc⟩ : ∃ wy, wy = wb.alloc (.cells #[.slice gl.kA el.key.length gl.kc, .int .i64 el.seq, .int .i64 el.kind, .slice gl.vA el.val.length gl.vc] 50) := ⟨_, rfl⟩
 have HXBC : Hid (Ext wb wy) := by rw [hwc]; exact ext_alloc _ _
 have HFB : Hid (wy.heap[wb.heap.size]? = some (.cells #[.slice gl.kA el.key.length gl.kc, .int .i64 el.seq, .int .i64 el.kind, .slice gl.vA el.val.length gl.vc] 50 (0, 0))) := by rw [hwc]; exact heap_at _ _ rfl
 obtain ⟨fb, hfb⟩ : ∃ fb, fb = wb.heap.size := ⟨_, rfl⟩
 clear hen hxb hl1 hl2 his2 HLT
 dsimp only [Ent.at_]
 go_upto_region 10 with (fail)
 rw [← hwc]
 rw [← hfb] at HFB ⊢
 clear hwc hfb
 have HXC : Hid (Ext W wy) := zEt HXB.out HXBC.out
 have HXAC : Hid (Ext wa wy) := zEt HXAB.out HXBC.out
 have HX8C : Hid (Ext w8 wy) := zEt HX8A.out HXAC.out
 have HX7C : Hid (Ext w7 wy) := zEt HX78.out HX8C.out
 have HEBC := zHd (ext_heap HXAC.out HEB.out)
 have HTVC := zHd (HTV8.out.ext HX8C.out)
 obtain ⟨y, hy⟩ : ∃ y : Bool, y = decide (0 < R.length) := ⟨_, rfl⟩
 have his3 : is = y := by
  rw [HIS.out, hy, ← HMAP.out]
  cases R <;> simp
 have HXCW : Hid (∀ u, Ext wy u → Ext W u) := fun u hu => zEt HXC.out hu
 have HFROM : Hid (∀ u, Ext wy u → Calls Tryz.prog 29 #[.pointer (some ⟨g, 0, none⟩), .slice kA key.length kc] u fun x w' => ∃ v, x = .returned v ∧ Ext u w' ∧ GoF C Ls (clipF V.fr key) V.tt V.en v w') := fun u hu => by
  have hwu := HXCW.out u hu
  refine (tfrom_any (HTVC.out.ext hu) ((HK.out.below hwu (zNr _)).wide (zNr _) hwu.size) HBK.out (by have := HK9.out; omega)).mono ?_
  rintro x w' ⟨hx, bx, g2, rfl, hb, hv⟩
  exact ⟨_, rfl, hx, bx, g2, rfl, hb, hv⟩
 have HALL : Hid (∀ u, Ext wy u → Calls Tryz.prog 11 #[.pointer (some ⟨g, 0, none⟩)] u fun x w' => ∃ v, x = .returned v ∧ Ext u w' ∧ GoF C Ls V.fr V.tt V.en v w') := fun u hu => by
  refine (tall_any ⟨_, rfl⟩).mono ?_
  rintro x w' ⟨rfl, hw'⟩
  have hx : Ext u w' := by rw [hw']; exact ext_alloc _ _
  exact ⟨_, rfl, hx, u.heap.size, g, rfl, (by rw [hw']; exact heap_at _ _ rfl), (HTVC.out.ext hu).ext hx⟩
 have HG1 : Hid (∀ (v : Value) (n : Int) u, Ext wy u → GoF C Ls (clipF V.fr key) V.tt V.en v u → Calls Tryz.prog 10 #[v, .slice X R2.length d8, .int .i64 n] u fun x w' => x = .returned (.bool true) ∧ Ext u w') := fun v n u hu hg =>
  goF_goes hg (HES2.out.below (zEt HX78.out (zEt HX8C.out hu)) (zNr _)) (zEt HX7C.out hu).size (by have := HRL2.out; omega) HM2.out.symm
 have HG2 : Hid (∀ (v : Value) (n : Int) u, Ext wy u → GoF C Ls V.fr V.tt V.en v u → Calls Tryz.prog 10 #[v, .slice A2 R.length c2, .int .i64 n] u fun x w' => x = .returned (.bool true) ∧ Ext u w') := fun v n u hu hg =>
  goF_goes hg (HES.out.below (zEt HX7C.out hu) (zNr _)) (zEt HX7C.out hu).size (by have := HRL.out; omega) (by rw [HMAP.out, HEE.out])
 have HLN : Hid (∀ u, Ext wy u → Calls Tryz.prog 12 #[.pointer (some ⟨g, 0, none⟩)] u fun x w' => x = .returned (.int .i64 (R.length : Int)) ∧ Ext u w') := fun u hu => by
  have hl : (inV V.fr V.tt V.en Ls).length = R.length := by rw [← HEE.out, ← HMAP.out, List.length_map]
  have h := tlen_any (HTVC.out.ext hu).goes (by rw [hl]; have := HRL.out; omega)
  rw [hl] at h
  exact h
 obtain ⟨D, hD⟩ : ∃ D, D = tb C Ls := ⟨_, rfl⟩
 have HBY : Hid (∀ u, Ext wy u → Calls Tryz.prog 15 #[.pointer (some ⟨g, 0, none⟩)] u fun x w' => ∃ v, x = .returned v ∧ Ext u w' ∧ Own wy.heap.size D v w') := fun u hu => by
  refine (tbytes_any (HTVC.out.ext hu)).mono ?_
  rintro x w' ⟨v, rfl, ho, hx⟩
  rw [hD]
  exact ⟨v, rfl, hx, (show Own u.heap.size (tb C Ls) v w' from ho).base hu.size⟩
 have HRW : Hid (∀ u, Ext wy u → Calls Tryz.prog 30 #[.slice A L.length c] u fun x w' => ∃ v, x = .returned v ∧ Ext u w' ∧ Own wy.heap.size D v w') := fun u hu => by
  have hwu := HXCW.out u hu
  refine (rtwrite_any (c := c) (HE0.out.below hwu (zNr _)) hwu.size HM.out).mono ?_
  rintro x w' ⟨hx, C', v, rfl, h1, h2, h3⟩
  rw [← HLS.out] at h1 h3
  obtain rfl : C' = C := cut_unique h2 HTVC.out.cuts (by rw [h1, HTVC.out.flat])
  rw [← hD] at h3
  exact ⟨v, rfl, hx, h3.base hu.size⟩
 have htt : ((tx D).toList == (tx D).toList) = true := by simp
 have HY := zHd hy
 clear hD hy
 rw [his3]
 clear his3
 go_cut [88] (fun v wx => v = .bool false ∧ Hid (Ext wy wx))
 case first =>
  rcases y with _ | _
  · have hr0 : R.length = 0 := by have := of_decide_eq_false HY.out.symm; omega
    have hr0I : (R.length : Int) = 0 := by omega
    have d0 : decide ((0 : Int) < (R.length : Int)) = false := decide_eq_false (by omega)
    have d0n : decide (0 < R.length) = false := decide_eq_false (by omega)
    clear hr0 hr0I
    refine flow (by kernel_rfl) [Is (.bool false), Is (.slice A2 R.length c2), Is (.int .i64 (R.length : Int)), Is (.bool false), Is (.bool false), Is (.bool false), Is (.bool false), Is (.bool false), Is (.bool false), Is (.bool false), Is (.bool false), Is (.bool false), Is (.bool false), Is undef, Is undef, Is undef, Is undef, Is undef, Is undef, Is undef, Is undef, Is undef, Is undef, Is undef, Is undef, Is undef, Is undef, Is undef, Is undef, Is undef, Is (.bool false), Is (.bool false)] (by kernel_rfl) (by kernel_rfl) ?mono (fun f1 => ?obl) ?fin
    case mono =>
     simp only [List.forall_mem_cons, List.not_mem_nil, false_imp_iff, implies_true, and_true]
     and_intros <;> exact .is _
    case fin =>
     intro g1 u hu hg
     simp only [puts, Act.put, zq]
     have h31 : g1 31 = _ := hg 31 (by decide)
     rw [h31]
     have HXU : Hid (Ext wy u) := zEt (Ext.drew wy) hu
     clear h31 hg hu
     go_wp2_with fail
     go_meet
     case rel => exact ⟨rfl, HXU.out⟩
    case obl =>
     refine ⟨fun u hu hd => ?_, fun u hu hd => ?_, fun u hu hd => ?_, fun u hu hd => ?_, fun u hu hd => ?_, fun u hu hd => ?_, fun u hu hd => ?_, fun u hu hd => ?_, fun u hu hd => ?_, fun u hu hd => ?_, fun u hu hd => ?_, fun u hu hd => ?_, fun u hu hd => ?_, fun u hu hd => ?_, fun u hu hd => ?_, fun u hu hd => ?_, fun u hu hd => ?_, fun u hu hd => ?_, fun u hu hd => ?_, fun u hu hd => ?_, fun u hu hd => ?_, fun u hu hd => ?_, fun u hu hd => ?_, fun u hu hd => ?_, fun u hu hd => ?_, fun u hu hd => ?_, fun u hu hd => ?_, fun u hu hd => ?_, fun u hu hd => ?_, fun u hu hd => ?_, fun u hu hd => ?_, fun u hu hd => ?_, trivial⟩
     all_goals try simp only [Act.put, zq]
     · go_simp
       exact zEr
     · go_simp
       exact zEr
     · have e1 : f1 1 = _ := hd 1 (by kernel_rfl)
       go_simp
       exact zEr
     · have e2 : f1 2 = _ := hd 2 (by kernel_rfl)
       go_simp
       exact zEr
     · have e0 : f1 0 = _ := hd 0 (by kernel_rfl)
       have e3 : f1 3 = _ := hd 3 (by kernel_rfl)
       go_simp
       exact zEr
     · have e4 : f1 4 = _ := hd 4 (by kernel_rfl)
       go_simp
       exact zEr
     · have e5 : f1 5 = _ := hd 5 (by kernel_rfl)
       go_simp
       exact zEr
     · have e5 : f1 5 = _ := hd 5 (by kernel_rfl)
       go_simp
       exact zEr
     · have e5 : f1 5 = _ := hd 5 (by kernel_rfl)
       have e6 : f1 6 = _ := hd 6 (by kernel_rfl)
       have e7 : f1 7 = _ := hd 7 (by kernel_rfl)
       go_simp
       exact zEr
     · have e5 : f1 5 = _ := hd 5 (by kernel_rfl)
       have e8 : f1 8 = _ := hd 8 (by kernel_rfl)
       go_simp
       exact zEr
     · have e9 : f1 9 = _ := hd 9 (by kernel_rfl)
       go_simp
       exact zEr
     · have e10 : f1 10 = _ := hd 10 (by kernel_rfl)
       go_simp
       exact zEr
     · have e10 : f1 10 = _ := hd 10 (by kernel_rfl)
       have e11 : f1 11 = _ := hd 11 (by kernel_rfl)
       go_simp
       exact zEr
     · have e12 : f1 12 = _ := hd 12 (by kernel_rfl)
       go_simp
       rfl
     · have e12 : f1 12 = _ := hd 12 (by kernel_rfl)
       go_simp
       rfl
     · have e12 : f1 12 = _ := hd 12 (by kernel_rfl)
       go_simp
       rfl
     · have e12 : f1 12 = _ := hd 12 (by kernel_rfl)
       go_simp
       rfl
     · have e12 : f1 12 = _ := hd 12 (by kernel_rfl)
       go_simp
       rfl
     · have e12 : f1 12 = _ := hd 12 (by kernel_rfl)
       go_simp
       rfl
     · have e12 : f1 12 = _ := hd 12 (by kernel_rfl)
       go_simp
       rfl
     · have e19 : f1 19 = _ := hd 19 (by kernel_rfl)
       go_simp
       rfl
     · have e19 : f1 19 = _ := hd 19 (by kernel_rfl)
       go_simp
       rfl
     · have e19 : f1 19 = _ := hd 19 (by kernel_rfl)
       go_simp
       rfl
     · have e19 : f1 19 = _ := hd 19 (by kernel_rfl)
       go_simp
       rfl
     · have e19 : f1 19 = _ := hd 19 (by kernel_rfl)
       go_simp
       rfl
     · have e19 : f1 19 = _ := hd 19 (by kernel_rfl)
       go_simp
       rfl
     · have e19 : f1 19 = _ := hd 19 (by kernel_rfl)
       go_simp
       rfl
     · have e19 : f1 19 = _ := hd 19 (by kernel_rfl)
       go_simp
       rfl
     · have e19 : f1 19 = _ := hd 19 (by kernel_rfl)
       go_simp
       rfl
     · have e12 : f1 12 = _ := hd 12 (by kernel_rfl)
       go_simp
       rfl
     · have e10 : f1 10 = _ := hd 10 (by kernel_rfl)
       have e12 : f1 12 = _ := hd 12 (by kernel_rfl)
       go_simp
       exact zEr
     · have e10 : f1 10 = _ := hd 10 (by kernel_rfl)
       have e30 : f1 30 = _ := hd 30 (by kernel_rfl)
       go_simp
       exact zEr
  · have hr0 : 0 < R.length := of_decide_eq_true HY.out.symm
    have d0 : decide ((0 : Int) < (R.length : Int)) = true := decide_eq_true (by omega)
    have d0n : decide (0 < R.length) = true := decide_eq_true hr0
    obtain ⟨rb, ro, hA2⟩ := HES.out.base hr0
    subst hA2
    obtain ⟨p, hp⟩ : ∃ p, R[0]? = some p := ⟨_, List.getElem?_eq_getElem hr0⟩
    obtain ⟨m, hm⟩ : ∃ m, m = R.length - 1 := ⟨_, rfl⟩
    obtain ⟨q, hq⟩ : ∃ q, R[m]? = some q := ⟨_, List.getElem?_eq_getElem (by omega)⟩
    have HESC := zHd (HES.out.below HX7C.out (zNr _))
    have hp0 := HESC.out.get hp
    simp only [Nat.zero_mul, Nat.add_zero] at hp0
    obtain ⟨c0, c1', c2', c3⟩ := hp0
    obtain ⟨d0', d1, d2, d3⟩ := HESC.out.get hq
    have hea : ea = p.1 := by
     refine HA.out.1 p.1 ?_
     rw [← HMAP.out, List.head?_eq_getElem?, List.getElem?_map, hp]; rfl
    have hel : el = q.1 := by
     refine HLL.out.1 q.1 ?_
     rw [← HMAP.out, List.getLast?_eq_getElem?, List.length_map, List.getElem?_map, ← hm, hq]; rfl
    have hsa : E.head?.isSome = true := by rw [← HMAP.out, List.head?_eq_getElem?, List.getElem?_map, hp]; rfl
    have hsl : E.getLast?.isSome = true := by rw [← HMAP.out, List.getLast?_eq_getElem?, List.length_map, List.getElem?_map, ← hm, hq]; rfl
    have HSA : Hid (∀ u, Ext wy u → Calls Tryz.prog 22 #[.agg #[.slice ga.kA ea.key.length ga.kc, .int .i64 ea.seq, .int .i64 ea.kind, .slice ga.vA ea.val.length ga.vc], .agg #[.slice p.2.kA p.1.key.length p.2.kc, .int .i64 p.1.seq, .int .i64 p.1.kind, .slice p.2.vA p.1.val.length p.2.vc]] u fun x w' => x = .returned (.bool true) ∧ Ext u w') := fun u hu => by
     refine (rsame_any (((HA.out.2 hsa).below (zEt HX9A.out (zEt HXAC.out hu)) (zNr _))) ((HESC.out.each p (List.mem_of_getElem? hp)).below (Below.mono hu HX7C.out.size) (zNr _)) (zNt (zEt HX9A.out HXAC.out).size hu.size) (zNt HX7C.out.size hu.size)).mono ?_
     rintro x w' ⟨z, hz, rfl, hx⟩
     obtain rfl : z = true := hz.2 hea
     exact ⟨rfl, hx⟩
    have HSL : Hid (∀ u, Ext wy u → Calls Tryz.prog 22 #[.agg #[.slice gl.kA el.key.length gl.kc, .int .i64 el.seq, .int .i64 el.kind, .slice gl.vA el.val.length gl.vc], .agg #[.slice q.2.kA q.1.key.length q.2.kc, .int .i64 q.1.seq, .int .i64 q.1.kind, .slice q.2.vA q.1.val.length q.2.vc]] u fun x w' => x = .returned (.bool true) ∧ Ext u w') := fun u hu => by
     refine (rsame_any (((HLL.out.2 hsl).below (zEt HXBC.out hu) (zNr _))) ((HESC.out.each q (List.mem_of_getElem? hq)).below (Below.mono hu HX7C.out.size) (zNr _)) (zNt HXBC.out.size hu.size) (zNt HX7C.out.size hu.size)).mono ?_
     rintro x w' ⟨z, hz, rfl, hx⟩
     obtain rfl : z = true := hz.2 hel
     exact ⟨rfl, hx⟩
    have HWM : Hid ((m : Int) = (R.length : Int) - 1 ∧ (R.length : Int) ≤ 600 ∧ 0 < (R.length : Int)) := by have := HRL.out; unfold Hid; omega
    have n0 : (0 : Int) < (R.length : Int) := by omega
    have n1 : (0 : Int) ≤ (m : Int) := Int.natCast_nonneg _
    have n2 : (m : Int) < (R.length : Int) := by omega
    have x0 := cell_of HEBC.out (k := 0) rfl
    have x1 := cell_of HEBC.out (k := 1) rfl
    have x2 := cell_of HEBC.out (k := 2) rfl
    have x3 := cell_of HEBC.out (k := 3) rfl
    have z0 := cell_of HFB.out (k := 0) rfl
    have z1 := cell_of HFB.out (k := 1) rfl
    have z2 := cell_of HFB.out (k := 2) rfl
    have z3 := cell_of HFB.out (k := 3) rfl
    clear hp hm hq hea hel hsa hsl
    refine flow (by kernel_rfl) [Is (.bool true), Is (.slice (some ⟨rb, ro, none⟩) R.length c2), Is (.int .i64 (R.length : Int)), Is (.bool true), Is (.bool false), Is (.bool false), Is (.bool true), Is (.bool true), Is (.bool false), Is (.bool false), Is (.bool false), Is (.bool true), Is (.bool true), Is (.agg #[.slice ga.kA ea.key.length ga.kc, .int .i64 ea.seq, .int .i64 ea.kind, .slice ga.vA ea.val.length ga.vc]), Is (.slice (some ⟨rb, ro, none⟩) R.length c2), Is (.pointer (some ⟨rb, ro, none⟩)), Is (.agg #[.slice p.2.kA p.1.key.length p.2.kc, .int .i64 p.1.seq, .int .i64 p.1.kind, .slice p.2.vA p.1.val.length p.2.vc]), Is (.bool true), Is (.bool false), Is (.bool false), Is (.agg #[.slice gl.kA el.key.length gl.kc, .int .i64 el.seq, .int .i64 el.kind, .slice gl.vA el.val.length gl.vc]), Is (.slice (some ⟨rb, ro, none⟩) R.length c2), Is (.slice (some ⟨rb, ro, none⟩) R.length c2), Is (.int .i64 (R.length : Int)), Is (.int .i64 (m : Int)), Is (.pointer (some ⟨rb, ro + m * 4, none⟩)), Is (.agg #[.slice q.2.kA q.1.key.length q.2.kc, .int .i64 q.1.seq, .int .i64 q.1.kind, .slice q.2.vA q.1.val.length q.2.vc]), Is (.bool true), Is (.bool false), Is (.bool false), Is (.bool false), Is (.bool false)] (by kernel_rfl) (by kernel_rfl) ?mono (fun f1 => ?obl) ?fin
    case mono =>
     simp only [List.forall_mem_cons, List.not_mem_nil, false_imp_iff, implies_true, and_true]
     and_intros <;> exact .is _
    case fin =>
     intro g1 u hu hg
     simp only [puts, Act.put, zq]
     have h31 : g1 31 = _ := hg 31 (by decide)
     rw [h31]
     have HXU : Hid (Ext wy u) := zEt (Ext.drew wy) hu
     clear h31 hg hu x0 x1 x2 x3 z0 z1 z2 z3 c0 c1' c2' c3 d0' d1 d2 d3 n0 n1 n2
     go_wp2_with fail
     go_meet
     case rel => exact ⟨rfl, HXU.out⟩
    case obl =>
     refine ⟨fun u hu hd => ?_, fun u hu hd => ?_, fun u hu hd => ?_, fun u hu hd => ?_, fun u hu hd => ?_, fun u hu hd => ?_, fun u hu hd => ?_, fun u hu hd => ?_, fun u hu hd => ?_, fun u hu hd => ?_, fun u hu hd => ?_, fun u hu hd => ?_, fun u hu hd => ?_, fun u hu hd => ?_, fun u hu hd => ?_, fun u hu hd => ?_, fun u hu hd => ?_, fun u hu hd => ?_, fun u hu hd => ?_, fun u hu hd => ?_, fun u hu hd => ?_, fun u hu hd => ?_, fun u hu hd => ?_, fun u hu hd => ?_, fun u hu hd => ?_, fun u hu hd => ?_, fun u hu hd => ?_, fun u hu hd => ?_, fun u hu hd => ?_, fun u hu hd => ?_, fun u hu hd => ?_, fun u hu hd => ?_, trivial⟩
     all_goals try simp only [Act.put, zq]
     · go_simp
       exact zEr
     · go_simp
       exact zEr
     · have e1 : f1 1 = _ := hd 1 (by kernel_rfl)
       go_simp
       exact zEr
     · have e2 : f1 2 = _ := hd 2 (by kernel_rfl)
       go_simp
       exact zEr
     · have e0 : f1 0 = _ := hd 0 (by kernel_rfl)
       have e3 : f1 3 = _ := hd 3 (by kernel_rfl)
       go_simp
       exact zEr
     · have e4 : f1 4 = _ := hd 4 (by kernel_rfl)
       go_simp
       exact zEr
     · have e5 : f1 5 = _ := hd 5 (by kernel_rfl)
       go_simp
       exact zEr
     · have e5 : f1 5 = _ := hd 5 (by kernel_rfl)
       go_simp
       exact zEr
     · have e5 : f1 5 = _ := hd 5 (by kernel_rfl)
       have e6 : f1 6 = _ := hd 6 (by kernel_rfl)
       have e7 : f1 7 = _ := hd 7 (by kernel_rfl)
       go_simp
       exact zEr
     · have e5 : f1 5 = _ := hd 5 (by kernel_rfl)
       have e8 : f1 8 = _ := hd 8 (by kernel_rfl)
       go_simp
       exact zEr
     · have e9 : f1 9 = _ := hd 9 (by kernel_rfl)
       go_simp
       exact zEr
     · have e10 : f1 10 = _ := hd 10 (by kernel_rfl)
       go_simp
       exact zEr
     · have e10 : f1 10 = _ := hd 10 (by kernel_rfl)
       have e11 : f1 11 = _ := hd 11 (by kernel_rfl)
       go_simp
       exact zEr
     · have e12 : f1 12 = _ := hd 12 (by kernel_rfl)
       have hu2 := zEt (Ext.drew wy) hu
       have q0 := ext_cell hu2 x0
       have q1 := ext_cell hu2 x1
       have q2 := ext_cell hu2 x2
       have q3 := ext_cell hu2 x3
       go_simp
       exact zEr
     · have e12 : f1 12 = _ := hd 12 (by kernel_rfl)
       go_simp
       exact zEr
     · have e12 : f1 12 = _ := hd 12 (by kernel_rfl)
       have e14 : f1 14 = _ := hd 14 (by kernel_rfl)
       go_simp
       exact zEr
     · have e12 : f1 12 = _ := hd 12 (by kernel_rfl)
       have e15 : f1 15 = _ := hd 15 (by kernel_rfl)
       have hu2 := zEt (Ext.drew wy) hu
       have q0 := ext_cell hu2 c0
       have q1 := ext_cell hu2 c1'
       have q2 := ext_cell hu2 c2'
       have q3 := ext_cell hu2 c3
       go_simp
       exact zEr
     · have e12 : f1 12 = _ := hd 12 (by kernel_rfl)
       have e13 : f1 13 = _ := hd 13 (by kernel_rfl)
       have e16 : f1 16 = _ := hd 16 (by kernel_rfl)
       have hu2 := zEt (Ext.drew wy) hu
       go_simp
       refine (HSA.out u hu2).mono ?_
       rintro x9 w9 ⟨rfl, hx9⟩
       exact ⟨_, rfl, hx9, rfl⟩
     · have e12 : f1 12 = _ := hd 12 (by kernel_rfl)
       have e17 : f1 17 = _ := hd 17 (by kernel_rfl)
       go_simp
       exact zEr
     · have e12 : f1 12 = _ := hd 12 (by kernel_rfl)
       have e18 : f1 18 = _ := hd 18 (by kernel_rfl)
       go_simp
       exact zEr
     · have e19 : f1 19 = _ := hd 19 (by kernel_rfl)
       have hu2 := zEt (Ext.drew wy) hu
       have q0 := ext_cell hu2 z0
       have q1 := ext_cell hu2 z1
       have q2 := ext_cell hu2 z2
       have q3 := ext_cell hu2 z3
       go_simp
       exact zEr
     · have e19 : f1 19 = _ := hd 19 (by kernel_rfl)
       go_simp
       exact zEr
     · have e19 : f1 19 = _ := hd 19 (by kernel_rfl)
       go_simp
       exact zEr
     · have e19 : f1 19 = _ := hd 19 (by kernel_rfl)
       have e22 : f1 22 = _ := hd 22 (by kernel_rfl)
       go_simp
       exact zEr
     · have e19 : f1 19 = _ := hd 19 (by kernel_rfl)
       have e23 : f1 23 = _ := hd 23 (by kernel_rfl)
       have q8 : IntKind.i64.wrap ((R.length : Int) - 1) = (m : Int) := by have q9 := HWM.out; rw [IntKind.wrap_i64]; omega
       go_simp
       exact zEr
     · have e19 : f1 19 = _ := hd 19 (by kernel_rfl)
       have e21 : f1 21 = _ := hd 21 (by kernel_rfl)
       have e24 : f1 24 = _ := hd 24 (by kernel_rfl)
       go_simp
       exact zEr
     · have e19 : f1 19 = _ := hd 19 (by kernel_rfl)
       have e25 : f1 25 = _ := hd 25 (by kernel_rfl)
       have hu2 := zEt (Ext.drew wy) hu
       have q0 := ext_cell hu2 d0'
       have q1 := ext_cell hu2 d1
       have q2 := ext_cell hu2 d2
       have q3 := ext_cell hu2 d3
       go_simp
       exact zEr
     · have e19 : f1 19 = _ := hd 19 (by kernel_rfl)
       have e20 : f1 20 = _ := hd 20 (by kernel_rfl)
       have e26 : f1 26 = _ := hd 26 (by kernel_rfl)
       have hu2 := zEt (Ext.drew wy) hu
       go_simp
       refine (HSL.out u hu2).mono ?_
       rintro x9 w9 ⟨rfl, hx9⟩
       exact ⟨_, rfl, hx9, rfl⟩
     · have e19 : f1 19 = _ := hd 19 (by kernel_rfl)
       have e27 : f1 27 = _ := hd 27 (by kernel_rfl)
       go_simp
       exact zEr
     · have e12 : f1 12 = _ := hd 12 (by kernel_rfl)
       have e19 : f1 19 = _ := hd 19 (by kernel_rfl)
       have e28 : f1 28 = _ := hd 28 (by kernel_rfl)
       go_simp
       exact zEr
     · have e10 : f1 10 = _ := hd 10 (by kernel_rfl)
       have e12 : f1 12 = _ := hd 12 (by kernel_rfl)
       have e29 : f1 29 = _ := hd 29 (by kernel_rfl)
       go_simp
       exact zEr
     · have e10 : f1 10 = _ := hd 10 (by kernel_rfl)
       have e30 : f1 30 = _ := hd 30 (by kernel_rfl)
       go_simp
       exact zEr
 case rest =>
 obtain ⟨rfl, HXU⟩ := hcut
 go_upto_region 12 with (fail)
 refine flow (by kernel_rfl) [Is (.pointer (some ⟨g, 0, none⟩)), Is (.slice kA key.length kc), GoF C Ls (clipF V.fr key) V.tt V.en, Is (.slice X R2.length d8), Is (.int .i64 most), Is (.bool true), Is (.bool true), Is (.pointer (some ⟨g, 0, none⟩)), Is (.slice kA key.length kc), GoF C Ls (clipF V.fr key) V.tt V.en, Is (.slice X R2.length d8), Is (.bool true), Is (.bool true), Is (.bool true), Is (.pointer (some ⟨g, 0, none⟩)), GoF C Ls V.fr V.tt V.en, Is (.slice A2 R.length c2), Is (.bool true), Is (.bool true), Is (.bool true), Is (.pointer (some ⟨g, 0, none⟩)), Is (.int .i64 (R.length : Int)), Is (.slice A2 R.length c2), Is (.int .i64 (R.length : Int)), Is (.bool true), Is (.bool true), Is (.bool true), Is (.pointer (some ⟨g, 0, none⟩)), Own wy.heap.size D, Is (.string (tx D)), Is (.slice A L.length c), Own wy.heap.size D, Is (.string (tx D)), Is (.bool true), Is (.bool true), Is (.bool true), Is (.bool true), Is (.bool true), Is (.bool true)] (by kernel_rfl) (by kernel_rfl) ?mono2 (fun f1 => ?obl2) ?fin2
 case mono2 =>
  simp only [List.forall_mem_cons, List.not_mem_nil, false_imp_iff, implies_true, and_true]
  exact ⟨.is _, .is _, goF_mono _ _ _ _ _, .is _, .is _, .is _, .is _, .is _, .is _, goF_mono _ _ _ _ _, .is _, .is _, .is _, .is _, .is _, goF_mono _ _ _ _ _, .is _, .is _, .is _, .is _, .is _, .is _, .is _, .is _, .is _, .is _, .is _, .is _, .own _ _, .is _, .is _, .own _ _, .is _, .is _, .is _, .is _, .is _, .is _, .is _⟩
 case fin2 =>
  intro g1 u hu hg
  simp only [puts, Act.put, zq]
  have h38 : g1 38 = _ := hg 38 (by decide)
  rw [h38]
  have HU := zHd (HXCW.out _ (zEt HXU.out (zEt (Ext.drew wc) hu)))
  clear h38 hg hu
  go_wp2_with fail
  go_ret
  exact ⟨rfl, HU.out⟩
 case obl2 =>
  refine ⟨fun u hu hd => ?_, fun u hu hd => ?_, fun u hu hd => ?_, fun u hu hd => ?_, fun u hu hd => ?_, fun u hu hd => ?_, fun u hu hd => ?_, fun u hu hd => ?_, fun u hu hd => ?_, fun u hu hd => ?_, fun u hu hd => ?_, fun u hu hd => ?_, fun u hu hd => ?_, fun u hu hd => ?_, fun u hu hd => ?_, fun u hu hd => ?_, fun u hu hd => ?_, fun u hu hd => ?_, fun u hu hd => ?_, fun u hu hd => ?_, fun u hu hd => ?_, fun u hu hd => ?_, fun u hu hd => ?_, fun u hu hd => ?_, fun u hu hd => ?_, fun u hu hd => ?_, fun u hu hd => ?_, fun u hu hd => ?_, fun u hu hd => ?_, fun u hu hd => ?_, fun u hu hd => ?_, fun u hu hd => ?_, fun u hu hd => ?_, fun u hu hd => ?_, fun u hu hd => ?_, fun u hu hd => ?_, fun u hu hd => ?_, fun u hu hd => ?_, fun u hu hd => ?_, trivial⟩
  all_goals try simp only [Act.put, zq]
  · go_simp
    exact zEr
  · go_simp
    exact zEr
  · have e0 : f1 0 = _ := hd 0 (by kernel_rfl)
    have e1 : f1 1 = _ := hd 1 (by kernel_rfl)
    have hu2 := zEt HXU.out (zEt (Ext.drew wc) hu)
    go_simp
    refine (HFROM.out u hu2).mono ?_
    rintro x9 w9 ⟨v9, rfl, hx9, hg9⟩
    exact ⟨_, rfl, hx9, hg9⟩
  · go_simp
    exact zEr
  · go_simp
    exact zEr
  · have e3 : f1 3 = _ := hd 3 (by kernel_rfl)
    have e4 : f1 4 = _ := hd 4 (by kernel_rfl)
    have h2 : GoF C Ls (clipF V.fr key) V.tt V.en (f1 2) u := hd 2 (by kernel_rfl)
    have hu2 := zEt HXU.out (zEt (Ext.drew wc) hu)
    have hc := HG1.out (f1 2) most u hu2 h2
    clear h2
    go_simp
    refine hc.mono ?_
    rintro x9 w9 ⟨rfl, hx9⟩
    exact ⟨_, rfl, hx9, rfl⟩
  · have e5 : f1 5 = _ := hd 5 (by kernel_rfl)
    go_simp
    exact zEr
  · have e6 : f1 6 = _ := hd 6 (by kernel_rfl)
    go_simp
    exact zEr
  · have e6 : f1 6 = _ := hd 6 (by kernel_rfl)
    go_simp
    exact zEr
  · have e6 : f1 6 = _ := hd 6 (by kernel_rfl)
    have e7 : f1 7 = _ := hd 7 (by kernel_rfl)
    have e8 : f1 8 = _ := hd 8 (by kernel_rfl)
    have hu2 := zEt HXU.out (zEt (Ext.drew wc) hu)
    go_simp
    refine (HFROM.out u hu2).mono ?_
    rintro x9 w9 ⟨v9, rfl, hx9, hg9⟩
    exact ⟨_, rfl, hx9, hg9⟩
  · have e6 : f1 6 = _ := hd 6 (by kernel_rfl)
    go_simp
    exact zEr
  · have e6 : f1 6 = _ := hd 6 (by kernel_rfl)
    have e10 : f1 10 = _ := hd 10 (by kernel_rfl)
    have h9 : GoF C Ls (clipF V.fr key) V.tt V.en (f1 9) u := hd 9 (by kernel_rfl)
    have hu2 := zEt HXU.out (zEt (Ext.drew wc) hu)
    have hc := HG1.out (f1 9) 0 u hu2 h9
    clear h9
    go_simp
    refine hc.mono ?_
    rintro x9 w9 ⟨rfl, hx9⟩
    exact ⟨_, rfl, hx9, rfl⟩
  · have e6 : f1 6 = _ := hd 6 (by kernel_rfl)
    have e11 : f1 11 = _ := hd 11 (by kernel_rfl)
    go_simp
    exact zEr
  · have e12 : f1 12 = _ := hd 12 (by kernel_rfl)
    go_simp
    exact zEr
  · have e13 : f1 13 = _ := hd 13 (by kernel_rfl)
    go_simp
    exact zEr
  · have e13 : f1 13 = _ := hd 13 (by kernel_rfl)
    have e14 : f1 14 = _ := hd 14 (by kernel_rfl)
    have hu2 := zEt HXU.out (zEt (Ext.drew wc) hu)
    go_simp
    refine (HALL.out u hu2).mono ?_
    rintro x9 w9 ⟨v9, rfl, hx9, hg9⟩
    exact ⟨_, rfl, hx9, hg9⟩
  · have e13 : f1 13 = _ := hd 13 (by kernel_rfl)
    go_simp
    exact zEr
  · have e13 : f1 13 = _ := hd 13 (by kernel_rfl)
    have e16 : f1 16 = _ := hd 16 (by kernel_rfl)
    have h15 : GoF C Ls V.fr V.tt V.en (f1 15) u := hd 15 (by kernel_rfl)
    have hu2 := zEt HXU.out (zEt (Ext.drew wc) hu)
    have hc := HG2.out (f1 15) 0 u hu2 h15
    clear h15
    go_simp
    refine hc.mono ?_
    rintro x9 w9 ⟨rfl, hx9⟩
    exact ⟨_, rfl, hx9, rfl⟩
  · have e13 : f1 13 = _ := hd 13 (by kernel_rfl)
    have e17 : f1 17 = _ := hd 17 (by kernel_rfl)
    go_simp
    exact zEr
  · have e18 : f1 18 = _ := hd 18 (by kernel_rfl)
    go_simp
    exact zEr
  · have e19 : f1 19 = _ := hd 19 (by kernel_rfl)
    go_simp
    exact zEr
  · have e19 : f1 19 = _ := hd 19 (by kernel_rfl)
    have e20 : f1 20 = _ := hd 20 (by kernel_rfl)
    have hu2 := zEt HXU.out (zEt (Ext.drew wc) hu)
    go_simp
    refine (HLN.out u hu2).mono ?_
    rintro x9 w9 ⟨rfl, hx9⟩
    exact ⟨_, rfl, hx9, rfl⟩
  · have e19 : f1 19 = _ := hd 19 (by kernel_rfl)
    go_simp
    exact zEr
  · have e19 : f1 19 = _ := hd 19 (by kernel_rfl)
    have e22 : f1 22 = _ := hd 22 (by kernel_rfl)
    go_simp
    exact zEr
  · have e19 : f1 19 = _ := hd 19 (by kernel_rfl)
    have e21 : f1 21 = _ := hd 21 (by kernel_rfl)
    have e23 : f1 23 = _ := hd 23 (by kernel_rfl)
    go_simp
    exact zEr
  · have e19 : f1 19 = _ := hd 19 (by kernel_rfl)
    have e24 : f1 24 = _ := hd 24 (by kernel_rfl)
    go_simp
    exact zEr
  · have e25 : f1 25 = _ := hd 25 (by kernel_rfl)
    go_simp
    exact zEr
  · have e26 : f1 26 = _ := hd 26 (by kernel_rfl)
    go_simp
    exact zEr
  · have e26 : f1 26 = _ := hd 26 (by kernel_rfl)
    have e27 : f1 27 = _ := hd 27 (by kernel_rfl)
    have hu2 := zEt HXU.out (zEt (Ext.drew wc) hu)
    go_simp
    refine (HBY.out u hu2).mono ?_
    rintro x9 w9 ⟨v9, rfl, hx9, hown⟩
    exact ⟨_, rfl, hx9, hown⟩
  · have e26 : f1 26 = _ := hd 26 (by kernel_rfl)
    have h28 : Own wy.heap.size D (f1 28) u := hd 28 (by kernel_rfl)
    obtain ⟨XX, dd, e28x⟩ := h28.slice
    rw [e28x] at h28
    have cv := cv_any h28.bs
    have H3 := zHd h28
    clear h28
    go_simp
    exact zEr
  · have e26 : f1 26 = _ := hd 26 (by kernel_rfl)
    go_simp
    exact zEr
  · have e26 : f1 26 = _ := hd 26 (by kernel_rfl)
    have e30 : f1 30 = _ := hd 30 (by kernel_rfl)
    have hu2 := zEt HXU.out (zEt (Ext.drew wc) hu)
    go_simp
    refine (HRW.out u hu2).mono ?_
    rintro x9 w9 ⟨v9, rfl, hx9, hown⟩
    exact ⟨_, rfl, hx9, hown⟩
  · have e26 : f1 26 = _ := hd 26 (by kernel_rfl)
    have h31 : Own wy.heap.size D (f1 31) u := hd 31 (by kernel_rfl)
    obtain ⟨XX, dd, e31x⟩ := h31.slice
    rw [e31x] at h31
    have cv := cv_any h31.bs
    have H3 := zHd h31
    clear h31
    go_simp
    exact zEr
  · have e26 : f1 26 = _ := hd 26 (by kernel_rfl)
    have e29 : f1 29 = _ := hd 29 (by kernel_rfl)
    have e32 : f1 32 = _ := hd 32 (by kernel_rfl)
    go_simp
    exact zEr
  · have e26 : f1 26 = _ := hd 26 (by kernel_rfl)
    have e33 : f1 33 = _ := hd 33 (by kernel_rfl)
    go_simp
    exact zEr
  · have e34 : f1 34 = _ := hd 34 (by kernel_rfl)
    go_simp
    exact zEr
  · have e35 : f1 35 = _ := hd 35 (by kernel_rfl)
    go_simp
    refine (uknown_any u).mono ?_
    rintro x9 w9 ⟨rfl, hx9⟩
    exact ⟨_, rfl, hx9, rfl⟩
  · have e35 : f1 35 = _ := hd 35 (by kernel_rfl)
    have e36 : f1 36 = _ := hd 36 (by kernel_rfl)
    go_simp
    exact zEr
  · have e37 : f1 37 = _ := hd 37 (by kernel_rfl)
    go_simp
    exact zEr
end Go.Proofs.YtkdidghfcfcpfaaGreat.ugoes
namespace Go.Proofs.YtkdidghfcfcpfaaGreat.ugoes
open Go.ChangeShapes Go.WideShapes Go.ChangeAt Go.RowKit
set_option linter.unusedVariables false
set_option maxRecDepth 100000 in
theorem lifted (os : Os) (started : os.Started) (H : Type) (enc : TypeId × Value → H) :
    ReturnsInHanded {} Tryz.checked os 5 .any (Rows.tableGoesSpec.pre6 enc Tryz.prog Tryz.f5 Rows.tableGoesRow.domain false) (Rows.tableGoesSpec.post enc Tryz.prog Tryz.f5 false true false false) := by
 refine returnsInHanded_of_change_sized (C := Tryz.checked) own started (by kernel_rfl) Tryz.func5
  (ChangeSpec.witness6 (enc := enc) (C := Tryz.checked) false ⟨#[], #[.slice none 0 0, .slice none 0 0, .slice none 0 0, .int .i64 0], []⟩ 8 (by kernel_rfl) (by kernel_rfl) (by kernel_rfl) (by kernel_rfl)) ?_
 intro W base args ds gs before hval0 hW hcnd hsz0 _
 have hsz : (DataW.weightsEach Tryz.prog (Tryz.f5.params.toList ++ Rows.tableGoesSpec.plain.varTypes Tryz.prog) (ds ++ gs)).all (· ≤ reachBytes) = true := hsz0
 have hval : ∀ (j : Nat) t v, Tryz.f5.params[j]? = some t → args[j]? = some v → Value.okWide Tryz.prog W .any base t v := hval0
 have hW' := hW
 obtain ⟨p, q, hA0, hV, rfl, hfz, hnd⟩ := hW
 have hA : DataW.TrodAll enc Tryz.prog W 0 (fun _ => true) true Tryz.f5.params.toList args.toList ds p := hA0
 rw [Tryz.params5] at hA hval hsz
 obtain ⟨v0, vs0, d0, ds0, p0, q0, hargs, rfl, rfl, h0, r0⟩ := trodAll_cons hA
 obtain ⟨v1, vs1, d1, ds1, p1, q1, rfl, rfl, rfl, h1, r1⟩ := trodAll_cons r0
 obtain ⟨v2, vs2, d2, ds2, p2, q2, rfl, rfl, rfl, h2, r2⟩ := trodAll_cons r1
 obtain ⟨v3, vs3, d3, ds3, p3, q3, rfl, rfl, rfl, h3, r3⟩ := trodAll_cons r2
 obtain ⟨rfl, rfl, rfl⟩ := trodAll_nil r3
 obtain rfl : args = #[v0, v1, v2, v3] := by cases args; simp_all
 obtain ⟨rfl, rfl⟩ := trodVars_none hV
 have k0 := h0
 have lt0 : ∀ x ∈ p0, x.block < W.heap.size := by obtain ⟨m, hm⟩ := k0; exact DataW.trod_lt m _ _ _ hm
 obtain ⟨A0, c0, L0, rfl, x0, y0, m0, z0, n0⟩ := open_entries (hval 0 28 v0 rfl rfl) h0 hsz (jj := 0) rfl rfl
 have k1 := h1
 have lt1 : ∀ x ∈ p1, x.block < W.heap.size := by obtain ⟨m, hm⟩ := k1; exact DataW.trod_lt m _ _ _ hm
 obtain ⟨A1, c1, L1, rfl, x1, y1, m1, z1, n1⟩ := open_prts (hval 1 41 v1 rfl rfl) h1 (fun n hn => of_decide_eq_true (List.all_eq_true.1 hsz _ (DataW.weights_mem_each (j := 1) rfl rfl n hn)))
 have k2 := h2
 have lt2 : ∀ x ∈ p2, x.block < W.heap.size := by obtain ⟨m, hm⟩ := k2; exact DataW.trod_lt m _ _ _ hm
 obtain ⟨l2, y2, b2⟩ := open_bytes (hval 2 22 v2 rfl rfl) h2
 obtain ⟨a3, rfl, rfl, rfl, w3⟩ := open_int Tryz.underlying3 (hval 3 3 v3 rfl rfl) h3
 clear hA0 hval0 hsz0
 refine (walk W A0 c0 L0 x0 y0 m0 z0 n0 A1 c1 L1 x1 y1 m1 z1 n1 v2 l2 b2 y2 a3 w3).mono fun e W' ⟨he, bel⟩ => ?_
 subst he
 exact ⟨_, rfl, _, _, _, [], _, [], hW', trodAll_mk1 (shut_bool Tryz.underlying4 _), (trodAll_cons_mk (Below.trod laidOut (by kernel_rfl) (of_decide_eq_true (by kernel_rfl)) k0 bel lt0) (trodAll_cons_mk (Below.trod laidOut (by kernel_rfl) (of_decide_eq_true (by kernel_rfl)) k1 bel lt1) (trodAll_cons_mk (Below.trod laidOut (by kernel_rfl) (of_decide_eq_true (by kernel_rfl)) k2 bel lt2) (trodAll_cons_mk (shut_int Tryz.underlying3 w3) trodAll_mk0)))), rfl, bel.frame _, fun h => by cases h⟩
theorem over : Rows.tableGoesRow.holds Tryz.pinned (OpenSpec.ofChange Rows.tableGoesSpec) :=
 OpenClaim.holds_of_wide 5 Tryz.f5 rfl rfl rfl rfl rfl rfl rfl ⟨rfl, rfl, rfl, rfl, rfl⟩ rfl rfl rfl rfl rfl (by kernel_rfl) Tryz.func5 (by kernel_rfl)
  (of_decide_eq_true (by kernel_rfl)) (by unfold Func.isWrapper; first | (rw [if_pos (by decide +kernel)]; kernel_rfl) | (rw [if_neg (by decide +kernel)]; exact ⟨rfl, rfl⟩))
  (fun os started H enc _ => lifted os started H enc)
theorem proved : Rows.TableGoesSaid := over
end Go.Proofs.YtkdidghfcfcpfaaGreat.ugoes
