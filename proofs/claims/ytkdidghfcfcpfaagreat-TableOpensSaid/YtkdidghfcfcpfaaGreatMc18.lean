import Derived.Test.YtkdidghfcfcpfaaGreatMc17
import Derived.Test.YtkdidghfcfcpfaaGreatMc14
import Derived.Laws.Rows
import Derived.Test.YtkdidghfcfcpfaaGreatMc5
import Derived.Test.YtkdidghfcfcpfaaGreatMc9
import Derived.Test.YtkdidghfcfcpfaaGreatMc0
namespace Go.Proofs.YtkdidghfcfcpfaaGreat
open Go.ChangeShapes Go.WideShapes Go.ChangeAt Go.RowKit
theorem sl_off {w w' : World} {lo hi G : Nat} {A : Option Addr} {xs : List Value} {c : Array Value} {t : TypeId} (h : Sl w lo hi A xs) (hG : w.heap[G]? = some (.cells c t (0, 0))) (hx : ∀ (i : Nat) (v : Value), c[i]? = some v → v ∉ xs) (hc : Chg (fun i => i = G) w w') : Sl w' lo hi A xs := by
 rcases h with h0 | ⟨b, o, rfl, h1, h2, h3⟩
 · exact .inl h0
 · rcases xs with _ | ⟨x, xs⟩
   · exact .inl rfl
   · have hbG : b ≠ G := fun e => by
       subst e
       have h4 := h3 0 x rfl
       have h5 : c[o + 0]? = some x := by simpa [World.cell?, hG] using h4
       exact hx _ x h5 (by simp)
     refine .inr ⟨b, o, rfl, h1, h2, fun i u hu => ?_⟩
     have h4 := h3 i u hu
     have hlt := World.block_lt_of_cell? w _ h4
     exact (World.cell?_of_block (hc.block b hlt hbG)).trans h4
theorem bs_off {w w' : World} {lo hi G : Nat} {v : Value} {l : List Nat} {c : Array Value} {t : TypeId} (h : Bs w lo hi v l) (hG : w.heap[G]? = some (.cells c t (0, 0))) (hx : ∀ (i : Nat) (v : Value), c[i]? = some v → ∀ n : Int, v ≠ .int .u8 n) (hc : Chg (fun i => i = G) w w') : Bs w' lo hi v l :=
 h.of fun A hA => sl_off hA hG (fun i v hv hm => by
  unfold bv at hm
  obtain ⟨n, _, rfl⟩ := List.mem_map.1 hm
  exact hx i _ hv _ rfl) hc
theorem em_off {w w' : World} {lo hi G : Nat} {e : Ent} {g : Hd} {c : Array Value} {t : TypeId} (h : Em w lo hi e g) (hG : w.heap[G]? = some (.cells c t (0, 0))) (hx : ∀ (i : Nat) (v : Value), c[i]? = some v → ∀ n : Int, v ≠ .int .u8 n) (hc : Chg (fun i => i = G) w w') : Em w' lo hi e g :=
 ⟨bs_off h.k hG hx hc, bs_off h.v hG hx hc, h.bk, h.bv, h.s1, h.s2, h.d1, h.d2⟩
theorem TV.places {w : World} {g : Nat} {C : List (List Ent)} {L : List Ent} {fr tt : List Nat} {en : Bool} (h : TV w g C L fr tt en) {P : List (Pl × PHd)} (hP : P.map Prod.fst = pls C) :
    (P.map fun p => lastE p.1) = (pls C).map lastE ∧ (∀ p ∈ P, (∀ y ∈ p.1.key, y < 256) ∧ p.1.n ≤ 2147483647) ∧ P.length = C.length ∧ Rise ((pls C).map lastE) := by
 refine ⟨by rw [← hP, List.map_map]; rfl, fun p hp => ?_, by have := congrArg List.length hP; rw [List.length_map, pls_length] at this; exact this, pls_rise h.cuts (h.flat ▸ h.may.2.2.1) (fun e he => h.may.2.2.2 e (h.flat ▸ he))⟩
 have hm : p.1 ∈ pls C := by rw [← hP]; exact List.mem_map_of_mem hp
 refine ⟨?_, (pls_small h.may h.cuts h.flat _ hm).2.1⟩
 obtain ⟨k, hk, he⟩ := List.mem_iff_getElem.1 hm
 have hk2 : k < C.length := by rw [pls_length] at hk; exact hk
 have h2 := pls_at (List.getElem?_eq_getElem hk2)
 rw [List.getElem?_eq_getElem hk] at h2
 injection h2 with h2
 obtain ⟨e, e1, e2, _⟩ := last_at h.cuts (List.getElem?_eq_getElem hk2)
 rw [← he, h2]
 unfold plOf
 rw [e1]
 exact (h.good e (by rw [← h.flat]; exact List.mem_of_getElem? e2)).1
set_option maxRecDepth 100000 in
set_option maxHeartbeats 2000000 in
theorem tfirst_any {w : World} {g : Nat} {C : List (List Ent)} {L : List Ent} {fr tt : List Nat} {en : Bool} {lo hi kc : Nat} {kA : Option Addr} {key : List Nat} {s : Int} (h : TV w g C L fr tt en) (hk : Bs w lo hi (.slice kA key.length kc) key) (hhi : hi ≤ w.heap.size) (bk : ∀ x ∈ key, x < 256) (hs1 : -9223372036854775808 ≤ s) (hs2 : s ≤ 9223372036854775807) :
    Calls Tryz.prog 42 #[.pointer (some ⟨g, 0, none⟩), .slice kA key.length kc, .int .i64 s] w fun x w' => ∃ n : Nat, Cut ((pls C).map lastE) ⟨key, s, 0, []⟩ n ∧ x = .returned (.int .i64 (n : Int)) ∧ Ext w w' := by
 obtain ⟨fA, fc, tA, tc, ⟨bv_, fv_, PA, pc, P, h1, _, _, h4, _, h6⟩, _, _⟩ := h.at_
 obtain ⟨p1, p2, p3, p4⟩ := h.places h6
 unfold tbcells at h1
 have c1 := cell_of h1 (k := 1) rfl
 have HS := zHd (search_any (c := pc) (x := ⟨key, s, 0, []⟩) (g := ⟨kA, kc, none, 0⟩) h4 (zNr _) (by rw [p3]; exact h.some_.2) (by rw [p1]; exact p4) p2 ⟨hk, Bs.nil _ _ _, bk, (fun x hx => by cases hx), hs1, hs2, by show _ ≤ (0 : Int); omega, by show (0 : Int) ≤ _; omega⟩ hhi)
 rw [p1] at HS
 have HS2 : Hid (Calls Tryz.prog 77 #[.slice PA P.length pc, .agg #[.slice kA key.length kc, .int .i64 s, .int .i64 0, .slice none 0 0], .func (.func 78) #[] #[]] w fun e w' => ∃ (n : Nat) (y : Bool), Cut ((pls C).map lastE) ⟨key, s, 0, []⟩ n ∧ e = .returned (.tuple #[.int .i64 (n : Int), .bool y]) ∧ Ext w w') := HS.out
 clear HS h h1 h4 h6 p1 p2 p3 p4 hk hhi bk hs1 hs2
 go_enter Tryz.func42, Tryz.ntmps42
 go_wp2_with fail
 refine HS2.out.mono ?_
 rintro x w2 ⟨n, y, hcut, rfl, hx⟩
 have HF := zHd (And.intro hcut hx)
 clear hcut hx
 go_wp2_with fail
 go_ret
 exact ⟨n, HF.out.1, rfl, HF.out.2⟩
def TGetAns (w : World) (L : List Ent) (inn : Bool) (key : List Nat) (s : Int) (x : Ending) (w' : World) : Prop :=
 Ext w w' ∧ match (if inn then L.find? (seenE key s) else none) with
  | some e => ∃ g : Hd, x = .returned (.tuple #[e.at_ g, .int .i64 0]) ∧ Em w' 0 w'.heap.size e g
  | none => x = .returned (.tuple #[noE, .int .i64 6])
set_option maxRecDepth 100000 in
set_option maxHeartbeats 8000000 in
theorem tget_any {w : World} {g : Nat} {C : List (List Ent)} {L : List Ent} {fr tt : List Nat} {en : Bool} {lo hi kc : Nat} {kA : Option Addr} {key : List Nat} {s : Int} (h : TV w g C L fr tt en) (hk : Bs w lo hi (.slice kA key.length kc) key) (hhi : hi ≤ w.heap.size) (bk : ∀ x ∈ key, x < 256) (hs1 : -9223372036854775808 ≤ s) (hs2 : s ≤ 9223372036854775807) :
    Calls Tryz.prog 20 #[.pointer (some ⟨g, 0, none⟩), .slice kA key.length kc, .int .i64 s] w (TGetAns w L (hasV fr tt en key && Bl.mayB (Bl.mk (keysT L)) key) key s) := by
 obtain ⟨w1, hw1⟩ : ∃ w1, w1 = w.alloc (.cells #[.slice none 0 0, .int .i64 0, .int .i64 0, .slice none 0 0] 50) := ⟨_, rfl⟩
 have HX1 : Hid (Ext w w1) := by rw [hw1]; exact ext_alloc _ _
 have HB1 : Hid (w1.heap[w.heap.size]? = some (.cells #[.slice none 0 0, .int .i64 0, .int .i64 0, .slice none 0 0] 50 (0, 0))) := by rw [hw1]; exact heap_at _ _ rfl
 have HV := zHd (h.ext HX1.out)
 have HN := zHd (tnone_any HV.out)
 have HFI := zHd (tfirst_any (s := s) HV.out (hk.below HX1.out hhi) (zNt hhi HX1.out.size) bk hs1 hs2)
 have HK := zHd hk
 have HHI := zHd hhi
 have HBK := zHd bk
 have HS := zHd (And.intro hs1 hs2)
 clear h hk hhi bk hs1 hs2
 go_enter Tryz.func20, Tryz.ntmps20
 go_wp2_with fail
 rw [← hw1]
 clear hw1
 refine HN.out.mono ?_
 rintro x w0 ⟨rfl, hw0⟩
 have hw0 := hw0.symm
 subst hw0
 go_wp2_with fail
 refine HFI.out.mono ?_
 rintro x w2 ⟨n, hcut, rfl, hx2⟩
 have HX2 : Hid (Ext w w2) := zEt HX1.out hx2
 have HV2 := zHd (HV.out.ext hx2)
 have HCUT := zHd hcut
 have hb2 := ext_heap hx2 HB1.out
 have HB2 := zHd hb2
 have HM := zHd (tmay_any HV2.out (HK.out.below HX2.out HHI.out) (zNt HHI.out HX2.out.size) HBK.out)
 obtain ⟨m, hm⟩ : ∃ m, m = (hasV fr tt en key && Bl.mayB (Bl.mk (keysT L)) key) := ⟨_, rfl⟩
 rw [← hm] at HM
 obtain ⟨fA, fc, tA, tc, ⟨bv_, fv_, PA, pc, P, h1, _, _, h4, _, h6⟩, _, _⟩ := HV2.out.at_
 obtain ⟨p1, p2, p3, p4⟩ := HV2.out.places h6
 unfold tbcells at h1
 have HT := zHd h1
 have HPS := zHd (And.intro h4 h6)
 have hnle := hcut.le
 rw [List.length_map, pls_length, ← p3] at hnle
 have HP3 := zHd p3
 have HMM := zHd hm
 have c1 := cell_of h1 (k := 1) rfl
 have b0 := cell_of hb2 (k := 0) rfl
 have b1 := cell_of hb2 (k := 1) rfl
 have b2 := cell_of hb2 (k := 2) rfl
 have b3 := cell_of hb2 (k := 3) rfl
 have z0 := frozen_four (j := 0) hb2
 have z1 := frozen_four (j := 1) hb2
 have z2 := frozen_four (j := 2) hb2
 have z3 := frozen_four (j := 3) hb2
 have HRM : Hid (Rise C.flatten ∧ ∀ e ∈ C.flatten, e.may = true) := ⟨HV.out.flat ▸ HV.out.may.2.2.1, fun e he => HV.out.may.2.2.2 e (HV.out.flat ▸ he)⟩
 clear hx2 hcut hb2 h1 h4 h6 p1 p2 p3 p4 hm HN HFI
 by_cases hn : n = P.length
 · have d : ((n : Int) == (P.length : Int)) = true := by rw [beq_iff_eq, hn]
   have dn : (n == P.length) = true := by rw [beq_iff_eq, hn]
   have HF : Hid (L.find? (seenE key s) = none) := by
    have h := HCUT.out
    rw [hn, HP3.out] at h
    have := find_none HV.out.cuts HRM.out.1 HRM.out.2 HV.out.some_.1 h
    rwa [HV.out.flat] at this
   clear hn hnle
   go_wp2_with fail
   refine entry_ret rfl rfl rfl rfl (set_four HB2.out) ⟨get_four HX2.out _ _ _ _, ?_⟩
   rw [HF.out]
   cases (hasV fr tt en key && Bl.mayB (Bl.mk (keysT L)) key) <;> rfl
 · have d : ((n : Int) == (P.length : Int)) = false := by rw [beq_eq_false_iff_ne]; omega
   have dn : (n == P.length) = false := by rw [beq_eq_false_iff_ne]; exact hn
   have HNL : Hid (n < P.length) := by unfold Hid; omega
   clear hn hnle b0 b1 b2 b3 z0 z1 z2 z3
   go_wp2_with fail
   refine HM.out.mono ?_
   rintro x w3 ⟨rfl, hx3⟩
   have HX3 : Hid (Ext w w3) := zEt HX2.out hx3
   have HX23 := zHd hx3
   have hb3 := ext_heap hx3 HB2.out
   have HB3 := zHd hb3
   have HV3 := zHd (HV2.out.ext hx3)
   have d1 := cell_of (ext_heap hx3 HT.out) (k := 1) rfl
   clear hx3 c1 HM
   cases m with
   | false =>
    have b0 := cell_of hb3 (k := 0) rfl
    have b1 := cell_of hb3 (k := 1) rfl
    have b2 := cell_of hb3 (k := 2) rfl
    have b3 := cell_of hb3 (k := 3) rfl
    have z0 := frozen_four (j := 0) hb3
    have z1 := frozen_four (j := 1) hb3
    have z2 := frozen_four (j := 2) hb3
    have z3 := frozen_four (j := 3) hb3
    clear hb3
    go_wp2_with fail
    refine entry_ret rfl rfl rfl rfl (set_four HB3.out) ⟨get_four HX3.out _ _ _ _, ?_⟩
    rw [← HMM.out]
    rfl
   | true =>
    clear hb3
    obtain ⟨p, hp⟩ : ∃ p, P[n]? = some p := ⟨_, List.getElem?_eq_getElem HNL.out⟩
    obtain ⟨q, hq⟩ : ∃ q, C[n]? = some q := ⟨_, List.getElem?_eq_getElem (by have := HNL.out; have := HP3.out; omega)⟩
    have hpe : p.1 = plOf q (offB C n) := by
     have h1 := pls_at hq
     rw [← HPS.out.2, List.getElem?_map, hp] at h1
     injection h1
    obtain ⟨pb, po, hA⟩ := HPS.out.1.base (by have := HNL.out; omega)
    subst hA
    obtain ⟨c0, c1, c2, c3, c4, c5⟩ := (HPS.out.1.below HX23.out (zNr _)).get hp
    have HBL := zHd (tblock_any HV3.out hq p.2.1 p.1.key.length p.2.2 (p.1.n : Int))
    have eb : ((offB C n : Nat) : Int) = (p.1.b : Int) := by rw [hpe]; rfl
    have ez : (((wr q).length : Nat) : Int) = (p.1.z : Int) := by rw [hpe]; rfl
    rw [eb, ez] at HBL
    have n1 : (0 : Int) ≤ (n : Int) := Int.natCast_nonneg _
    have n2 : (n : Int) < (P.length : Int) := Int.ofNat_lt.2 HNL.out
    have HQ := zHd hq
    clear hp hq hpe eb ez
    go_wp2_with fail
    refine HBL.out.mono ?_
    rintro x w4 ⟨QA, qc, rfl, hqb, hx4⟩
    have HX4 : Hid (Ext w w4) := zEt HX3.out hx4
    have HB4 := zHd (ext_heap hx4 HB3.out)
    have hqm : MayB q := pieces_mayB HRM.out.1 HRM.out.2 HV.out.cuts q (List.mem_of_getElem? HQ.out)
    have HQM := zHd hqm
    have HBG := zHd (bget_any (s := s) hqb (zNr _) (wr_lt hqm (fun e he => HV.out.good e (by rw [← HV.out.flat]; exact List.mem_flatten.2 ⟨q, List.mem_of_getElem? HQ.out, he⟩))) (by have h1 := (few HV.out.may HV.out.cuts HV.out.flat).b; have h2 := offB_succ HQ.out; have h3 := blks_take_le C (n + 1); rw [h2, List.length_append] at h3; omega) (HK.out.below HX4.out HHI.out) (zNt HHI.out HX4.out.size) HBK.out HS.out.1 HS.out.2)
    clear hx4 hqm hqb c0 c1 c2 c3 c4 c5 d1 HBL
    go_wp2_with fail
    refine HBG.out.mono ?_
    rintro x w5 ⟨hx5, (⟨hno, _⟩ | ⟨L', his, hres⟩)⟩
    · exact absurd ⟨HQM.out, rfl⟩ (hno q)
    have e : L' = q := his.unique ⟨HQM.out, rfl⟩
    subst e
    have HFB := find_block HV.out.cuts HRM.out.1 HRM.out.2 HCUT.out HQ.out
    rw [HV.out.flat] at HFB
    rw [HFB] at hres
    have HX5 : Hid (Ext w w5) := zEt HX4.out hx5
    have hb5 := ext_heap hx5 HB4.out
    have HB5 := zHd hb5
    have b0 := cell_of hb5 (k := 0) rfl
    have b1 := cell_of hb5 (k := 1) rfl
    have b2 := cell_of hb5 (k := 2) rfl
    have b3 := cell_of hb5 (k := 3) rfl
    have z0 := frozen_four (j := 0) hb5
    have z1 := frozen_four (j := 1) hb5
    have z2 := frozen_four (j := 2) hb5
    have z3 := frozen_four (j := 3) hb5
    clear hx5 hb5 his HFB HBG
    cases hfd : L.find? (seenE key s) with
    | none =>
     rw [hfd] at hres
     obtain rfl := hres
     have HFD := zHd hfd
     clear hfd
     unfold noE
     go_wp2_with fail
     refine entry_ret rfl rfl rfl rfl (set_four HB5.out) ⟨get_four HX5.out _ _ _ _, ?_⟩
     rw [← HMM.out, if_pos rfl, HFD.out]
     rfl
    | some e =>
     rw [hfd] at hres
     obtain ⟨eg, rfl, hem⟩ := hres
     have HFD := zHd hfd
     have HEM := zHd hem
     clear hfd hem
     unfold Ent.at_
     go_wp2_with fail
     refine entry_ret rfl rfl rfl rfl (set_four HB5.out) ⟨get_four HX5.out _ _ _ _, ?_⟩
     rw [← HMM.out, if_pos rfl, HFD.out]
     refine ⟨eg, rfl, ?_⟩
     refine (em_off HEM.out HB5.out (fun i v hv n e => ?_) (chg_four _ _ _ _ _ _)).wide (zNr _) (by simp [World.setCell])
     subst e
     rcases i with _ | _ | _ | _ | i <;> simp at hv
def inV (fr tt : List Nat) (en : Bool) (L : List Ent) : List Ent := L.filter fun e => hasV fr tt en e.key
theorem seen_key {k : List Nat} {s : Int} {e : Ent} (h : seenE k s e = true) : e.key = k := by unfold seenE at h; simp at h; exact h.1
theorem find_view (fr tt : List Nat) (en : Bool) (k : List Nat) (s : Int) : ∀ L : List Ent, (inV fr tt en L).find? (seenE k s) = if hasV fr tt en k then L.find? (seenE k s) else none
 | [] => by simp [inV]
 | e :: L => by
  have ih := find_view fr tt en k s L
  unfold inV at ih ⊢
  by_cases hs : seenE k s e = true
  · have hk := seen_key hs
    by_cases hv : hasV fr tt en e.key = true
    · rw [List.filter_cons_of_pos (p := fun e : Ent => hasV fr tt en e.key) hv, List.find?_cons_of_pos hs, ← hk, if_pos hv, List.find?_cons_of_pos (by rw [hk]; exact hs)]
    · rw [List.filter_cons_of_neg (p := fun e : Ent => hasV fr tt en e.key) hv, ih, ← hk, if_neg hv, if_neg hv]
  · by_cases hv : hasV fr tt en e.key = true
    · rw [List.filter_cons_of_pos (p := fun e : Ent => hasV fr tt en e.key) hv, List.find?_cons_of_neg hs, List.find?_cons_of_neg hs, ih]
    · rw [List.filter_cons_of_neg (p := fun e : Ent => hasV fr tt en e.key) hv, List.find?_cons_of_neg hs, ih]
theorem filter_key {L : List Ent} {e : Ent} (h : e ∈ L) : Bl.mayB (Bl.mk (keysT L)) e.key = true := by
 obtain ⟨i, hi, he⟩ := List.mem_iff_getElem.1 h
 exact Bl.may_mk (keysTo_has (i := i) (by rw [List.getElem?_eq_getElem hi, he]) hi)
theorem get_view (fr tt : List Nat) (en : Bool) (k : List Nat) (s : Int) (L : List Ent) : (if (hasV fr tt en k && Bl.mayB (Bl.mk (keysT L)) k) = true then L.find? (seenE k s) else none) = (inV fr tt en L).find? (seenE k s) := by
 rw [find_view]
 cases hf : L.find? (seenE k s) with
 | none => split <;> split <;> rfl
 | some e =>
  have h1 := seen_key (List.find?_some hf)
  have h2 := filter_key (List.mem_of_find?_eq_some hf)
  rw [h1] at h2
  rw [h2, Bool.and_true]
def cnt (fr tt : List Nat) (en : Bool) (L : List Ent) (i : Nat) : Nat := (inV fr tt en (L.take i)).length
theorem cnt_zero (fr tt : List Nat) (en : Bool) (L : List Ent) : cnt fr tt en L 0 = 0 := rfl
theorem inV_append (fr tt : List Nat) (en : Bool) (L M : List Ent) : inV fr tt en (L ++ M) = inV fr tt en L ++ inV fr tt en M := by unfold inV; rw [List.filter_append]
theorem cnt_all (fr tt : List Nat) (en : Bool) (L : List Ent) : cnt fr tt en L L.length = (inV fr tt en L).length := by unfold cnt; rw [List.take_length]
theorem cnt_hid {fr tt : List Nat} {en : Bool} {L : List Ent} {i : Nat} {e : Ent} (h : L[i]? = some e) (hv : hasV fr tt en e.key = false) : cnt fr tt en L (i + 1) = cnt fr tt en L i := by
 unfold cnt
 rw [List.take_add_one, h, inV_append]
 simp [inV, hv]
theorem cnt_seen {fr tt : List Nat} {en : Bool} {L : List Ent} {i : Nat} {e : Ent} (h : L[i]? = some e) (hv : hasV fr tt en e.key = true) : cnt fr tt en L (i + 1) = cnt fr tt en L i + 1 ∧ (inV fr tt en L)[cnt fr tt en L i]? = some e := by
 have h1 : inV fr tt en (L.take (i + 1)) = inV fr tt en (L.take i) ++ [e] := by
  rw [List.take_add_one, h, inV_append]
  simp [inV, hv]
 refine ⟨by unfold cnt; rw [h1, List.length_append]; rfl, ?_⟩
 have h2 : inV fr tt en L = inV fr tt en (L.take (i + 1)) ++ inV fr tt en (L.drop (i + 1)) := by rw [← inV_append, List.take_append_drop]
 rw [h2, h1]
 unfold cnt
 rw [List.getElem?_append_left (by simp), List.getElem?_append_right (zNr _)]
 simp
theorem cnt_skip {fr tt : List Nat} {en : Bool} {L : List Ent} {i : Nat} : ∀ {j : Nat}, i ≤ j → (∀ k e, i ≤ k → k < j → L[k]? = some e → hasV fr tt en e.key = false) → cnt fr tt en L j = cnt fr tt en L i := by
 intro j hij
 induction j with
 | zero => intro _; obtain rfl : i = 0 := by omega
           rfl
 | succ j ih =>
  intro h
  rcases Nat.lt_or_ge j i with h1 | h1
  · obtain rfl : i = j + 1 := by omega
    rfl
  · have h2 := ih h1 (fun k e a b c => h k e a (by omega) c)
    cases he : L[j]? with
    | none =>
     rw [← h2]
     unfold cnt
     rw [List.take_of_length_le (by have := List.getElem?_eq_none_iff.1 he; omega), List.take_of_length_le (by have := List.getElem?_eq_none_iff.1 he; omega)]
    | some e => rw [cnt_hid he (h j e h1 (by omega) he), h2]
theorem has_below {fr tt : List Nat} {en : Bool} {e : Ent} (h : belowK fr e = true) : hasV fr tt en e.key = false := by
 unfold belowK at h
 rw [decide_eq_true_eq] at h
 unfold hasV
 have h1 := cmpK_turn e.key fr
 rw [decide_eq_false (by omega)]
 rfl
theorem has_ends {fr tt : List Nat} {en : Bool} {k : List Nat} (h : endsV tt en k = true) : hasV fr tt en k = false := by unfold hasV; rw [h]; simp
theorem has_is {fr tt : List Nat} {en : Bool} {e : Ent} (h : belowK fr e = false) (h2 : endsV tt en e.key = false) : hasV fr tt en e.key = true := by
 unfold belowK at h
 rw [decide_eq_false_iff_not] at h
 unfold hasV
 have h1 := cmpK_turn e.key fr
 rw [h2, decide_eq_true (by omega)]
 rfl
theorem cmpK_le_trans {a b c : List Nat} (h : cmpK a b ≤ 0) (k : cmpK b c ≤ 0) : cmpK a c ≤ 0 := by
 have h1 := cmpK_range b c
 rcases h1 with h1 | h1 | h1
 · have := cmpK_trans_lt h (c := c) (by omega); omega
 · rw [← cmpK_zero h1]; exact h
 · omega
theorem cnt_ends {fr tt : List Nat} {en : Bool} {L : List Ent} (hr : Rise L) {i : Nat} {e : Ent} (h : L[i]? = some e) (hv : endsV tt en e.key = true) : cnt fr tt en L i = (inV fr tt en L).length := by
 have hlt := (zLg.1 h).1
 have h1 : cnt fr tt en L L.length = cnt fr tt en L i := by
  refine cnt_skip (Nat.le_of_lt hlt) fun k f hk _ hf => has_ends ?_
  rcases Nat.eq_or_lt_of_le hk with rfl | hk
  · rw [h] at hf; injection hf with hf; subst hf; exact hv
  · have h2 := cmpE_keys (rise_at hr hk h hf)
    unfold endsV at hv ⊢
    rw [Bool.and_eq_true, decide_eq_true_eq] at hv ⊢
    exact ⟨hv.1, cmpK_le_trans hv.2 h2⟩
 rw [← h1, cnt_all]
theorem cnt_first {fr tt : List Nat} {en : Bool} {C : List (List Ent)} (hc : Cuts C) (hr : Rise C.flatten) (hm : ∀ e ∈ C.flatten, e.may = true) {n : Nat} (h : Cut ((pls C).map lastE) ⟨fr, 2147483647, 0, []⟩ n) : cnt fr tt en C.flatten (offK C n) = 0 := by
 rw [← cnt_zero fr tt en C.flatten]
 refine cnt_skip (Nat.zero_le _) fun k e _ hk he => has_below ?_
 rcases n with _ | n
 · rw [offK_zero] at hk; omega
 obtain ⟨y', hy'⟩ : ∃ y, ((pls C).map lastE)[n]? = some y := ⟨_, List.getElem?_eq_getElem (by have := h.le; omega)⟩
 obtain ⟨f, k1, k2, _, k3⟩ := pls_lastE hc hm hy'
 have hlo := h.lo n y' (by omega) hy'
 rw [(k3 _).1] at hlo
 have h2 := cut_lo hr k1 hlo k e (by omega) he
 obtain ⟨_, _, _, m4, _⟩ := mayN_iff.1 (hm e (List.mem_of_getElem? he))
 unfold cmpE at h2
 unfold belowK
 rw [decide_eq_true_eq]
 split at h2
 · rename_i h0
   unfold cmpS at h2
   dsimp only at h0 h2
   rw [if_neg (by omega)] at h2
   split at h2 <;> omega
 · exact h2
theorem cut_below {key : List Nat} {q : List Ent} {i : Nat} {e : Ent} (h : q[i]? = some e) (hi : i < cutOf (belowK key) q) : belowK key e = true := by
 have h1 := List.takeWhile_prefix (p := belowK key) (l := q)
 obtain ⟨t, ht⟩ := h1
 have h2 : (q.takeWhile (belowK key))[i]? = some e := by
  rw [← ht] at h
  rwa [List.getElem?_append_left hi] at h
 exact List.all_eq_true.1 (List.all_takeWhile (p := belowK key) (l := q)) e (List.mem_of_getElem? h2)
theorem cut_above {key : List Nat} {q : List Ent} (hr : Rise q) {i : Nat} {e : Ent} (h : q[i]? = some e) (hi : cutOf (belowK key) q ≤ i) : belowK key e = false := by
 have hlt := (zLg.1 h).1
 have hc : cutOf (belowK key) q < q.length := by omega
 obtain ⟨f, hf⟩ : ∃ f, q[cutOf (belowK key) q]? = some f := ⟨_, List.getElem?_eq_getElem hc⟩
 have h1 : belowK key f = false := by
  have h2 := List.takeWhile_append_dropWhile (p := belowK key) (l := q)
  have h3 : (q.dropWhile (belowK key))[0]? = some f := by
   have h5 : (q.takeWhile (belowK key) ++ q.dropWhile (belowK key))[cutOf (belowK key) q]? = some f := by rw [h2]; exact hf
   unfold cutOf at h5
   rw [List.getElem?_append_right (zNr _)] at h5
   simpa using h5
  cases hd : q.dropWhile (belowK key) with
  | nil => rw [hd] at h3; cases h3
  | cons a l =>
   rw [hd] at h3
   injection h3 with h3
   have h4 := List.head?_dropWhile_not (belowK key) q
   rw [hd] at h4
   simp at h4
   rw [← h3]; simpa using h4
 rcases Nat.eq_or_lt_of_le hi with h2 | h2
 · rw [← h2, hf] at h; injection h with h; subst h; exact h1
 · have h3 := cmpE_keys (rise_at hr h2 hf h)
   unfold belowK at h1 ⊢
   rw [decide_eq_false_iff_not] at h1 ⊢
   intro h4
   exact h1 (cmpK_trans_lt h3 h4)
theorem block_rise {C : List (List Ent)} (hr : Rise C.flatten) {n : Nat} {q : List Ent} (hq : C[n]? = some q) : Rise q := by
 intro j a b ha hb
 have h1 := (zLg.1 ha).1
 have h2 := (zLg.1 hb).1
 refine hr (offK C n + j) a b ?_ ?_
 · rw [flat_at hq h1]; exact ha
 · rw [Nat.add_assoc, flat_at hq h2]; exact hb
theorem cnt_block {fr tt : List Nat} {en : Bool} {C : List (List Ent)} {n : Nat} {q : List Ent} (hq : C[n]? = some q) : cnt fr tt en C.flatten (offK C n + cutOf (belowK fr) q) = cnt fr tt en C.flatten (offK C n) := by
 refine cnt_skip (Nat.le_add_right _ _) fun k e h1 h2 he => has_below ?_
 obtain ⟨d, rfl⟩ : ∃ d, k = offK C n + d := ⟨k - offK C n, by omega⟩
 have hl := cutOf_le (belowK fr) q
 rw [flat_at hq (by omega)] at he
 exact cut_below he (by omega)
theorem set_three {u : World} {g : Nat} {a b c x0 x1 x2 : Value} {ty : TypeId} (h : u.heap[g]? = some (.cells #[a, b, c] ty (0, 0))) :
    (((u.setCell ⟨g, 0, none⟩ x0).setCell ⟨g, 1, none⟩ x1).setCell ⟨g, 2, none⟩ x2).heap[g]? = some (.cells #[x0, x1, x2] ty (0, 0)) :=
 heap_setCell_same _ _ _ _ _ _ (heap_setCell_same _ _ _ _ _ _ (heap_setCell_same _ _ _ _ _ _ h))
theorem chg_three {u : World} {g : Nat} {x0 x1 x2 : Value} : Chg (fun i => i = g) u (((u.setCell ⟨g, 0, none⟩ x0).setCell ⟨g, 1, none⟩ x1).setCell ⟨g, 2, none⟩ x2) :=
 (Chg.trans (S := fun i => i = g) (Chg.setCell u ⟨g, 0, none⟩ x0 rfl) (Chg.setCell _ ⟨g, 1, none⟩ x1 rfl)).trans (Chg.setCell _ ⟨g, 2, none⟩ x2 rfl)
theorem view_ret {fn : Func} (hr : fn.results = #[.cell 8 85]) {tmps : Array Value} {w : World} {g : Nat} {c : Array Value} {R : Ending → World → Prop} (h2 : tmps.getD 8 undef = .pointer (some ⟨g, 0, none⟩)) (hg : w.heap[g]? = some (.cells c 85 (0, 0))) (hc : c.size = 3) (h : R (.returned (.agg c)) w) :
    bodyPost Tryz.prog fn R .ret { tmps := tmps, defers := [] } w := by
 have hi : (Tryz.prog.info? 85).map (·.size) = some 3 := by kernel_rfl
 exact ⟨rfl, .agg c, results_cell_row hr _ _ _ _ _ _ _ h2 hg Tryz.underlying85 rfl (by rw [hc]; exact hi), h⟩
def clipF (fr a : List Nat) : List Nat := if cmpK fr a < 0 then a else fr
def clipT (tt : List Nat) (en : Bool) (b : List Nat) (e : Bool) : List Nat := if e && !endsV tt en b then b else tt
def clipE (en e : Bool) : Bool := en || e
theorem endsV_en {tt : List Nat} {en : Bool} {b : List Nat} (h : endsV tt en b = true) : en = true := by unfold endsV at h; simp at h; exact h.1
theorem frozen_three {u : World} {g j : Nat} {c : Array Value} {ty : TypeId} (h : u.heap[g]? = some (.cells c ty (0, 0))) : u.frozen? ⟨g, j, none⟩ = false := by simp [World.frozen?, h]
def Off (w : World) (H n : Nat) (v : Value) (l : List Nat) : Prop := ∃ lo hi, Bs w lo hi v l ∧ (hi ≤ H ∨ n ≤ lo) ∧ hi ≤ w.heap.size
theorem Off.ext {w w' : World} {H n : Nat} {v : Value} {l : List Nat} (h : Off w H n v l) (hx : Ext w w') : Off w' H n v l := by
 obtain ⟨lo, hi, h1, h2, h3⟩ := h
 exact ⟨lo, hi, h1.below hx h3, h2, zNt h3 hx.size⟩
theorem Off.set {w : World} {H n : Nat} {v : Value} {l : List Nat} (h : Off w H n v l) {p : Addr} (hp : H ≤ p.block ∧ p.block < n) (u : Value) : Off (w.setCell p u) H n v l := by
 obtain ⟨lo, hi, h1, h2, h3⟩ := h
 exact ⟨lo, hi, h1.setCell (by omega) u, h2, by simp [World.setCell]; exact h3⟩
theorem Off.bs {w : World} {H n : Nat} {v : Value} {l : List Nat} (h : Off w H n v l) : Bs w 0 w.heap.size v l := by
 obtain ⟨lo, hi, h1, h2, h3⟩ := h
 exact h1.wide (Nat.zero_le _) h3
def WAns (w : World) (H : Nat) (fr tt a b : List Nat) (en e : Bool) (x : Ending) (w' : World) : Prop :=
 Ext w w' ∧ ∃ (fA : Option Addr) (fc : Nat) (tA : Option Addr) (tc : Nat), x = .returned (.agg #[.slice fA (clipF fr a).length fc, .slice tA (clipT tt en b e).length tc, .bool (clipE en e)]) ∧ Off w' H (w.heap.size + 2) (.slice fA (clipF fr a).length fc) (clipF fr a) ∧ Off w' H (w.heap.size + 2) (.slice tA (clipT tt en b e).length tc) (clipT tt en b e)
theorem wans_of {w w' : World} {H : Nat} {fr tt a b fr1 t1 : List Nat} {en e e1 : Bool} {fA tA : Option Addr} {fc tc : Nat} (h1 : fr1 = clipF fr a) (h2 : t1 = clipT tt en b e) (h3 : e1 = clipE en e) (hx : Ext w w') (hf : Off w' H (w.heap.size + 2) (.slice fA fr1.length fc) fr1) (ht : Off w' H (w.heap.size + 2) (.slice tA t1.length tc) t1) :
    WAns w H fr tt a b en e (.returned (.agg #[.slice fA fr1.length fc, .slice tA t1.length tc, .bool e1])) w' := by
 subst h1 h2 h3
 exact ⟨hx, fA, fc, tA, tc, rfl, hf, ht⟩
set_option maxRecDepth 100000 in
set_option maxHeartbeats 8000000 in
theorem within_any {w : World} {H fc tc ac bc : Nat} {fA tA aA bA : Option Addr} {fr tt a b : List Nat} {en e : Bool} (hf : Bs w 0 H (.slice fA fr.length fc) fr) (bf : ∀ x ∈ fr, x < 256) (ht : Bs w 0 H (.slice tA tt.length tc) tt) (bt : ∀ x ∈ tt, x < 256) (ha : Bs w 0 H (.slice aA a.length ac) a) (ba : ∀ x ∈ a, x < 256) (hb : Bs w 0 H (.slice bA b.length bc) b) (bb : ∀ x ∈ b, x < 256) (hH : H ≤ w.heap.size) (hla : a.length ≤ 1000000000000) (hlb : b.length ≤ 1000000000000) :
    Calls Tryz.prog 67 #[.agg #[.slice fA fr.length fc, .slice tA tt.length tc, .bool en], .slice aA a.length ac, .slice bA b.length bc, .bool e] w (WAns w H fr tt a b en e) := by
 obtain ⟨w1, hw1⟩ : ∃ w1, w1 = (w.alloc (.cells #[.slice fA fr.length fc, .slice tA tt.length tc, .bool en] 85)).alloc (.cells #[.slice none 0 0, .slice none 0 0, .bool false] 85) := ⟨_, rfl⟩
 have HX1 : Hid (Ext w w1) := by rw [hw1]; exact zEt (ext_alloc _ _) (ext_alloc _ _)
 have HB1 : Hid (w1.heap[w.heap.size]? = some (.cells #[.slice fA fr.length fc, .slice tA tt.length tc, .bool en] 85 (0, 0))) := by rw [hw1]; exact ext_heap (ext_alloc _ _) (heap_at _ _ rfl)
 have HR1 : Hid (w1.heap[w.heap.size + 1]? = some (.cells #[.slice none 0 0, .slice none 0 0, .bool false] 85 (0, 0))) := by rw [hw1]; exact heap_at _ _ (by simp)
 have HZ1 : Hid (w1.heap.size = w.heap.size + 2) := by rw [hw1]; simp [Hid]
 have HF := zHd hf
 have HT := zHd ht
 have HH := zHd hH
 have HS0 : Hid (H ≤ w.heap.size ∧ w.heap.size < w.heap.size + 2) := ⟨hH, by omega⟩
 have HS1 : Hid (H ≤ w.heap.size + 1 ∧ w.heap.size + 1 < w.heap.size + 2) := ⟨by omega, by omega⟩
 replace hf := hf.wide (zNr _) hH
 replace ht := ht.wide (zNr _) hH
 replace ha := ha.wide (zNr _) hH
 replace hb := hb.wide (zNr _) hH
 have HBT := zHd bt
 have HBB := zHd bb
 have HTO := zHd hb
 have HLB := zHd hlb
 have HK := zHd (keys_any (bs_next hf HX1.out) (bs_next ha HX1.out) bf ba)
 have HCL := zHd (clone_any _ _ _ _ _ (bs_next ha HX1.out) (zNr _) (by omega))
 have c0 := cell_of HB1.out (k := 0) rfl
 obtain ⟨s, hs⟩ : ∃ s, s = cmpK fr a := ⟨_, rfl⟩
 have HS := zHd hs
 rw [← hs] at HK
 clear hf ht bt ha ba hb bb hla hlb bf hs hH
 by_cases hlt : s < 0
 · have d : decide (s < 0) = true := decide_eq_true hlt
   have HFR : Hid (a = clipF fr a) := by unfold clipF; rw [← HS.out, if_pos hlt]; exact rfl
   clear hlt
   go_enter Tryz.func67, Tryz.ntmps67
   go_upto_region 1 with (fail)
   rw [← hw1]
   clear hw1
   go_wp2_with fail
   refine HK.out.mono ?_
   rintro x w2 ⟨rfl, rfl⟩
   go_wp2_with fail
   refine HCL.out.mono ?_
   rintro x w3 ⟨v, rfl, ho, hb3⟩
   have hbs := Bs.of_own ho
   obtain ⟨f1A, f1c, rfl, _⟩ := id hbs
   have hbx3 : w3.heap[w.heap.size]? = some (.cells #[.slice fA fr.length fc, .slice tA tt.length tc, .bool en] 85 (0, 0)) := (hb3.block _ (by have := HZ1.out; omega)).trans HB1.out
   have HB3 := zHd hbx3
   have b0 := cell_of hbx3 (k := 0) rfl
   have y0 := frozen_three (j := 0) hbx3
   have HX3 : Hid (Ext w w3) := Below.trans HX1.out (Below.mono hb3 HX1.out.size)
   have HR3 : Hid (w3.heap[w.heap.size + 1]? = some (.cells #[.slice none 0 0, .slice none 0 0, .bool false] 85 (0, 0))) := (hb3.block _ (by have := HZ1.out; omega)).trans HR1.out
   have HBN : Hid (Off w3 H (w.heap.size + 2) (.slice f1A a.length f1c) a) := ⟨_, _, hbs, .inr (Nat.le_of_eq HZ1.out.symm), zNr _⟩
   have HBT3 : Hid (Off w3 H (w.heap.size + 2) (.slice tA tt.length tc) tt) := ⟨_, _, HT.out.below HX3.out HH.out, .inl (zNr _), zNt HH.out HX3.out.size⟩
   have HZ3 : Hid (w.heap.size + 2 ≤ w3.heap.size) := by have := hb3.size; have := HZ1.out; unfold Hid; omega
   clear ho hb3 hbs hbx3 HCL HK c0
   go_upto_region 3 with (fail)
   obtain ⟨u1, hu1⟩ : ∃ u1, u1 = w3.setCell ⟨w.heap.size, 0, none⟩ (.slice f1A a.length f1c) := ⟨_, rfl⟩
   rw [← hu1]
   have HXX : Hid (Ext w u1) := by rw [hu1]; exact Below.setCell HX3.out (zNr _) _
   have HBX : Hid (u1.heap[w.heap.size]? = some (.cells #[.slice f1A a.length f1c, .slice tA tt.length tc, .bool en] 85 (0, 0))) := by rw [hu1]; exact heap_setCell_same _ _ _ _ _ _ HB3.out
   have HRX : Hid (u1.heap[w.heap.size + 1]? = some (.cells #[.slice none 0 0, .slice none 0 0, .bool false] 85 (0, 0))) := by rw [hu1]; exact (Below.heap_setCell _ _ _ _ (by show w.heap.size + 1 ≠ w.heap.size; omega)).trans HR3.out
   have HBF : Hid (Off u1 H (w.heap.size + 2) (.slice f1A a.length f1c) a) := by rw [hu1]; exact HBN.out.set HS0.out _
   have HBTT : Hid (Off u1 H (w.heap.size + 2) (.slice tA tt.length tc) tt) := by rw [hu1]; exact HBT3.out.set HS0.out _
   have HSZ : Hid (w.heap.size + 2 ≤ u1.heap.size) := by rw [hu1]; show _ ≤ (w3.setCell _ _).heap.size; simp [World.setCell]; exact HZ3.out
   clear hu1 b0 y0
   cases e with
   | false =>
    have b0 := cell_of HBX.out (k := 0) rfl
    have b1 := cell_of HBX.out (k := 1) rfl
    have b2 := cell_of HBX.out (k := 2) rfl
    have q0 := cell_of HRX.out (k := 0) rfl
    have q1 := cell_of HRX.out (k := 1) rfl
    have q2 := cell_of HRX.out (k := 2) rfl
    have y0 := frozen_three (j := 0) HRX.out
    have y1 := frozen_three (j := 1) HRX.out
    have y2 := frozen_three (j := 2) HRX.out
    go_wp2_with fail
    refine view_ret rfl rfl (set_three HRX.out) rfl (wans_of HFR.out (show tt = clipT tt en b false from rfl) (Bool.or_false _).symm (Below.trans HXX.out (chg_three.below (fun i hi => by rw [hi]; exact Nat.le_succ _) HXX.out.size)) ?_ ?_)
    · exact ((((HBF.out.set HS1.out _).set HS1.out _).set HS1.out _))
    · exact ((((HBTT.out.set HS1.out _).set HS1.out _).set HS1.out _))
   | true =>
    have HE := zHd (tends_any (fA := f1A) (fn := a.length) (fc := f1c) (en := en) HBTT.out.bs (zNr _) HBT.out (bs_next HTO.out HXX.out) (zNr _) HBB.out)
    have b0 := cell_of HBX.out (k := 0) rfl
    have b1 := cell_of HBX.out (k := 1) rfl
    have b2 := cell_of HBX.out (k := 2) rfl
    obtain ⟨z, hz⟩ : ∃ z, z = endsV tt en b := ⟨_, rfl⟩
    have HZ := zHd hz
    rw [← hz] at HE
    clear hz
    go_wp2_with fail
    refine HE.out.mono ?_
    rintro x v2 ⟨rfl, hx⟩
    have HXV : Hid (Ext w v2) := zEt HXX.out hx
    have HBXV : Hid (v2.heap[w.heap.size]? = some (.cells #[.slice f1A a.length f1c, .slice tA tt.length tc, .bool en] 85 (0, 0))) := ext_heap hx HBX.out
    have HRXV : Hid (v2.heap[w.heap.size + 1]? = some (.cells #[.slice none 0 0, .slice none 0 0, .bool false] 85 (0, 0))) := ext_heap hx HRX.out
    have HBFV := zHd (HBF.out.ext hx)
    have HBTV := zHd (HBTT.out.ext hx)
    have HCB := zHd (clone_any _ _ _ _ _ (bs_next HTO.out HXV.out) (zNr _) (by have := HLB.out; omega))
    have HZV : Hid (w.heap.size + 2 ≤ v2.heap.size) := zNt HSZ.out hx.size
    clear hx b0 b1 b2 HE
    cases z with
    | true =>
     have b0 := cell_of HBXV.out (k := 0) rfl
     have b1 := cell_of HBXV.out (k := 1) rfl
     have b2 := cell_of HBXV.out (k := 2) rfl
     have q0 := cell_of HRXV.out (k := 0) rfl
     have q1 := cell_of HRXV.out (k := 1) rfl
     have q2 := cell_of HRXV.out (k := 2) rfl
     have y0 := frozen_three (j := 0) HRXV.out
     have y1 := frozen_three (j := 1) HRXV.out
     have y2 := frozen_three (j := 2) HRXV.out
     go_wp2_with fail
     refine view_ret rfl rfl (set_three HRXV.out) rfl (wans_of HFR.out (by unfold clipT; rw [← HZ.out]; exact rfl) (by rw [endsV_en HZ.out.symm]; exact rfl) (Below.trans HXV.out (chg_three.below (fun i hi => by rw [hi]; exact Nat.le_succ _) HXV.out.size)) ?_ ?_)
     · exact ((((HBFV.out.set HS1.out _).set HS1.out _).set HS1.out _))
     · exact ((((HBTV.out.set HS1.out _).set HS1.out _).set HS1.out _))
    | false =>
     go_wp2_with fail
     refine HCB.out.mono ?_
     rintro x v3 ⟨v, rfl, ho, hb3⟩
     have hbs := Bs.of_own ho
     obtain ⟨NA, nc, rfl, _⟩ := id hbs
     have HXW : Hid (Ext w v3) := Below.trans HXV.out (Below.mono hb3 HXV.out.size)
     have hbx3 : v3.heap[w.heap.size]? = some (.cells #[.slice f1A a.length f1c, .slice tA tt.length tc, .bool en] 85 (0, 0)) := (hb3.block _ (by have := HZV.out; omega)).trans HBXV.out
     have b1 := cell_of hbx3 (k := 1) rfl
     have b2 := cell_of hbx3 (k := 2) rfl
     have y1 := frozen_three (j := 1) hbx3
     have y2 := frozen_three (j := 2) hbx3
     have hbx4 : (v3.setCell ⟨w.heap.size, 1, none⟩ (.slice NA b.length nc)).heap[w.heap.size]? = some (.cells #[.slice f1A a.length f1c, .slice NA b.length nc, .bool en] 85 (0, 0)) := heap_setCell_same _ _ _ _ _ _ hbx3
     have b5 := cell_of hbx4 (k := 2) rfl
     have y5 := frozen_three (j := 2) hbx4
     have HB3 := zHd hbx3
     have HBN : Hid (Off v3 H (w.heap.size + 2) (.slice NA b.length nc) b) := ⟨_, _, hbs, .inr HZV.out, zNr _⟩
     have HBF3 := zHd (HBFV.out.ext hb3)
     have HRX3 : Hid (v3.heap[w.heap.size + 1]? = some (.cells #[.slice none 0 0, .slice none 0 0, .bool false] 85 (0, 0))) := (hb3.block _ (by have := HZV.out; omega)).trans HRXV.out
     clear ho hb3 hbs hbx3 hbx4
     go_upto_region 5 with (fail)
     obtain ⟨v5, hv5⟩ : ∃ v5, v5 = (v3.setCell ⟨w.heap.size, 1, none⟩ (.slice NA b.length nc)).setCell ⟨w.heap.size, 2, none⟩ (.bool true) := ⟨_, rfl⟩
     rw [← hv5]
     have HX5 : Hid (Ext w v5) := by rw [hv5]; exact Below.setCell (Below.setCell HXW.out (zNr _) _) (zNr _) _
     have HB5 : Hid (v5.heap[w.heap.size]? = some (.cells #[.slice f1A a.length f1c, .slice NA b.length nc, .bool true] 85 (0, 0))) := by rw [hv5]; exact heap_setCell_same _ _ _ _ _ _ (heap_setCell_same _ _ _ _ _ _ HB3.out)
     have HR5 : Hid (v5.heap[w.heap.size + 1]? = some (.cells #[.slice none 0 0, .slice none 0 0, .bool false] 85 (0, 0))) := by rw [hv5]; exact (Below.heap_setCell _ _ _ _ (by show w.heap.size + 1 ≠ w.heap.size; omega)).trans ((Below.heap_setCell _ _ _ _ (by show w.heap.size + 1 ≠ w.heap.size; omega)).trans HRX3.out)
     have HF5 : Hid (Off v5 H (w.heap.size + 2) (.slice f1A a.length f1c) a) := by rw [hv5]; exact (HBF3.out.set HS0.out _).set HS0.out _
     have HT5 : Hid (Off v5 H (w.heap.size + 2) (.slice NA b.length nc) b) := by rw [hv5]; exact (HBN.out.set HS0.out _).set HS0.out _
     clear hv5 b1 b2 b5 y1 y2 y5
     have b0 := cell_of HB5.out (k := 0) rfl
     have b1 := cell_of HB5.out (k := 1) rfl
     have b2 := cell_of HB5.out (k := 2) rfl
     have q0 := cell_of HR5.out (k := 0) rfl
     have q1 := cell_of HR5.out (k := 1) rfl
     have q2 := cell_of HR5.out (k := 2) rfl
     have y0 := frozen_three (j := 0) HR5.out
     have y1 := frozen_three (j := 1) HR5.out
     have y2 := frozen_three (j := 2) HR5.out
     go_wp2_with fail
     refine view_ret rfl rfl (set_three HR5.out) rfl (wans_of HFR.out (by unfold clipT; rw [← HZ.out]; exact rfl) (Bool.or_true _).symm (Below.trans HX5.out (chg_three.below (fun i hi => by rw [hi]; exact Nat.le_succ _) HX5.out.size)) ?_ ?_)
     · exact ((((HF5.out.set HS1.out _).set HS1.out _).set HS1.out _))
     · exact ((((HT5.out.set HS1.out _).set HS1.out _).set HS1.out _))
 · have d : decide (s < 0) = false := decide_eq_false hlt
   have HFR : Hid (fr = clipF fr a) := by unfold clipF; rw [← HS.out, if_neg hlt]; exact rfl
   clear hlt
   go_enter Tryz.func67, Tryz.ntmps67
   go_upto_region 1 with (fail)
   rw [← hw1]
   clear hw1
   go_wp2_with fail
   refine HK.out.mono ?_
   rintro x w2 ⟨rfl, rfl⟩
   go_upto_region 3 with (fail)
   have HBF : Hid (Off w2 H (w.heap.size + 2) (.slice fA fr.length fc) fr) := ⟨_, _, HF.out.below HX1.out HH.out, .inl (zNr _), zNt HH.out HX1.out.size⟩
   have HBTT : Hid (Off w2 H (w.heap.size + 2) (.slice tA tt.length tc) tt) := ⟨_, _, HT.out.below HX1.out HH.out, .inl (zNr _), zNt HH.out HX1.out.size⟩
   have HSZ : Hid (w.heap.size + 2 ≤ w2.heap.size) := Nat.le_of_eq HZ1.out.symm
   clear HCL HK c0
   cases e with
   | false =>
    have b0 := cell_of HB1.out (k := 0) rfl
    have b1 := cell_of HB1.out (k := 1) rfl
    have b2 := cell_of HB1.out (k := 2) rfl
    have q0 := cell_of HR1.out (k := 0) rfl
    have q1 := cell_of HR1.out (k := 1) rfl
    have q2 := cell_of HR1.out (k := 2) rfl
    have y0 := frozen_three (j := 0) HR1.out
    have y1 := frozen_three (j := 1) HR1.out
    have y2 := frozen_three (j := 2) HR1.out
    go_wp2_with fail
    refine view_ret rfl rfl (set_three HR1.out) rfl (wans_of HFR.out (show tt = clipT tt en b false from rfl) (Bool.or_false _).symm (Below.trans HX1.out (chg_three.below (fun i hi => by rw [hi]; exact Nat.le_succ _) HX1.out.size)) ?_ ?_)
    · exact ((((HBF.out.set HS1.out _).set HS1.out _).set HS1.out _))
    · exact ((((HBTT.out.set HS1.out _).set HS1.out _).set HS1.out _))
   | true =>
    have HE := zHd (tends_any (fA := fA) (fn := fr.length) (fc := fc) (en := en) HBTT.out.bs (zNr _) HBT.out (bs_next HTO.out HX1.out) (zNr _) HBB.out)
    have b0 := cell_of HB1.out (k := 0) rfl
    have b1 := cell_of HB1.out (k := 1) rfl
    have b2 := cell_of HB1.out (k := 2) rfl
    obtain ⟨z, hz⟩ : ∃ z, z = endsV tt en b := ⟨_, rfl⟩
    have HZ := zHd hz
    rw [← hz] at HE
    clear hz
    go_wp2_with fail
    refine HE.out.mono ?_
    rintro x v2 ⟨rfl, hx⟩
    have HXV : Hid (Ext w v2) := zEt HX1.out hx
    have HBXV : Hid (v2.heap[w.heap.size]? = some (.cells #[.slice fA fr.length fc, .slice tA tt.length tc, .bool en] 85 (0, 0))) := ext_heap hx HB1.out
    have HRXV : Hid (v2.heap[w.heap.size + 1]? = some (.cells #[.slice none 0 0, .slice none 0 0, .bool false] 85 (0, 0))) := ext_heap hx HR1.out
    have HBFV := zHd (HBF.out.ext hx)
    have HBTV := zHd (HBTT.out.ext hx)
    have HCB := zHd (clone_any _ _ _ _ _ (bs_next HTO.out HXV.out) (zNr _) (by have := HLB.out; omega))
    have HZV : Hid (w.heap.size + 2 ≤ v2.heap.size) := zNt HSZ.out hx.size
    clear hx b0 b1 b2 HE
    cases z with
    | true =>
     have b0 := cell_of HBXV.out (k := 0) rfl
     have b1 := cell_of HBXV.out (k := 1) rfl
     have b2 := cell_of HBXV.out (k := 2) rfl
     have q0 := cell_of HRXV.out (k := 0) rfl
     have q1 := cell_of HRXV.out (k := 1) rfl
     have q2 := cell_of HRXV.out (k := 2) rfl
     have y0 := frozen_three (j := 0) HRXV.out
     have y1 := frozen_three (j := 1) HRXV.out
     have y2 := frozen_three (j := 2) HRXV.out
     go_wp2_with fail
     refine view_ret rfl rfl (set_three HRXV.out) rfl (wans_of HFR.out (by unfold clipT; rw [← HZ.out]; exact rfl) (by rw [endsV_en HZ.out.symm]; exact rfl) (Below.trans HXV.out (chg_three.below (fun i hi => by rw [hi]; exact Nat.le_succ _) HXV.out.size)) ?_ ?_)
     · exact ((((HBFV.out.set HS1.out _).set HS1.out _).set HS1.out _))
     · exact ((((HBTV.out.set HS1.out _).set HS1.out _).set HS1.out _))
    | false =>
     go_wp2_with fail
     refine HCB.out.mono ?_
     rintro x v3 ⟨v, rfl, ho, hb3⟩
     have hbs := Bs.of_own ho
     obtain ⟨NA, nc, rfl, _⟩ := id hbs
     have HXW : Hid (Ext w v3) := Below.trans HXV.out (Below.mono hb3 HXV.out.size)
     have hbx3 : v3.heap[w.heap.size]? = some (.cells #[.slice fA fr.length fc, .slice tA tt.length tc, .bool en] 85 (0, 0)) := (hb3.block _ (by have := HZV.out; omega)).trans HBXV.out
     have b1 := cell_of hbx3 (k := 1) rfl
     have b2 := cell_of hbx3 (k := 2) rfl
     have y1 := frozen_three (j := 1) hbx3
     have y2 := frozen_three (j := 2) hbx3
     have hbx4 : (v3.setCell ⟨w.heap.size, 1, none⟩ (.slice NA b.length nc)).heap[w.heap.size]? = some (.cells #[.slice fA fr.length fc, .slice NA b.length nc, .bool en] 85 (0, 0)) := heap_setCell_same _ _ _ _ _ _ hbx3
     have b5 := cell_of hbx4 (k := 2) rfl
     have y5 := frozen_three (j := 2) hbx4
     have HB3 := zHd hbx3
     have HBN : Hid (Off v3 H (w.heap.size + 2) (.slice NA b.length nc) b) := ⟨_, _, hbs, .inr HZV.out, zNr _⟩
     have HBF3 := zHd (HBFV.out.ext hb3)
     have HRX3 : Hid (v3.heap[w.heap.size + 1]? = some (.cells #[.slice none 0 0, .slice none 0 0, .bool false] 85 (0, 0))) := (hb3.block _ (by have := HZV.out; omega)).trans HRXV.out
     clear ho hb3 hbs hbx3 hbx4
     go_upto_region 5 with (fail)
     obtain ⟨v5, hv5⟩ : ∃ v5, v5 = (v3.setCell ⟨w.heap.size, 1, none⟩ (.slice NA b.length nc)).setCell ⟨w.heap.size, 2, none⟩ (.bool true) := ⟨_, rfl⟩
     rw [← hv5]
     have HX5 : Hid (Ext w v5) := by rw [hv5]; exact Below.setCell (Below.setCell HXW.out (zNr _) _) (zNr _) _
     have HB5 : Hid (v5.heap[w.heap.size]? = some (.cells #[.slice fA fr.length fc, .slice NA b.length nc, .bool true] 85 (0, 0))) := by rw [hv5]; exact heap_setCell_same _ _ _ _ _ _ (heap_setCell_same _ _ _ _ _ _ HB3.out)
     have HR5 : Hid (v5.heap[w.heap.size + 1]? = some (.cells #[.slice none 0 0, .slice none 0 0, .bool false] 85 (0, 0))) := by rw [hv5]; exact (Below.heap_setCell _ _ _ _ (by show w.heap.size + 1 ≠ w.heap.size; omega)).trans ((Below.heap_setCell _ _ _ _ (by show w.heap.size + 1 ≠ w.heap.size; omega)).trans HRX3.out)
     have HF5 : Hid (Off v5 H (w.heap.size + 2) (.slice fA fr.length fc) fr) := by rw [hv5]; exact (HBF3.out.set HS0.out _).set HS0.out _
     have HT5 : Hid (Off v5 H (w.heap.size + 2) (.slice NA b.length nc) b) := by rw [hv5]; exact (HBN.out.set HS0.out _).set HS0.out _
     clear hv5 b1 b2 b5 y1 y2 y5
     have b0 := cell_of HB5.out (k := 0) rfl
     have b1 := cell_of HB5.out (k := 1) rfl
     have b2 := cell_of HB5.out (k := 2) rfl
     have q0 := cell_of HR5.out (k := 0) rfl
     have q1 := cell_of HR5.out (k := 1) rfl
     have q2 := cell_of HR5.out (k := 2) rfl
     have y0 := frozen_three (j := 0) HR5.out
     have y1 := frozen_three (j := 1) HR5.out
     have y2 := frozen_three (j := 2) HR5.out
     go_wp2_with fail
     refine view_ret rfl rfl (set_three HR5.out) rfl (wans_of HFR.out (by unfold clipT; rw [← HZ.out]; exact rfl) (Bool.or_true _).symm (Below.trans HX5.out (chg_three.below (fun i hi => by rw [hi]; exact Nat.le_succ _) HX5.out.size)) ?_ ?_)
     · exact ((((HF5.out.set HS1.out _).set HS1.out _).set HS1.out _))
     · exact ((((HT5.out.set HS1.out _).set HS1.out _).set HS1.out _))
def ClipAns (w : World) (C : List (List Ent)) (L : List Ent) (fr tt a b : List Nat) (en e : Bool) (x : Ending) (w' : World) : Prop :=
 Ext w w' ∧ ∃ g, x = .returned (.pointer (some ⟨g, 0, none⟩)) ∧ TV w' g C L (clipF fr a) (clipT tt en b e) (clipE en e)
theorem clipF_lt {fr a : List Nat} (h1 : ∀ x ∈ fr, x < 256) (h2 : ∀ x ∈ a, x < 256) : ∀ x ∈ clipF fr a, x < 256 := by unfold clipF; split <;> assumption
theorem clipT_lt {tt b : List Nat} {en e : Bool} (h1 : ∀ x ∈ tt, x < 256) (h2 : ∀ x ∈ b, x < 256) : ∀ x ∈ clipT tt en b e, x < 256 := by unfold clipT; split <;> assumption
set_option maxRecDepth 100000 in
set_option maxHeartbeats 2000000 in
theorem clip_any {w : World} {g : Nat} {C : List (List Ent)} {L : List Ent} {fr tt a b : List Nat} {en e : Bool} {ac bc : Nat} {aA bA : Option Addr} (h : TV w g C L fr tt en) (ha : Bs w 0 w.heap.size (.slice aA a.length ac) a) (ba : ∀ x ∈ a, x < 256) (hb : Bs w 0 w.heap.size (.slice bA b.length bc) b) (bb : ∀ x ∈ b, x < 256) (hla : a.length ≤ 1000000000000) (hlb : b.length ≤ 1000000000000) :
    Calls Tryz.prog 33 #[.pointer (some ⟨g, 0, none⟩), .slice aA a.length ac, .slice bA b.length bc, .bool e] w (ClipAns w C L fr tt a b en e) := by
 have HN := zHd (tnone_any h)
 have HT := zHd h
 obtain ⟨fA, fc, tA, tc, ⟨bv_, fv_, PA, pc, P, h1, h2, h3, h4, h5, h6⟩, hf, ht⟩ := h.at_
 obtain ⟨BA, bcap, rfl, _⟩ := id h2
 obtain ⟨FA, fcap, rfl, _⟩ := id h3
 unfold tbcells at h1
 obtain ⟨w1, hw1⟩ : ∃ w1, w1 = w.alloc (.cells #[.slice BA (tb C L).length bcap, .slice PA P.length pc, .slice FA (Bl.mk (keysT L)).length fcap, .slice fA fr.length fc, .slice tA tt.length tc, .bool en] 87) := ⟨_, rfl⟩
 have HX1 : Hid (Ext w w1) := by rw [hw1]; exact ext_alloc _ _
 have HB1 : Hid (w1.heap[w.heap.size]? = some (.cells #[.slice BA (tb C L).length bcap, .slice PA P.length pc, .slice FA (Bl.mk (keysT L)).length fcap, .slice fA fr.length fc, .slice tA tt.length tc, .bool en] 87 (0, 0))) := by rw [hw1]; exact heap_at _ _ rfl
 have HZ1 : Hid (w1.heap.size = w.heap.size + 1) := by rw [hw1]; simp [Hid]
 have HW := zHd (within_any (en := en) (e := e) (H := w.heap.size) (hf.below HX1.out (zNr _)) h.bf (ht.below HX1.out (zNr _)) h.bt (ha.below HX1.out (zNr _)) ba (hb.below HX1.out (zNr _)) bb HX1.out.size hla hlb)
 have HP := zHd (And.intro h2 (And.intro h3 (And.intro h4 (And.intro h5 h6))))
 have HA := zHd (And.intro ba bb)
 have HG := zHd h1
 have c0 := cell_of h1 (k := 0) rfl
 have c1 := cell_of h1 (k := 1) rfl
 have c2 := cell_of h1 (k := 2) rfl
 have c3 := cell_of h1 (k := 3) rfl
 have c4 := cell_of h1 (k := 4) rfl
 have c5 := cell_of h1 (k := 5) rfl
 clear h h1 h2 h3 h4 h5 h6 hf ht ha ba hb bb hla hlb
 go_enter Tryz.func33, Tryz.ntmps33
 go_wp2_with fail
 refine HN.out.mono ?_
 rintro x w0 ⟨rfl, hw0⟩
 have hw0 := hw0.symm
 subst hw0
 go_upto_region 4 with (fail)
 rw [← hw1]
 clear hw1 c0 c1 c2 c3 c4 c5
 have d3 := cell_of (ext_heap HX1.out HG.out) (k := 3) rfl
 have d4 := cell_of (ext_heap HX1.out HG.out) (k := 4) rfl
 have d5 := cell_of (ext_heap HX1.out HG.out) (k := 5) rfl
 go_wp2_with fail
 refine HW.out.mono ?_
 rintro x w2 ⟨hx2, gA, gc, uA, uc, rfl, hg2, hu2⟩
 have hb2 := ext_heap hx2 HB1.out
 have HB2 := zHd hb2
 have HX2 : Hid (Ext w w2) := zEt HX1.out hx2
 have HG2 := zHd hg2
 have HU2 := zHd hu2
 have HSS : Hid (w.heap.size ≤ w.heap.size ∧ w.heap.size < w1.heap.size + 2) := ⟨zNr _, by have := HZ1.out; omega⟩
 have b3 := cell_of hb2 (k := 3) rfl
 have b4 := cell_of hb2 (k := 4) rfl
 have b5 := cell_of hb2 (k := 5) rfl
 have y3 := frozen_six (j := 3) hb2
 have y4 := frozen_six (j := 4) hb2
 have y5 := frozen_six (j := 5) hb2
 clear hx2 hg2 hu2 hb2 d3 d4 d5 HW
 go_upto_region 5 with (fail)
 obtain ⟨w3, hw3⟩ : ∃ w3, w3 = ((w2.setCell ⟨w.heap.size, 3, none⟩ (.slice gA (clipF fr a).length gc)).setCell ⟨w.heap.size, 4, none⟩ (.slice uA (clipT tt en b e).length uc)).setCell ⟨w.heap.size, 5, none⟩ (.bool (clipE en e)) := ⟨_, rfl⟩
 rw [← hw3]
 have HB3 : Hid (w3.heap[w.heap.size]? = some (.cells #[.slice BA (tb C L).length bcap, .slice PA P.length pc, .slice FA (Bl.mk (keysT L)).length fcap, .slice gA (clipF fr a).length gc, .slice uA (clipT tt en b e).length uc, .bool (clipE en e)] 87 (0, 0))) := by rw [hw3]; exact heap_setCell_same _ _ _ _ _ _ (heap_setCell_same _ _ _ _ _ _ (heap_setCell_same _ _ _ _ _ _ HB2.out))
 have HX3 : Hid (Ext w w3) := by rw [hw3]; exact Below.setCell (Below.setCell (Below.setCell HX2.out (zNr _) _) (zNr _) _) (zNr _) _
 have HF3 : Hid (Bs w3 0 w3.heap.size (.slice gA (clipF fr a).length gc) (clipF fr a)) := by rw [hw3]; exact (((HG2.out.set HSS.out _).set HSS.out _).set HSS.out _).bs
 have HT3 : Hid (Bs w3 0 w3.heap.size (.slice uA (clipT tt en b e).length uc) (clipT tt en b e)) := by rw [hw3]; exact (((HU2.out.set HSS.out _).set HSS.out _).set HSS.out _).bs
 clear hw3 b3 b4 b5 y3 y4 y5
 go_wp2_with fail
 go_ret
 obtain ⟨p2, p3, p4, p5, p6⟩ := HP.out
 exact ⟨HX3.out, w.heap.size, rfl, ⟨HT.out.may, HT.out.cuts, HT.out.flat, ⟨gA, gc, uA, uc, ⟨_, _, PA, pc, P, HB3.out, bs_next p2 HX3.out, bs_next p3 HX3.out, p4.next HX3.out, p5, p6⟩, HF3.out, HT3.out⟩, clipF_lt HT.out.bf HA.out.1, clipT_lt HT.out.bt HA.out.2, HT.out.good⟩⟩
theorem tall_any {w : World} {v : Value} (hv : ∃ g, v = .pointer g) : Calls Tryz.prog 11 #[v] w fun x w' => x = .returned (.func (.func 40) #[] #[.pointer (some ⟨w.heap.size, 0, none⟩)]) ∧ w' = w.alloc (.cells #[v] 24) := by
 obtain ⟨g, rfl⟩ := hv
 go_enter Tryz.func11, Tryz.ntmps11
 go_wp2_with fail
 go_ret
 exact ⟨rfl, rfl⟩
end Go.Proofs.YtkdidghfcfcpfaaGreat
namespace Go.Proofs.YtkdidghfcfcpfaaGreat
open Go.RowKit
def IterQ (P : Program) {α : Type} (gf : Nat) (lb : Array Value) (encs : α → Array Value) (Ok : (Nat → Prop) → (Nat → Prop) → Nat → α → World → Prop) (Done : Nat → Prop) (C : World → Prop) (w : World) : Prop :=
 ∀ (m l : Nat) (J : (Nat → Prop) → (Nat → Prop) → Nat → World → Prop) (Jx : (Nat → Prop) → World → Prop) (W : World), Ext w W →
  (∀ D K k A, J D K k A → C A) →
  (∀ D K k A D' K' A', J D K k A → Chg D A A' → (∀ i, D' i → D i ∨ A.heap.size ≤ i) → (∀ i, K' i → K i ∨ A.heap.size ≤ i) → J D' K' k A') →
  (∀ D A A', Jx D A → Chg D A A' → Jx D A') →
  (∀ A D K, Ext W A → (∀ i, D i → W.heap.size ≤ i) → (∀ i, K i → W.heap.size ≤ i) → J D K 0 A) →
  (∀ D K k x A, (∀ i, D i → W.heap.size ≤ i ∧ i < A.heap.size) → (∀ i, K i → W.heap.size ≤ i ∧ i < A.heap.size) → J D K k A → Ok D K k x A →
   YieldAt Fence.wide m P l (encs x) A fun e A' => StepK K A A' ∧ ((e = .returned (.bool true) ∧ J D K (k + 1) A') ∨ (e = .returned (.bool false) ∧ Jx D A'))) →
  Calls P gf (#[.func (.yield l) #[] #[]] ++ lb) W fun e A => (∃ v, e = .returned v) ∧ ((∃ D K k, J D K k A ∧ Done k) ∨ ∃ D, Jx D A)
theorem wpIn_overQ {P : Program} {n : Nat} {α : Type} {g : Operand} {ps : Array Tmp} {assign body : Code} {Q : Exit → Act → World → Prop} {a : Act} {w : World}
    {gf : Nat} {lb : Array Value} (hg : a.eval g = .func (.func gf) #[] lb) (eg : ∀ args w, (callFunc gf args).run P w = .ok (.enter gf args) w)
    {encs : α → Array Value} {Ok : (Nat → Prop) → (Nat → Prop) → Nat → α → World → Prop} {Done : Nat → Prop} {C : World → Prop} (hseq : IterQ P gf lb encs Ok Done C w) (hps : ∀ x, (encs x).size = ps.size)
    (I : (Nat → Prop) → (Nat → Prop) → Nat → World → Prop) (Ix : (Nat → Prop) → Code → World → Prop) (hC : ∀ D K k A, I D K k A → C A)
    (hI : ∀ D K k A D' K' A', I D K k A → Chg D A A' → (∀ i, D' i → D i ∨ A.heap.size ≤ i) → (∀ i, K' i → K i ∨ A.heap.size ≤ i) → I D' K' k A') (hIx : ∀ D c A A', Ix D c A → Chg D A A' → Ix D c A')
    (h0 : ∀ A D K, Ext w A → (∀ i, D i → w.heap.size ≤ i) → (∀ i, K i → w.heap.size ≤ i) → I D K 0 A)
    (hround : ∀ l D K k x A, l = w.heap.size + 1 → D l → K l → D w.heap.size → K w.heap.size → (∀ i, D i → w.heap.size ≤ i ∧ i < A.heap.size) → (∀ i, K i → w.heap.size ≤ i ∧ i < A.heap.size) → I D K k A → Ok D K k x A →
     assign.wpIn (Fence.wide.inRound l) (n - 1 - 1) P (Exit.then (fun a₁ A1 => StepK K A A1 ∧ ∀ A2, Chg (fun i => i = l) A1 A2 → body.wpIn (Fence.wide.inRound l) (n - 1 - 1) P (bodyOwesK K (I D K (k + 1)) (Ix D) A2) a₁ A2) (fun _ _ _ => False))
      { tmps := (ps.zip (encs x)).foldl (fun t (p, v) => t.setIfInBounds p v) a.tmps, defers := [] } A)
    (hOk : ∀ D K D' K' k x A, Ok D K k x A → (∃ o, A.heap[w.heap.size]? = some (.deferred o)) → (∃ o, A.heap[w.heap.size + 1]? = some (.loop o)) → (∀ i, D' i → D i ∨ i = w.heap.size ∨ i = w.heap.size + 1) → (∀ i, K' i → K i ∨ i = w.heap.size ∨ i = w.heap.size + 1) → (∀ i, D i → D' i) → (∀ i, K i → K' i) → Ok D' K' k x A)
    (hdone : ∀ D k W D0 K0, D = w.heap.size → D0 D → K0 D → I D0 K0 k W → Done k → W.heap[D]? = some (.deferred (some [])) → Q .normal { a with defers := { target := .collected D, args := #[] } :: a.defers } W)
    (hstop : ∀ D0 D c W, D = w.heap.size → D0 D → Ix D0 c W → W.heap[D]? = some (.deferred (some [])) → c.wpIn Fence.wide n P Q { a with defers := { target := .collected D, args := #[] } :: a.defers } W) :
    (Code.rangeFunc g ps assign body).wpIn Fence.wide n P Q a w := by
 refine wpIn_rangeFunc ?_
 intro fn hfn
 obtain ⟨rec, hrec⟩ : ∃ rec : LoopState → Option Code → Loop, rec = fun st pe => { state := st, pending := pe, fn, tmps := a.tmps, params := ps, assign, body, defers := w.heap.size } := ⟨_, rfl⟩
 obtain ⟨W1, hW1⟩ : ∃ W1, W1 = (w.alloc (.deferred (some []))).alloc (.loop (rec .ready none)) := ⟨_, rfl⟩
 have hx1 : Ext w W1 := by rw [hW1]; exact ((Below.refl _ w).alloc (zNr _) _).alloc (by simp) _
 have hz1 : W1.heap.size = w.heap.size + 2 := by rw [hW1]; simp
 have hL1 : W1.heap[w.heap.size + 1]? = some (.loop (rec .ready none)) := by
  rw [hW1]; have := World.alloc_heap_new (w.alloc (.deferred (some []))) (.loop (rec .ready none)); rwa [World.size_alloc] at this
 have hD1 : W1.heap[w.heap.size]? = some (.deferred (some [])) := by
  rw [hW1]; exact (Below.heap_alloc _ _ _ (by simp)).trans (World.alloc_heap_new w _)
 let up : (Nat → Prop) → Nat → Prop := fun D i => D i ∨ i = w.heap.size ∨ i = w.heap.size + 1
 refine ⟨w.heap.size + 1, [{ target := .collected w.heap.size, args := #[] }], W1, { target := .fn (.func gf) lb, args := #[.func (.yield (w.heap.size + 1)) #[] #[]] }, W1, gf,
  #[.func (.yield (w.heap.size + 1)) #[] #[]] ++ lb, W1, ?_, ?_, (fun _ _ => trivial), ?_, (fun h => (by cases h)), ?_⟩
 · rw [hW1, hrec]; exact run_enterLoop_outer _ _ _ _ _
 · simp only [resolve, hg]
   simp [go_sem]
 · simp [invoke, go_sem, eg]
 · refine callsIn_wide.2 ((hseq (n - 1 - 1) (w.heap.size + 1)
     (fun D K k A => I (up D) (up K) k A ∧ (∀ i, D i → w.heap.size + 2 ≤ i) ∧ A.heap[w.heap.size + 1]? = some (.loop (rec .ready none)) ∧ A.heap[w.heap.size]? = some (.deferred (some [])))
     (fun D A => ∃ c, Ix (up D) c A ∧ (∀ i, D i → w.heap.size + 2 ≤ i) ∧ A.heap[w.heap.size + 1]? = some (.loop (rec .done (some c))) ∧ A.heap[w.heap.size]? = some (.deferred (some [])))
     W1 hx1 (fun D K k A h => hC _ _ k A h.1) ?_ ?_ ?_ ?_).mono ?_)
   · rintro D K k A D' K' A' ⟨hi, hd0, hl, hd⟩ hc hD' hK'
     have lt1 := (zAg.1 hl).1
     have lt2 := (zAg.1 hd).1
     refine ⟨hI _ _ k A _ _ A' hi (hc.mono fun i _ hb => .inl hb) (fun i h => ?_) (fun i h => ?_), fun i h => ?_, (hc.block _ lt1 (fun hb => by have := hd0 _ hb; omega)).trans hl, (hc.block _ lt2 (fun hb => by have := hd0 _ hb; omega)).trans hd⟩
     · rcases h with h | h
       · rcases hD' i h with h | h
         · exact .inl (.inl h)
         · exact .inr h
       · exact .inl (.inr h)
     · rcases h with h | h
       · rcases hK' i h with h | h
         · exact .inl (.inl h)
         · exact .inr h
       · exact .inl (.inr h)
     · rcases hD' i h with h | h
       · exact hd0 i h
       · omega
   · rintro D A A' ⟨c, hi, hd0, hl, hd⟩ hc
     have lt1 := (zAg.1 hl).1
     have lt2 := (zAg.1 hd).1
     exact ⟨c, hIx _ c A A' hi (hc.mono fun i _ hb => .inl hb), hd0, (hc.block _ lt1 (fun hb => by have := hd0 _ hb; omega)).trans hl, (hc.block _ lt2 (fun hb => by have := hd0 _ hb; omega)).trans hd⟩
   · intro A D K hx hD hK
     refine ⟨h0 A _ _ (hx1.trans hx) (fun i h => ?_) (fun i h => ?_), fun i h => by have := hD i h; omega, (hx.block _ (by omega)).trans hL1, (hx.block _ (by omega)).trans hD1⟩
     · rcases h with h | h | h
       · have := hD i h; omega
       · omega
       · omega
     · rcases h with h | h | h
       · have := hK i h; omega
       · omega
       · omega
   · rintro D K k x A hD hK ⟨hi, hd0, hl, hd⟩ hok
     have hy := run_yield (P := P) (args := encs x) hl (by rw [hrec]; exact hps x)
     rw [hrec] at hy
     refine ⟨fn, _, assign, body, hy, roundIn_of_wpIn hfn ?_⟩
     have hok' : Ok (up D) (up K) k x A := hOk _ _ _ _ k x A hok ⟨_, hd⟩ ⟨_, hl⟩ (fun i h => h) (fun i h => h) (fun i h => .inl h) (fun i h => .inl h)
     have hDu : ∀ i, up D i → w.heap.size ≤ i ∧ i < A.heap.size := fun i h => by
      rcases h with h | h | h
      · have := hD i h; omega
      · have := (zAg.1 hd).1; omega
      · have := (zAg.1 hl).1; omega
     have hKu : ∀ i, up K i → w.heap.size ≤ i ∧ i < A.heap.size := fun i h => by
      rcases h with h | h | h
      · have := hK i h; omega
      · have := (zAg.1 hd).1; omega
      · have := (zAg.1 hl).1; omega
     refine wpIn_mono (hround (w.heap.size + 1) (up D) (up K) k x A rfl (.inr (.inr rfl)) (.inr (.inr rfl)) (.inr (.inl rfl)) (.inr (.inl rfl)) hDu hKu hi hok') ?_
     intro e a₁ A1 hp
     cases e with
     | normal =>
      obtain ⟨hst, hb⟩ := hp
      have lt0 := (zAg.1 hl).1
      have lt00 := (zAg.1 hd).1
      have hl1 := (hst.stay (w.heap.size + 1) (.inr (.inr rfl)) lt0).trans hl
      have hd1 := (hst.stay w.heap.size (.inr (.inl rfl)) lt00).trans hd
      have lt1 := (zAg.1 hl1).1
      refine ⟨_, run_beginRound hl1 (by rw [hrec]), ?_⟩
      have hc2 := putObj_chg A1 (w.heap.size + 1) (.loop { rec .ready none with state := .busy })
      have hl2 : (A1.putObj (w.heap.size + 1) (.loop { rec .ready none with state := .busy })).heap[w.heap.size + 1]? = some (.loop { rec .ready none with state := .busy }) := World.putObj_heap_same lt1
      have hd2 := (hc2.block w.heap.size (by omega) (by omega)).trans hd1
      have fin : ∀ (jump : Option Code) (W3 : World), StepK (up K) (A1.putObj (w.heap.size + 1) (.loop { rec .ready none with state := .busy })) W3 →
          (Instr.endRound (w.heap.size + 1) jump).run P W3 = .ok (.bool jump.isNone) (W3.putObj (w.heap.size + 1) (.loop (rec (if jump.isNone then .ready else .done) jump))) ∧
          (W3.putObj (w.heap.size + 1) (.loop (rec (if jump.isNone then .ready else .done) jump))).heap[w.heap.size + 1]? = some (.loop (rec (if jump.isNone then .ready else .done) jump)) ∧
          (W3.putObj (w.heap.size + 1) (.loop (rec (if jump.isNone then .ready else .done) jump))).heap[w.heap.size]? = some (.deferred (some [])) ∧
          StepK K A (W3.putObj (w.heap.size + 1) (.loop (rec (if jump.isNone then .ready else .done) jump))) := fun jump W3 hs3 => by
       have hl3 := (hs3.stay _ (.inr (.inr rfl)) (zAg.1 hl2).1).trans hl2
       have hd3 := (hs3.stay _ (.inr (.inl rfl)) (zAg.1 hd2).1).trans hd2
       have lt3 := (zAg.1 hl3).1
       have hr := run_endRound (P := P) jump hl3
       rw [hrec] at hr ⊢
       refine ⟨hr, World.putObj_heap_same lt3, (World.putObj_heap_other (by omega)).trans hd3, ?_⟩
       have s1 : StepK K A A1 := hst.mono fun i h => .inl h
       have s2 : StepK K A1 (A1.putObj (w.heap.size + 1) (.loop { rec .ready none with state := .busy })) := ⟨fun i h1 h2 => World.putObj_heap_other (by have := hK i h1; omega), rfl, rfl, rfl, by simp⟩
       have s3 : StepK K (A1.putObj (w.heap.size + 1) (.loop { rec .ready none with state := .busy })) W3 := hs3.mono fun i h => .inl h
       rw [hrec] at s2 s3
       exact ((s1.trans s2).trans s3).trans ⟨fun i h1 h2 => World.putObj_heap_other (by have := hK i h1; omega), rfl, rfl, rfl, by simp⟩
      have hchg : ∀ (W3 : World) (o : Obj), Chg (up D) W3 (W3.putObj (w.heap.size + 1) o) := fun W3 o => (putObj_chg W3 _ o).mono fun i _ e => .inr (.inr e)
      refine wpIn_mono (hb _ hc2) ?_
      intro e a3 W3 hp
      cases e with
      | normal =>
       obtain ⟨hs3, hi3⟩ := hp
       obtain ⟨hr, hl4, hd4, hst4⟩ := fin none W3 hs3
       exact ⟨_, _, hr, hst4, .inl ⟨rfl, hI _ _ (k + 1) _ _ _ _ hi3 (hchg _ _) (fun i h => .inl h) (fun i h => .inl h), hd0, hl4, hd4⟩⟩
      | ret =>
       obtain ⟨hs3, hi3⟩ := hp
       obtain ⟨hr, hl4, hd4, hst4⟩ := fin (some .ret) W3 hs3
       exact ⟨_, _, hr, hst4, .inr ⟨rfl, .ret, hIx _ _ _ _ hi3 (hchg _ _), hd0, hl4, hd4⟩⟩
      | exit id =>
       obtain ⟨hs3, hi3⟩ := hp
       obtain ⟨hr, hl4, hd4, hst4⟩ := fin (some (.exit id)) W3 hs3
       exact ⟨_, _, hr, hst4, .inr ⟨rfl, .exit id, hIx _ _ _ _ hi3 (hchg _ _), hd0, hl4, hd4⟩⟩
      | goto t =>
       obtain ⟨hs3, hi3⟩ := hp
       obtain ⟨hr, hl4, hd4, hst4⟩ := fin (some (.goto t)) W3 hs3
       exact ⟨_, _, hr, hst4, .inr ⟨rfl, .goto t, hIx _ _ _ _ hi3 (hchg _ _), hd0, hl4, hd4⟩⟩
      | panic ch => exact hp.elim
      | outgrown => exact hp.elim
     | ret => exact hp.elim
     | exit id => exact hp.elim
     | goto t => exact hp.elim
     | panic ch => exact hp.elim
     | outgrown => exact hp.elim
   · rintro e W2 ⟨⟨v, rfl⟩, (⟨D, K, k, ⟨hi, hd0, hl, hd⟩, hdn⟩ | ⟨D, c, hi, hd0, hl, hd⟩)⟩
     · have hr := run_endLoop (P := P) hl (by rw [hrec]; simp)
       rw [hrec] at hr
       exact ⟨none, _, hr, hdone _ k _ (up D) (up K) rfl (.inr (.inl rfl)) (.inr (.inl rfl)) (hI _ _ k _ _ _ _ hi ((putObj_chg _ _ _).mono fun i _ e => .inr (.inr e)) (fun i h => .inl h) (fun i h => .inl h)) hdn ((World.putObj_heap_other (by omega)).trans hd)⟩
     · have hr := run_endLoop (P := P) hl (by rw [hrec]; simp)
       rw [hrec] at hr
       exact ⟨some c, _, hr, hstop (up D) _ c _ rfl (.inr (.inl rfl)) (hIx _ _ _ _ hi ((putObj_chg _ _ _).mono fun i _ e => .inr (.inr e))) ((World.putObj_heap_other (by omega)).trans hd)⟩
def markD (D : Nat) : Deferred := { target := .collected D, args := #[] }
theorem leaves_marks {F : Fence} {n : Nat} {P : Program} {fn : Func} {tmps : Array Value} {R : Ending → World → Prop} {u : FrameMode} (hu : u ≠ .run) : ∀ (Ds : List Nat) (W : World), Ds.Pairwise (· ≠ ·) → (∀ D ∈ Ds, W.heap[D]? = some (.deferred (some []))) →
    (∀ W', Chg (fun i => i ∈ Ds) W W' → LeavesIn F n P fn tmps R [] u W') → LeavesInM F n P fn tmps R (Ds.map markD) u W
 | [], W, _, _, h => h W (Chg.refl _ _)
 | D :: Ds, W, hp, hd, h => by
  refine ⟨hu, .inl ⟨_, _, rfl, run_takeDeferred (hd D (List.mem_cons_self ..)), ?_⟩⟩
  rw [List.pairwise_cons] at hp
  refine leaves_marks hu Ds _ hp.2 (fun E hE => ?_) (fun W' hc => h W' ?_)
  · rw [World.putObj_heap_other (hp.1 E hE).symm]
    exact hd E (List.mem_cons_of_mem _ hE)
  · exact ((putObj_chg W D _).mono fun i _ e => by rw [e]; exact List.mem_cons_self ..).trans (hc.mono fun i _ h => List.mem_cons_of_mem _ h)
end Go.Proofs.YtkdidghfcfcpfaaGreat
namespace Go.Proofs.YtkdidghfcfcpfaaGreat
open Go.ChangeShapes Go.WideShapes Go.ChangeAt Go.RowKit Go.Shelf
attribute [local go_sem] Oper.semAt_some
def FrmB (lo : Nat) (w A : World) : Prop := ∀ k, lo ≤ k → k < w.heap.size → A.heap[k]? = w.heap[k]?
def GoOk (B : Nat) (L : List Ent) (D _K : Nat → Prop) (k : Nat) (x : Ent × Hd) (A : World) : Prop :=
 L[k]? = some x.1 ∧ Mine B x A ∧ Free D (.slice x.2.kA x.1.key.length x.2.kc) ∧ Free D (.slice x.2.vA x.1.val.length x.2.vc)
def AtEnd (L : List Ent) (k : Nat) : Prop := k = L.length
def GoIter (gf : Nat) (lb : Array Value) (B : Nat) (L : List Ent) (C : World → Prop) (w : World) : Prop :=
 IterQ Tryz.prog gf lb rowV (GoOk B L) (AtEnd L) C w
set_option maxRecDepth 100000 in
set_option maxHeartbeats 8000000 in
theorem from_iterP {w : World} {lo bd c : Nat} {X : Option Addr} {S : List (Ent × Hd)} (hbd : Boxed w bd 28 (.slice X S.length c)) (h : Es w lo w.heap.size X S) (hl : S.length ≤ 1024) (hin : ∀ p ∈ S, InE p.1) :
    GoIter 82 #[.pointer (some ⟨bd, 0, none⟩)] w.heap.size (S.map Prod.fst) (FrmB lo w) w := by
 intro mm lab J Jx W hx hC hJ hJx h0 hY
 have HBD := zHd hbd
 have HE := zHd h
 have HL := zHd hl
 have HIN := zHd hin
 have HC := zHd hC
 have HJ := zHd hJ
 have HJ0 := zHd (h0 W (fun _ => False) (fun _ => False) (Ext.refl _) (fun _ h => h.elim) (fun _ h => h.elim))
 have HY := zHd hY
 have HXW := zHd hx
 have b0 : W.cell? ⟨bd, 0, none⟩ = _ := Boxed.cell (ext_heap hx hbd)
 clear hbd h hl hin hC hJ hJx h0 hY hx
 refine (callsIn_wide (n := 6)).1 ?_
 refine callsIn_of_wp Tryz.func82 rfl trivial ?_ rfl
 simp only [Tryz.ntmps82, List.size_toArray, List.length_cons, List.length_nil, Nat.reduceAdd, Nat.reduceSub, Array.replicate_succ, Array.replicate_zero, List.push_toArray, List.append_toArray, List.nil_append, List.cons_append]
 gi_wp2
 gi_loopw [7] (fun x wr => ∃ k : Nat, k ≤ S.length ∧ x = .int .i64 (k : Int) ∧ Hid (J (fun _ => False) (fun _ => False) k wr) ∧ Hid (W.heap.size ≤ wr.heap.size))
  (fun x _ => S.length - (intOf x).toNat)
 case atStart => exact ⟨0, Nat.zero_le _, rfl, HJ0, zNr _⟩
 case round =>
  obtain ⟨k, hk, rfl, HJK, HST⟩ := hrel
  by_cases hlt : k < S.length
  · have d : decide ((k : Int) < (S.length : Int)) = true := by rw [decide_eq_true_eq]; exact Int.ofNat_lt.2 hlt
    have dn : decide (k < S.length) = true := by rw [decide_eq_true_eq]; exact hlt
    have hfr := HC.out _ _ _ _ HJK.out
    have HEr : Hid (Es wr lo w.heap.size X S) := HE.out.keep fun p hlp hp => World.cell?_of_block (hfr p.block hlp hp)
    obtain ⟨p, hp⟩ : ∃ p, S[k]? = some p := ⟨_, List.getElem?_eq_getElem hlt⟩
    obtain ⟨b, o, rfl⟩ := HE.out.base (by omega)
    obtain ⟨c0, c1, c2, c3⟩ := HEr.out.get hp
    have n1 : (0 : Int) ≤ (k : Int) := Int.natCast_nonneg _
    have n2 : (k : Int) < (S.length : Int) := Int.ofNat_lt.2 hlt
    have HP := zHd hp
    have HLT := zHd hlt
    have HIP := zHd (HIN.out p (List.mem_of_getElem? hp))
    obtain ⟨w4, hw4⟩ : ∃ w4, w4 = wr.alloc (.cells #[.slice p.2.kA p.1.key.length p.2.kc, .int .i64 p.1.seq, .int .i64 p.1.kind, .slice p.2.vA p.1.val.length p.2.vc] 50) := ⟨_, rfl⟩
    have HX4 : Hid (Ext wr w4) := by rw [hw4]; exact ext_alloc _ _
    have HE4 : Hid (w4.heap[wr.heap.size]? = some (.cells #[.slice p.2.kA p.1.key.length p.2.kc, .int .i64 p.1.seq, .int .i64 p.1.kind, .slice p.2.vA p.1.val.length p.2.vc] 50 (0, 0))) := by rw [hw4]; exact heap_at _ _ rfl
    have hwz : w.heap.size ≤ wr.heap.size := zNt HXW.out.size HST.out
    have HCY := zHd (copy_any (w := w4) (lo := lo) (hi := w.heap.size) (e := p.1) (g := p.2) ((HEr.out.each p (List.mem_of_getElem? hp)).below HX4.out hwz) (zNt hwz HX4.out.size) (by have := HIP.out.s; omega) (by have := HIP.out.s; omega))
    have e0 := cell_of HE4.out (k := 0) rfl
    have e1 := cell_of HE4.out (k := 1) rfl
    have e2 := cell_of HE4.out (k := 2) rfl
    have e3 := cell_of HE4.out (k := 3) rfl
    unfold Ent.at_ at HCY
    clear hfr hlt hp hwz hk
    refine wpIn_wide.2 ?_
    go_upto_region 3 with (fail)
    rw [← hw4]
    clear hw4 c0 c1 c2 c3
    refine (wpIn_wide (n := 6)).1 ?_
    gi_wp2
    refine ⟨trivial, (callsIn_wide.2 HCY.out).mono ?_⟩
    rintro e A3 ⟨hx3, g3, rfl, ok, ov⟩
    have HX3 : Hid (Ext wr A3) := zEt HX4.out hx3
    have hj1 := HJ.out _ _ _ _ (fun _ => False) (fun _ => False) _ HJK.out (Chg.of_ext HX3.out) (fun _ h => h.elim) (fun _ h => h.elim)
    have hem := HEr.out.each p (List.mem_of_getElem? HP.out)
    have hz4 : w.heap.size ≤ w4.heap.size := zNt (zNt HXW.out.size HST.out) HX4.out.size
    obtain ⟨fn, tmps, assign, body, hy, hR⟩ := HY.out (fun _ => False) (fun _ => False) k (p.1, g3) A3 (fun _ h => h.elim) (fun _ h => h.elim) hj1 ⟨by rw [List.getElem?_map, HP.out]; rfl, ⟨ok.base hz4, ov.base hz4, ⟨hem.bk, hem.bv, hem.s1, hem.s2, hem.d1, hem.d2⟩⟩, fun _ _ h => h, fun _ _ h => h⟩
    dsimp only [rowV, Ent.at_] at hy
    unfold Ent.at_
    have HR := zHd (roundIn_any (m' := 5) hR)
    have hw1 := wrap_succ (n := k) (by have := HL.out; have := HLT.out; omega)
    have HW1 := zHd hw1
    clear hR hj1 hz4 hem hx3 ok ov e0 e1 e2 e3 hw1
    gi_wp2
    refine RoundIn.mono HR.out ?_
    rintro e W3 ⟨hst, (⟨rfl, hj⟩ | ⟨rfl, hjx⟩)⟩
    · have HST3 : Hid (W.heap.size ≤ W3.heap.size) := zNt HST.out (zNt HX3.out.size hst.size)
      have HJ3 := zHd hj
      clear hst hj hy
      gi_wp2
      go_wp2_with fail
      refine ⟨⟨k + 1, HLT.out, by rw [HW1.out], HJ3, HST3⟩, ?_⟩
      rw [HW1.out]
      have := HLT.out
      simp [intOf]; omega
    · have HX9 := zHd hjx
      clear hst hjx hy
      gi_wp2
      go_wp2_with fail
      refine bodyPost_ret (results_none rfl _ _ _) rfl ?_
      exact ⟨⟨_, rfl⟩, .inr ⟨_, HX9.out⟩⟩
  · have d : decide ((k : Int) < (S.length : Int)) = false := by rw [decide_eq_false_iff_not]; exact fun h => hlt (Int.ofNat_lt.1 h)
    have dn : decide (k < S.length) = false := by rw [decide_eq_false_iff_not]; exact hlt
    have HLT : Hid (k = S.length) := by unfold Hid; omega
    clear hlt hk
    gi_wp2
    exact ⟨rfl, _, results_none rfl _ _ _, ⟨⟨_, rfl⟩, .inl ⟨_, _, _, HJK.out, by unfold AtEnd; rw [List.length_map]; exact HLT.out⟩⟩⟩
end Go.Proofs.YtkdidghfcfcpfaaGreat
namespace Go.Proofs.YtkdidghfcfcpfaaGreat
open Go.ChangeShapes Go.WideShapes Go.ChangeAt Go.RowKit Go.Shelf
def FromQ (w : World) (b key : List Nat) (x : Ending) (w' : World) : Prop :=
 Ext w w' ∧ ∃ (bd : Nat) (X : Option Addr) (c : Nat) (S : List (Ent × Hd)), x = .returned (.func (.func 82) #[] #[.pointer (some ⟨bd, 0, none⟩)]) ∧ w.heap.size ≤ bd ∧ Boxed w' bd 28 (.slice X S.length c) ∧ Es w' w.heap.size w'.heap.size X S ∧ S.length ≤ 1024 ∧ (∀ p ∈ S, InE p.1) ∧
  ((∃ L, IsB b L ∧ S.map Prod.fst = L.drop (cutOf (belowK key) L)) ∨ ((∀ L, ¬ IsB b L) ∧ S = []))
set_option maxRecDepth 100000 in
set_option maxHeartbeats 8000000 in
theorem bfromq_any {w : World} {lo hi lo2 hi2 kc : Nat} {v : Value} {kA : Option Addr} {b key : List Nat} (hv : Bs w lo hi v b) (hhi : hi ≤ w.heap.size) (hb : ∀ x ∈ b, x < 256) (hl : b.length ≤ 1000000000) (hk : Bs w lo2 hi2 (.slice kA key.length kc) key) (hhi2 : hi2 ≤ w.heap.size) (bk : ∀ x ∈ key, x < 256) :
    Calls Tryz.prog 43 #[v, .slice kA key.length kc] w (FromQ w b key) := by
 have HR := zHd (bread_any hv hhi hb hl)
 have HK := zHd hk
 have HH := zHd hhi2
 have HBK := zHd bk
 have hmf := mkf
 obtain ⟨A, c, rfl, _, _, _, _⟩ := hv
 clear hhi hb hl hk hhi2 bk
 go_enter Tryz.func43, Tryz.ntmps43
 go_wp2_with fail
 refine HR.out.mono ?_
 intro x w2 hra
 obtain ⟨hx2, R, X, cR, k, rfl, hgot, hrl, hri, hin, hor⟩ := hra.all
 obtain ⟨w3, hw3⟩ : ∃ w3, w3 = w2.alloc (.cells #[.slice X R.length cR] 28) := ⟨_, rfl⟩
 have HX3 : Hid (Ext w2 w3) := by rw [hw3]; exact ext_alloc _ _
 have HXW : Hid (Ext w w3) := zEt hx2 HX3.out
 have HB3 : Hid (Boxed w3 w2.heap.size 28 (.slice X R.length cR)) := by rw [hw3]; exact heap_at _ _ rfl
 have HG3 := zHd (hgot.below HX3.out)
 have HRL := zHd hrl
 have HRI := zHd hri
 have HIN := zHd hin
 have HOR := zHd hor
 have HLO : Hid (w.heap.size ≤ w2.heap.size) := hx2.size
 clear hx2 hgot hrl hri hin hor hra
 go_upto_region 2 with (fail)
 rw [← hw3]
 clear hw3
 have b0 := HB3.out.cell
 have HCAP := zHd HG3.out.capd
 have HFI : Hid (∀ u, Ext w3 u → Calls Tryz.prog 81 #[.slice X R.length cR, .agg #[.slice kA key.length kc, .int .i64 2147483647, .int .i64 0, .slice none 0 0]] u fun e w' => ∃ n : Nat, Cut (R.map Prod.fst) ⟨key, 2147483647, 0, []⟩ n ∧ e = .returned (.int .i64 (n : Int)) ∧ Ext u w') := fun u hu =>
  first_any (c := cR) (x := ⟨key, 2147483647, 0, []⟩) (g := ⟨kA, kc, none, 0⟩) (lo2 := 0) (hi2 := u.heap.size) (HG3.out.below hu).rs (zNr _) HRL.out HRI.out ⟨(HK.out.below (zEt HXW.out hu) HH.out).wide (Nat.zero_le _) (zNt HH.out (zEt HXW.out hu).size), Bs.nil _ _ _, HBK.out, by simp, (by show (-9223372036854775808 : Int) ≤ 2147483647; decide), (by show (2147483647 : Int) ≤ 9223372036854775807; decide), (by show (-9223372036854775808 : Int) ≤ 0; decide), (by show (0 : Int) ≤ 9223372036854775807; decide)⟩ (zNr _)
 refine flow_tail (by kernel_rfl) [Is (.slice X R.length cR), Is (.slice X R.length cR), Is (.slice kA key.length kc), Is (.agg #[.slice kA key.length kc, .int .i64 2147483647, .int .i64 0, .slice none 0 0]), CutV (R.map Prod.fst) key, CutS (R.map Prod.fst) key X R.length cR] 6 (by kernel_rfl) (by kernel_rfl) (by kernel_rfl) (by kernel_rfl) ?mono (fun f1 => ?obl) ?fin
 case mono =>
  simp only [List.forall_mem_cons, List.not_mem_nil, false_imp_iff, implies_true, and_true]
  exact ⟨.is _, .is _, .is _, .is _, CutV.mono _ _, CutS.mono _ _ _ _ _⟩
 case fin =>
  intro g1 u hu hg
  simp only [List.take_succ_cons, List.take_zero, List.drop_succ_cons, List.drop_zero, puts, Act.put, zq]
  obtain ⟨n, hc, hn⟩ := (show CutS (R.map Prod.fst) key X R.length cR (g1 5) u from hg 5 (by decide))
  rw [hn]
  have hxu := zEt (Ext.drew w3) hu
  have HXU : Hid (Ext w3 u) := hxu
  have HCU := zHd hc
  have hb : Boxed u w2.heap.size 28 (.slice X R.length cR) := ext_heap hxu HB3.out
  have HBU := zHd hb
  have q0 := hb.cell
  have q1 := hb.frozen
  obtain ⟨Y, hY⟩ : ∃ Y, Y = (if cR = n then X else X.map (·.add (n * 4))) := ⟨_, rfl⟩
  rw [← hY]
  have HY := zHd hY
  clear hc hn hxu hu hg hb b0 hY
  go_wp2_with fail
  go_ret
  have hle : n ≤ R.length := by have := HCU.out.le; rw [List.length_map] at this; exact this
  have hl : (R.drop n).length = R.length - n := List.length_drop ..
  have hcg : Chg (fun i => i = w2.heap.size) u (u.setCell ⟨w2.heap.size, 0, none⟩ (.slice Y (R.length - n) (cR - n))) := Chg.setCell _ _ _ rfl
  have hgot := (HG3.out.below HXU.out)
  refine ⟨Below.trans (zEt HXW.out HXU.out) (hcg.below (fun i e => by have := HLO.out; omega) (zEt HXW.out HXU.out).size), w2.heap.size, Y, cR - n, R.drop n, rfl, HLO.out, by rw [hl]; exact HBU.out.set _, ?_, by rw [hl]; have := HRL.out; omega, fun p hp => HIN.out p (List.mem_of_mem_drop hp), ?_⟩
  · have h2 := (hgot.keepS hcg (fun bb hbb e => blk_box HBU.out hgot bb hbb e)).rsB.drop hle HCAP.out.1
    rw [← HY.out] at h2
    exact h2
  · rcases HOR.out with h | ⟨h, rfl⟩
    · refine .inl ⟨_, h, ?_⟩
      have := bcut_is (fun e he => by obtain ⟨p, hp, rfl⟩ := List.mem_map.1 he; exact (HIN.out p hp).s.2.2.2.1) HCU.out
      rw [← this, List.map_drop]
    · exact .inr ⟨h, by simp⟩
 case obl =>
  refine ⟨fun u hu hd => ?_, fun u hu hd => ?_, fun u hu hd => ?_, fun u hu hd => ?_, fun u hu hd => ?_, fun u hu hd => ?_, trivial⟩
  all_goals try simp only [Act.put, zq]
  · have hu2 := zEt (Ext.drew w3) hu
    have q0 := ext_cell hu2 b0
    go_simp
    exact zEr
  · have hu2 := zEt (Ext.drew w3) hu
    have q0 := ext_cell hu2 b0
    go_simp
    exact zEr
  · go_simp
    exact zEr
  · have e2 : f1 2 = _ := hd 2 (by kernel_rfl)
    go_simp
    exact zEr
  · have e1 : f1 1 = _ := hd 1 (by kernel_rfl)
    have e3 : f1 3 = _ := hd 3 (by kernel_rfl)
    have hu2 := zEt (Ext.drew w3) hu
    go_simp
    refine (HFI.out _ hu2).mono ?_
    rintro y w9 ⟨n, hc, rfl, hx9⟩
    exact ⟨_, rfl, hx9, n, hc, rfl⟩
  · have e0 : f1 0 = _ := hd 0 (by kernel_rfl)
    obtain ⟨n, hc, hn⟩ := (show CutV (R.map Prod.fst) key (f1 4) u from hd 4 (by kernel_rfl))
    have HN := zHd hc
    have hle : n ≤ R.length := by have := hc.le; rw [List.length_map] at this; exact this
    have hsl := eslice_from X R.length cR n hle HCAP.out.1
    rw [hn]
    clear hc hn
    go_simp
    exact ⟨Ext.refl _, n, HN.out, rfl⟩
theorem cut_one {L : List Ent} {x : Ent} {n m : Nat} (h : Cut L x n) (k : Cut L x m) : n = m := by
 have side : ∀ {n m : Nat}, Cut L x n → Cut L x m → n < m → False := fun {n m} h k hl => by
  have hk := k.le
  have hn : L[n]? = some L[n] := List.getElem?_eq_getElem (by omega)
  have h1 := h.hi n _ (zNr _) hn
  have h2 := k.lo n _ hl hn
  omega
 rcases Nat.lt_trichotomy n m with h1 | h1 | h1
 · exact (side h k h1).elim
 · exact h1
 · exact (side k h h1).elim
theorem prow_drop (L : List (Pl × PHd)) (k : Nat) (hk : k ≤ L.length) : prow (L.drop k) = (prow L).drop (k * 6) := by
 have h := prow_append (L.take k) (L.drop k)
 rw [List.take_append_drop] at h
 have hl : (prow (L.take k)).length = k * 6 := by rw [prow_length, List.length_take, Nat.min_eq_left hk]
 rw [h, ← hl, List.drop_left]
theorem Ps.drop {w : World} {lo hi c : Nat} {A : Option Addr} {L : List (Pl × PHd)} (h : Ps w lo hi A L) {k : Nat} (hk : k ≤ L.length) (hc : L.length ≤ c) : Ps w lo hi (if c = k then A else A.map (·.add (k * 6))) (L.drop k) := by
 refine ⟨?_, fun p hp => h.each p (List.mem_of_mem_drop hp)⟩
 rw [prow_drop L k hk]
 have h2 := Sl.drop (k := k * 6) (cap := c * 6) h.outer (by rw [prow_length]; omega) (by rw [prow_length]; omega)
 by_cases e : c = k
 · rw [if_pos e]; rw [if_pos (by omega)] at h2; exact h2
 · rw [if_neg e]; rw [if_neg (by omega)] at h2; exact h2
theorem psize (w : World) : Sem.run Tryz.prog (sizeOf (Tryz.prog.elem 83)) w = .ok 6 w := by kernel_rfl
theorem pslice_from (A : Option Addr) (n c k : Nat) (hkn : k ≤ n) (_hc : n ≤ c) (w : World) :
    (Instr.slice 83 (.slice A n c) (some (.int .i64 (k : Int))) none none).run Tryz.prog w = .ok (.slice (if c = k then A else A.map (·.add (k * 6))) (n - k) (c - k)) w := by
 have he : Tryz.prog.underlying 83 = some (.slice (Tryz.prog.elem 83)) := by kernel_rfl
 rw [run_slice_l w 83 A n c he .i64 (k : Int) (by omega) (by omega), psize w]
 simp [Result.andThen, sliced]
def BlkV (q : List Ent) (v : Value) (w : World) : Prop := ∃ A c, v = .slice A (wr q).length c ∧ Bs w 0 w.heap.size (.slice A (wr q).length c) (wr q)
theorem BlkV.mono (q : List Ent) : Mono (BlkV q) := fun _ _ _ ⟨A, c, e, hb⟩ hx => ⟨A, c, e, bs_next hb hx⟩
def FromV (lo : Nat) (fr : List Nat) (q : List Ent) (v : Value) (w : World) : Prop :=
 ∃ (bd : Nat) (X : Option Addr) (c : Nat) (S : List (Ent × Hd)), v = .func (.func 82) #[] #[.pointer (some ⟨bd, 0, none⟩)] ∧ lo ≤ bd ∧ Boxed w bd 28 (.slice X S.length c) ∧ Es w lo w.heap.size X S ∧ S.length ≤ 1024 ∧ (∀ p ∈ S, InE p.1) ∧ S.map Prod.fst = q.drop (cutOf (belowK fr) q)
theorem FromV.mono (lo : Nat) (fr : List Nat) (q : List Ent) : Mono (FromV lo fr q) := fun _ _ _ ⟨bd, X, c, S, e, hlo, hb, he, hl, hi, hm⟩ hx => ⟨bd, X, c, S, e, hlo, ext_heap hx hb, (he.below hx (zNr _)).wide (zNr _) hx.size, hl, hi, hm⟩
theorem TV.block {w : World} {g : Nat} {C : List (List Ent)} {L : List Ent} {fr tt : List Nat} {en : Bool} (h : TV w g C L fr tt en) {k : Nat} {q : List Ent} (hq : C[k]? = some q) : MayB q ∧ (∀ x ∈ wr q, x < 256) ∧ (wr q).length ≤ 1000000000 ∧ Rise q := by
 have hr : Rise C.flatten := h.flat ▸ h.may.2.2.1
 have hm := pieces_mayB hr (fun e he => h.may.2.2.2 e (h.flat ▸ he)) h.cuts q (List.mem_of_getElem? hq)
 refine ⟨hm, wr_lt hm (fun e he => h.good e (by rw [← h.flat]; exact List.mem_flatten.2 ⟨q, List.mem_of_getElem? hq, he⟩)), ?_, block_rise hr hq⟩
 have h1 := (few h.may h.cuts h.flat).b
 have h2 := offB_succ hq
 have h3 := blks_take_le C (k + 1)
 rw [h2, List.length_append] at h3
 omega
theorem tfrom_block {w : World} {fr : List Nat} {q : List Ent} {A kA : Option Addr} {c kc lo lo2 hi2 : Nat} (hm : MayB q) (hb : Bs w 0 w.heap.size (.slice A (wr q).length c) (wr q)) (hl : ∀ x ∈ wr q, x < 256) (hs : (wr q).length ≤ 1000000000) (hk : Bs w lo2 hi2 (.slice kA fr.length kc) fr) (hhi2 : hi2 ≤ w.heap.size) (bk : ∀ x ∈ fr, x < 256) (hlo : lo ≤ w.heap.size) :
    Calls Tryz.prog 43 #[.slice A (wr q).length c, .slice kA fr.length kc] w fun x w' => ∃ v, x = .returned v ∧ Ext w w' ∧ FromV lo fr q v w' := by
 refine (bfromq_any hb (zNr _) hl hs hk hhi2 bk).mono ?_
 rintro x w' ⟨hx, bd, X, c, S, rfl, hbl, hbx, hes, hsl, hin, hor⟩
 refine ⟨_, rfl, hx, bd, X, c, S, rfl, zNt hlo hbl, hbx, hes.wide hlo (zNr _), hsl, hin, ?_⟩
 rcases hor with ⟨L', h1, h2⟩ | ⟨h1, _⟩
 · rw [h2, h1.unique ⟨hm, rfl⟩]
 · exact absurd ⟨hm, rfl⟩ (h1 q)
end Go.Proofs.YtkdidghfcfcpfaaGreat
