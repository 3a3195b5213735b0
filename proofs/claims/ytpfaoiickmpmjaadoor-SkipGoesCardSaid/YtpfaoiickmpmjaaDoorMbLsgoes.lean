/- Lsgoes Psgoes, joined. -/
import Derived.Test.YtpfaoiickmpmjaaDoorMb10
import Derived.Test.YtpfaoiickmpmjaaDoorMb11
import Derived.Test.YtpfaoiickmpmjaaDoorCards
import Derived.Test.YtpfaoiickmpmjaaDoorTie
import Derived.WalkKit
import Derived.ProofKit
import Derived.OpenShut
import Derived.Deep.DeepHandedRow
import Derived.Lib.LaidTab

/- SkipGoes: the walk. -/
namespace Go.Proofs.YtpfaoiickmpmjaaDoor.skipGoes
open Go.ChangeShapes Go.WideShapes Go.ChangeAt Go.RowKit Go.Shelf

/-- What is gone over in a level, whichever. -/
def levT (n : Int) (T : List Tw) : List Tw := if 0 ≤ n ∧ n < 8 then rowOf T nobodyE n.toNat else []
theorem filter_tw (T : List Tw) (n : Int) (h : ∀ t ∈ T, t.h = hgt t.e.key t.e.seq) : (T.filter fun t => decide (n < (t.h : Int))).map Tw.e = (T.map Tw.e).filter (highE n) := by
  induction T with
  | nil => rfl
  | cons t l ih =>
    have h1 := h t (by simp)
    have h2 := ih fun u hu => h u (by simp [hu])
    rw [List.filter_cons, List.map_cons, List.filter_cons, ← h2]
    unfold highE
    rw [← h1]
    split <;> simp_all
theorem filter_en (R : List (Ent × Hd)) (n : Int) : (R.filter fun p => highE n p.1).map Prod.fst = (R.map Prod.fst).filter (highE n) := by
  induction R with
  | nil => rfl
  | cons p l ih =>
    rw [List.filter_cons, List.map_cons, List.filter_cons, ← ih]
    split <;> simp
theorem lev_fit {w : World} {D : Nat → Prop} {lb hb : Nat} {T : List Tw} {R : List (Ent × Hd)} (h : Sk w D lb hb T) (hs : T.map Tw.e = R.map Prod.fst) (n : Int) : (levT n T).map Tw.e = (levR n R).map Prod.fst := by
  unfold levT levR
  by_cases hn : n < 0
  · rw [if_neg (by omega), if_pos hn]; rfl
  · rw [if_neg hn, filter_en, ← hs, ← filter_tw T n h.hts]
    by_cases h8 : n < 8
    · rw [if_pos ⟨by omega, h8⟩]
      unfold rowOf
      rw [cut_is (q := nobodyE) (k := 0) (Nat.zero_le _) (fun j e hj => by omega) (fun e _ => rfl), List.drop_zero]
      congr 1
      apply List.filter_congr
      intro t _
      exact decide_eq_decide.2 (by omega)
    · have h0 : (T.filter fun t => decide (n < (t.h : Int))) = [] := List.filter_eq_nil_iff.2 fun t ht => by
        have h1 := h.hts t ht
        have h2 := (hgt_le t.e.key t.e.seq).2
        simp; omega
      rw [if_neg (by omega), h0]
theorem levT_ins {T : List Tw} (h : ∀ t ∈ T, InE t.e) (n : Int) : ∀ t ∈ levT n T, InE t.e := by
  unfold levT
  split
  · exact rowOf_ins h _ _
  · intro t ht; cases ht
theorem level_any {w : World} {D : Nat → Prop} {lb hb : Nat} {n : Int} {T : List Tw} (h : Sk w D lb hb T) :
    Calls Tryd.prog 26 #[.pointer (some ⟨lb, 0, none⟩), .int .i64 n] w (GoAns w (levT n T)) := by
  unfold levT
  by_cases hn : 0 ≤ n ∧ n < 8
  · rw [if_pos hn]
    have h1 := slevel_any (n := n.toNat) h (by omega)
    rwa [show ((n.toNat : Nat) : Int) = n by omega] at h1
  · rw [if_neg hn]
    exact slevel_far h (by omega)

set_option maxRecDepth 100000 in
set_option maxHeartbeats 8000000 in
theorem walk (W : World) (hT : Tab W) (A : Option Addr) (c : Nat) (L : List (Ent × Hd)) (_hlc : L.length ≤ c) (_hc : c ≤ maxLen) (hE : Es W 0 W.heap.size A L) (hln : ∀ p ∈ L, p.1.key.length ≤ 140737488351232 ∧ p.1.val.length ≤ 140737488351232) (hn : L.length ≤ 2199023255552)
    (v : Value) (key : List Nat) (bk : ∀ b ∈ key, b < 256) (hk : Bs W 0 W.heap.size v key) (n : Int) (_hn : (Lit.int .i64 n).wf = true) (a : Int) (_ha : (Lit.int .i64 a).wf = true) :
    Calls Tryd.prog 6 #[.slice A L.length c, v, .int .i64 n, .int .i64 a] W fun e w' => e = .returned (.bool true) ∧ Below W.heap.size W w' := by
  have HKN : Hid (∀ u, Ext W u → Calls Tryd.prog 10 #[] u fun e w' => e = .returned (.bool true) ∧ Below u.heap.size u w') := fun u hu => known_any (hT.ext hu)
  have HFEW := Lib.hid (few_any (c := c) hE (Nat.le_refl _) (by omega) hln)
  have HFILL : Hid (∀ u, Ext W u → FewE L → Calls Tryd.prog 14 #[.slice A L.length c] u (FillAns u (L.map Prod.fst))) := fun u hu hf => fill_any (hE.below hu (Nat.le_refl _)) hu.size (hT.ext hu) hf
  have HBK := Lib.hid bk
  have HK := Lib.hid hk
  obtain ⟨kA, kc, hv, hkc, hkm, hkr⟩ := hk
  subst hv
  have hkcI : (key.length : Int) ≤ 9223372036854775807 := by unfold maxLen at hkm; omega
  obtain ⟨y, hy⟩ : ∃ y, y = decide ((9000 : Int) < (key.length : Int)) := ⟨_, rfl⟩
  have HY := Lib.hid hy
  have q0 := hy.symm
  clear hE hln hn hT _hlc _hc _ha _hn bk hkc hkm hy hkr
  go_enter Tryd.func6, Tryd.ntmps6
  go_wp2_with fail
  refine Calls.mono HFEW.out ?_
  rintro e w1 ⟨z, hz, rfl, hx1⟩
  have HX1 : Hid (Ext W w1) := hx1
  have HZ := Lib.hid hz
  clear hz hx1 HFEW
  cases z with
  | false =>
    clear q0
    go_wp2_with fail
    refine Calls.mono (HKN.out w1 HX1.out) ?_
    rintro e w2 ⟨rfl, hx⟩
    have HX2 : Hid (Ext W w2) := Ext.trans HX1.out hx
    clear hx
    go_wp2_with fail
    go_ret
    exact ⟨rfl, HX2.out⟩
  | true =>
    cases y with
    | true =>
      go_wp2_with fail
      refine Calls.mono (HKN.out w1 HX1.out) ?_
      rintro e w2 ⟨rfl, hx⟩
      have HX2 : Hid (Ext W w2) := Ext.trans HX1.out hx
      clear hx
      go_wp2_with fail
      go_ret
      exact ⟨rfl, HX2.out⟩
    | false =>
      have HKL : Hid (key.length ≤ 9000) := by have := of_decide_eq_false q0; unfold Hid; omega
      go_wp2_with fail
      refine Calls.mono (HFILL.out w1 HX1.out (HZ.out (by trivial))) ?_
      rintro e w2 ⟨lb, hb, T, R, X, d, rfl, hs, hsame, hfill, hgot, hx2⟩
      have HX2 : Hid (Ext W w2) := Ext.trans HX1.out hx2
      have HRL : Hid (R.length ≤ 1000000) := by
        have h1 := congrArg List.length hfill
        have h2 := fillE_len (L.map Prod.fst)
        have h3 := (HZ.out (by trivial)).1
        simp only [List.length_map] at h1 h2
        unfold Hid; omega
      have HAM : Hid (AscM (R.map Prod.fst)) := by unfold Hid; rw [hfill]; exact fillE_asc _
      have HKLR : Hid (∀ p ∈ R, p.1.key.length ≤ 32) := fun p hp => by
        have h1 := mayN_iff.1 (HAM.out.may p.1 (List.mem_map_of_mem hp)); omega
      have HSM := Lib.hid hsame
      have HS := Lib.hid hs
      have HES : Hid (Es w2 0 w2.heap.size X R) := hgot.rs
      have HKW : Hid (∀ u, Ext w2 u → Bs u 0 W.heap.size (.slice kA key.length kc) key ∧ W.heap.size ≤ u.heap.size) := fun u hu => ⟨HK.out.below (Ext.trans HX2.out hu) (Nat.le_refl _), (Ext.trans HX2.out hu).size⟩
      have HRF := Lib.hid (rfrom_any (c := d) HES.out (Nat.le_refl _) hgot.capd.1 HRL.out (fun p hp => by have := HKLR.out p hp; omega) (HKW.out w2 (Ext.refl _)).1 (HKW.out w2 (Ext.refl _)).2 HBK.out (by have := HKL.out; omega))
      clear hs hsame hfill hgot hx2 HFILL q0
      go_wp2_with fail
      refine Calls.mono HRF.out ?_
      rintro e w3 ⟨X3, d3, rfl, he3, hx3⟩
      obtain ⟨F, hF⟩ : ∃ F, F = R.drop (cutOf (belowK key) (R.map Prod.fst)) := ⟨_, rfl⟩
      rw [← hF] at he3 ⊢
      have HF := Lib.hid hF
      have HX3 : Hid (Ext w2 w3) := hx3
      have HE3 : Hid (Es w3 0 w3.heap.size X3 F) := (he3.below hx3 (Nat.le_refl _)).wide (Nat.le_refl _) hx3.size
      have HRV := Lib.hid (rlevel_any (c := d) (n := n) ((HES.out.below hx3 (Nat.le_refl _)).wide (Nat.le_refl _) hx3.size) HRL.out (fun p hp => by have := HKLR.out p hp; omega))
      clear he3 hx3 hF HRF
      go_wp2_with fail
      refine Calls.mono HRV.out ?_
      rintro e w4 ⟨X4, d4, M, rfl, hM, he4, hx4⟩
      have HM := Lib.hid hM
      have HX4 : Hid (Ext w3 w4) := hx4
      have HX24 : Hid (Ext w2 w4) := Ext.trans HX3.out hx4
      have HE4 := Lib.hid he4
      have HFL : Hid (F.length ≤ 1000000000000 ∧ M.length ≤ 1000000000000) := by
        have h1 := HRL.out
        refine Lib.hid ⟨by rw [HF.out, List.length_drop]; omega, ?_⟩
        rw [HM.out]; unfold levR
        split
        · simp
        · exact Nat.le_trans (List.length_filter_le _ _) (by omega)
      have HGO : Hid (∀ (u : World) (m : Int), Ext w4 u → Calls Tryd.prog 19 #[.pointer (some ⟨lb, 0, none⟩), .slice kA key.length kc] u fun e w' => ∃ bd, e = .returned (.func (.func 61) #[] #[.pointer (some ⟨bd, 0, none⟩)]) ∧ Ext u w' ∧
          Calls Tryd.prog 18 #[.func (.func 61) #[] #[.pointer (some ⟨bd, 0, none⟩)], .slice X3 F.length d3, .int .i64 m] w' fun e w'' => e = .returned (.bool true) ∧ Ext w' w'') := fun u m hu => by
        have hu2 := Ext.trans HX24.out hu
        refine (sfrom_any (HS.out.ext hu2) (HKW.out u hu2).1 (HKW.out u hu2).2 HBK.out (by have := HKL.out; omega)).mono ?_
        rintro e w' ⟨hx, bd, rfl, hit⟩
        have hx3 := Ext.trans HX4.out (Ext.trans hu hx)
        refine ⟨bd, rfl, hx, ?_⟩
        exact goes_any hit (fun A hA => hA) (rowOf_ins HS.out.ins _ _) (HE3.out.below hx3 (Nat.le_refl _)) hx3.size HFL.out.1 (by rw [rowOf_map HS.out, HSM.out, HF.out, List.map_drop])
      have HLV : Hid (∀ (u : World) (m : Int), Ext w4 u → Calls Tryd.prog 26 #[.pointer (some ⟨lb, 0, none⟩), .int .i64 n] u fun e w' => ∃ bd, e = .returned (.func (.func 61) #[] #[.pointer (some ⟨bd, 0, none⟩)]) ∧ Ext u w' ∧
          Calls Tryd.prog 18 #[.func (.func 61) #[] #[.pointer (some ⟨bd, 0, none⟩)], .slice X4 M.length d4, .int .i64 m] w' fun e w'' => e = .returned (.bool true) ∧ Ext w' w'') := fun u m hu => by
        refine (level_any (n := n) (HS.out.ext (Ext.trans HX24.out hu))).mono ?_
        rintro e w' ⟨hx, bd, rfl, hit⟩
        have hx4 := Ext.trans hu hx
        refine ⟨bd, rfl, hx, ?_⟩
        exact goes_any hit (fun A hA => hA) (levT_ins HS.out.ins n) (HE4.out.below hx4 (Nat.le_refl _)) hx4.size HFL.out.2 (by rw [lev_fit HS.out HSM.out n, HM.out])
      have HXW4 : Hid (Ext W w4) := Ext.trans HX2.out HX24.out
      clear hM hx4 he4 HRV HES HKW HE3 HX3 HX4 HX24 HE4
      go_wp2_with fail
      refine Calls.mono (HGO.out w4 a (Ext.refl _)) ?_
      rintro e v1 ⟨bd1, rfl, hx, hg⟩
      have HV1 : Hid (Ext w4 v1) := Ext.trans (Ext.refl _) hx
      have HG1 := Lib.hid hg
      clear hx hg
      go_wp2_with fail
      refine Calls.mono HG1.out ?_
      rintro e v2 ⟨rfl, hx⟩
      have HV2 : Hid (Ext w4 v2) := Ext.trans HV1.out hx
      clear hx HG1
      go_wp2_with fail
      refine Calls.mono (HGO.out v2 0 HV2.out) ?_
      rintro e v3 ⟨bd3, rfl, hx, hg⟩
      have HV3 : Hid (Ext w4 v3) := Ext.trans HV2.out hx
      have HG3 := Lib.hid hg
      clear hx hg
      go_wp2_with fail
      refine Calls.mono HG3.out ?_
      rintro e v4 ⟨rfl, hx⟩
      have HV4 : Hid (Ext w4 v4) := Ext.trans HV3.out hx
      clear hx HG3
      go_wp2_with fail
      refine Calls.mono (HLV.out v4 a HV4.out) ?_
      rintro e v5 ⟨bd5, rfl, hx, hg⟩
      have HV5 : Hid (Ext w4 v5) := Ext.trans HV4.out hx
      have HG5 := Lib.hid hg
      clear hx hg
      go_wp2_with fail
      refine Calls.mono HG5.out ?_
      rintro e v6 ⟨rfl, hx⟩
      have HV6 : Hid (Ext w4 v6) := Ext.trans HV5.out hx
      clear hx HG5
      go_wp2_with fail
      refine Calls.mono (HLV.out v6 0 HV6.out) ?_
      rintro e v7 ⟨bd7, rfl, hx, hg⟩
      have HV7 : Hid (Ext w4 v7) := Ext.trans HV6.out hx
      have HG7 := Lib.hid hg
      clear hx hg
      go_wp2_with fail
      refine Calls.mono HG7.out ?_
      rintro e v8 ⟨rfl, hx⟩
      have HV8 : Hid (Ext w4 v8) := Ext.trans HV7.out hx
      clear hx HG7
      go_wp2_with fail
      refine Calls.mono (HKN.out v8 (Ext.trans HXW4.out HV8.out)) ?_
      rintro e w8 ⟨rfl, hx8⟩
      have HX8 : Hid (Ext W w8) := Ext.trans (Ext.trans HXW4.out HV8.out) hx8
      clear hx8
      go_wp2_with fail
      go_ret
      exact ⟨rfl, HX8.out⟩
end Go.Proofs.YtpfaoiickmpmjaaDoor.skipGoes

/- SkipGoes: from the walk to the card. For every input the law answers true and leaves its arguments as they were; of the table of trailing noughts it is asked that it holds what the program's text lays. -/
namespace Go.Proofs.YtpfaoiickmpmjaaDoor.skipGoes
open Go.ChangeShapes Go.WideShapes Go.ChangeAt Go.RowKit
set_option linter.unusedVariables false

theorem gTab : Tryd.prog.globalNamed "math/bits.deBruijn32tab" = some 0 := by kernel_rfl
theorem gTabType : (Tryd.prog.globals[0]?).map (·.type) = some 84 := by kernel_rfl
theorem cellsA : Tryd.prog.cellsOf 84 = 32 := by kernel_rfl
theorem cellsE : Tryd.prog.cellsOf 5 = 1 := by kernel_rfl
/-- What the row's list gives. -/
theorem table {W : World} (h : laidMetH Tryd.prog Rows.skipGoesRow.laid W) : Tab W := fun j hj => by
  have h1 : Lib.TabIs Tryd.prog W "math/bits.deBruijn32tab" .u8 (Lib.deBruijn32tab.map fun n : Nat => (n : Int)) := Lib.tabIs_of_head (rest := []) gTab gTabType Tryd.underlying84 Tryd.underlying5 cellsE cellsA h
  have h2 := h1.cell gTab j (by rw [List.length_map]; exact hj)
  rw [h2]
  simp [List.getD, hj]

theorem contract (H : Type) (enc : TypeId × Value → H) (W : World) (base : Nat) (args : Array Value) (ds gs : List (DataW H)) (before : List MemPlace)
    (hval0 : ∀ (j : Nat) t v, Tryd.f6.params[j]? = some t → args[j]? = some v → Value.okWide Tryd.prog W .any base t v)
    (hW : DataW.Whole enc Tryd.prog Tryd.f6.params.toList Rows.skipGoesSpec.vars false W args.toList ds gs before)
    (hsz0 : (DataW.weightsEach Tryd.prog (Tryd.f6.params.toList ++ (OpenSpec.ofChange Rows.skipGoesSpec).bare.plain.varTypes Tryd.prog) (ds ++ gs)).all (· ≤ reachBytes) = true) (hL : laidMetH Tryd.prog Rows.skipGoesRow.laid W) :
    Calls Tryd.prog 6 args W fun e W' => ∃ v, e = .returned v ∧ Rows.skipGoesSpec.post enc Tryd.prog Tryd.f6 false true false false W args v W' := by
  have hsz : (DataW.weightsEach Tryd.prog (Tryd.f6.params.toList ++ Rows.skipGoesSpec.plain.varTypes Tryd.prog) (ds ++ gs)).all (· ≤ reachBytes) = true := hsz0
  have hval : ∀ (j : Nat) t v, Tryd.f6.params[j]? = some t → args[j]? = some v → Value.okWide Tryd.prog W .any base t v := hval0
  have hT := table hL
  have hW' := hW
  obtain ⟨p, q, hA0, hV, rfl, hfz, hnd⟩ := hW
  have hA : DataW.TrodAll enc Tryd.prog W 0 (fun _ => true) true Tryd.f6.params.toList args.toList ds p := hA0
  rw [Tryd.params6] at hA hval hsz
  obtain ⟨v0, vs0, d0, ds0, p0, q0, hargs, rfl, rfl, h0, r0⟩ := trodAll_cons hA
  obtain ⟨v1, vs1, d1, ds1, p1, q1, rfl, rfl, rfl, h1, r1⟩ := trodAll_cons r0
  obtain ⟨v2, vs2, d2, ds2, p2, q2, rfl, rfl, rfl, h2, r2⟩ := trodAll_cons r1
  obtain ⟨v3, vs3, d3, ds3, p3, q3, rfl, rfl, rfl, h3, r3⟩ := trodAll_cons r2
  obtain ⟨rfl, rfl, rfl⟩ := trodAll_nil r3
  obtain rfl : args = #[v0, v1, v2, v3] := by cases args; simp_all
  obtain ⟨rfl, rfl⟩ := trodVars_none hV
  have k0 := h0
  have lt0 : ∀ x ∈ p0, x.block < W.heap.size := by obtain ⟨m, hm⟩ := k0; exact DataW.trod_lt m _ _ _ hm
  obtain ⟨A0, c0, L0, rfl, x0, y0, m0, z0, n0⟩ := open_entries (hval 0 26 v0 rfl rfl) h0 hsz (jj := 0) rfl rfl
  have k1 := h1
  have lt1 : ∀ x ∈ p1, x.block < W.heap.size := by obtain ⟨m, hm⟩ := k1; exact DataW.trod_lt m _ _ _ hm
  obtain ⟨l1, y1, b1⟩ := open_bytes (hval 1 22 v1 rfl rfl) h1
  obtain ⟨a2, rfl, rfl, rfl, w2⟩ := open_int Tryd.underlying3 (hval 2 3 v2 rfl rfl) h2
  obtain ⟨a3, rfl, rfl, rfl, w3⟩ := open_int Tryd.underlying3 (hval 3 3 v3 rfl rfl) h3
  clear hA0 hval0 hsz0
  refine (walk W hT A0 c0 L0 x0 y0 m0 z0 n0 v1 l1 y1 b1 a2 w2 a3 w3).mono fun e W' ⟨he, bel⟩ => ?_
  subst he
  exact ⟨_, rfl, _, _, _, [], _, [], hW', trodAll_mk1 (shut_bool Tryd.underlying4 _), (trodAll_cons_mk (Below.trod laidOut (by kernel_rfl) (of_decide_eq_true (by kernel_rfl)) k0 bel lt0) (trodAll_cons_mk (Below.trod laidOut (by kernel_rfl) (of_decide_eq_true (by kernel_rfl)) k1 bel lt1) (trodAll_cons_mk (shut_int Tryd.underlying3 w2) (trodAll_cons_mk (shut_int Tryd.underlying3 w3) trodAll_mk0)))), rfl, bel.frame _, fun h => by cases h⟩

/-- A world for the witness: the settled one, the table holding what its initialiser lays. -/
noncomputable def laidWorld (os : Os) : World :=
  { World.holding Tryd.prog os ⟨#[], #[], []⟩ with heap := (World.holding Tryd.prog os ⟨#[], #[], []⟩).heap.modify 0 fun
      | .cells _ t frozen => .cells #[.int .u8 0, .int .u8 1, .int .u8 28, .int .u8 2, .int .u8 29, .int .u8 14, .int .u8 24, .int .u8 3, .int .u8 30, .int .u8 22, .int .u8 20, .int .u8 15, .int .u8 25, .int .u8 17, .int .u8 4, .int .u8 8, .int .u8 31, .int .u8 27, .int .u8 13, .int .u8 23, .int .u8 21, .int .u8 19, .int .u8 16, .int .u8 7, .int .u8 26, .int .u8 12, .int .u8 18, .int .u8 6, .int .u8 11, .int .u8 5, .int .u8 10, .int .u8 9] t frozen
      | o => o }
theorem laid_met (os : Os) : laidMet Tryd.prog Rows.skipGoesRow.laid ((laidWorld os).forCall (fun _ _ => 0) ⟨#[], #[.slice none 0 0, .slice none 0 0, .int .i64 0, .int .i64 0], []⟩).memory :=
  laidMet_of_run' 8 (by kernel_rfl) (by kernel_rfl)
theorem reads (os : Os) {H : Type} (enc : TypeId × Value → H) : ∃ places, DataW.whole enc Tryd.prog ((laidWorld os).forCall (fun _ _ => 0) ⟨#[], #[.slice none 0 0, .slice none 0 0, .int .i64 0, .int .i64 0], []⟩).memory Tryd.f6.params.toList Rows.skipGoesSpec.vars false (#[.slice none 0 0, .slice none 0 0, .int .i64 0, .int .i64 0] : Array Value).toList 8 = some ([.nil, .nil, .lit (.int .i64 0), .lit (.int .i64 0)], [], places) :=
  ⟨[], by kernel_rfl⟩

set_option maxRecDepth 100000 in
theorem lifted (os : Os) (started : os.Started) (H : Type) (enc : TypeId × Value → H) (F : Stop.Interp) :
    ReturnsInHanded {} Tryd.checked os 6 .any ((OpenSpec.ofChange Rows.skipGoesSpec).preRow enc Tryd.prog Tryd.f6 Rows.skipGoesRow.domain false Rows.skipGoesRow.laid) (((OpenSpec.ofChange Rows.skipGoesSpec).at F).post enc Tryd.prog Tryd.f6 false true false false) := by
  obtain ⟨places, hx⟩ := reads os enc
  refine returnsInHanded_of_row (C := Tryd.checked) (s := OpenSpec.ofChange Rows.skipGoesSpec) own started (by kernel_rfl) Tryd.func6
    (witness_row_at (enc := enc) (C := Tryd.checked) false (laidWorld os) #[.slice none 0 0, .slice none 0 0, .int .i64 0, .int .i64 0] rfl (by kernel_rfl) (by kernel_rfl) (by kernel_rfl)
      (OpenSpec.preRow_of_cond 8 hx (by kernel_rfl) (fun k hk => by cases hk) (by kernel_rfl) (laid_met os))) ?_
  intro W base args ds gs before hval hW _ _ hsz hL _ _
  exact contract H enc W base args ds gs before hval hW hsz hL

theorem said : Rows.SkipGoesSaid :=
  OpenClaim.holds_of_cond 6 Tryd.f6 rfl rfl rfl rfl rfl rfl rfl ⟨rfl, rfl, rfl, rfl, rfl⟩ rfl rfl rfl rfl rfl (by kernel_rfl) Tryd.func6 (by kernel_rfl)
    (of_decide_eq_true (by kernel_rfl)) (by unfold Func.isWrapper; first | (rw [if_pos (by decide +kernel)]; kernel_rfl) | (rw [if_neg (by decide +kernel)]; exact ⟨rfl, rfl⟩))
    (fun os started H enc _ F => by rw [OpenClaim.pre_eq_preRow]; exact lifted os started H enc F)

theorem plain (f : FuncId) (fn : Func) (hf : Tryd.pinned.checked.prog.funcNamed "hectare/hectarelaw06.SkipGoes" = some f) (hfn : Tryd.pinned.checked.prog.funcs[f]? = some fn) :
    false = Tryd.pinned.checked.prog.looks [] ∧ ∀ (j : Nat) t, fn.params[j]? = some t → Tryd.pinned.checked.prog.wantsStandIn t = false := by
  obtain rfl : f = 6 := Option.some.inj ((show Tryd.prog.funcNamed "hectare/hectarelaw06.SkipGoes" = some 6 by kernel_rfl).symm.trans hf) |>.symm
  obtain rfl : fn = Tryd.f6 := (Option.some.inj (Tryd.func6.symm.trans hfn)).symm
  refine ⟨by kernel_rfl, fun j t ht => ?_⟩
  rw [Tryd.params6] at ht
  have hm : t ∈ [26, 22, 3] := by have := Array.mem_of_getElem? ht; simp at this; simp; omega
  have hall : ([26, 22, 3].all fun u => !Tryd.prog.wantsStandIn u) = true := by kernel_rfl
  exact (show Tryd.prog.wantsStandIn t = false by simpa using List.all_eq_true.1 hall t hm)

theorem proved : Rows.SkipGoesCardSaid :=
  Claim7.holds_tied_plain_at .later [] _ _ _ _ said (fun _ h => by cases h) (by kernel_rfl) (fun _ h => by cases h) skipGoes_row_tie rfl ⟨rfl, rfl⟩ (by kernel_rfl) rfl plain (by kernel_rfl)
end Go.Proofs.YtpfaoiickmpmjaaDoor.skipGoes
