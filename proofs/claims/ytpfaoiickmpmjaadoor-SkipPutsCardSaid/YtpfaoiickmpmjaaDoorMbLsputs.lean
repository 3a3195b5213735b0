/- Lsputs Psputs, joined. -/
import Derived.Test.YtpfaoiickmpmjaaDoorMb10
import Derived.Test.YtpfaoiickmpmjaaDoorCards
import Derived.Test.YtpfaoiickmpmjaaDoorTie
import Derived.WalkKit
import Derived.ProofKit
import Derived.OpenShut
import Derived.Deep.DeepHandedRow
import Derived.Lib.LaidTab

/- SkipPuts: the walk. -/
namespace Go.Proofs.YtpfaoiickmpmjaaDoor.skipPuts
open Go.ChangeShapes Go.WideShapes Go.ChangeAt Go.RowKit Go.Shelf

set_option maxRecDepth 100000 in
set_option maxHeartbeats 8000000 in
theorem walk (W : World) (hT : Tab W) (A : Option Addr) (c : Nat) (L : List (Ent × Hd)) (_hlc : L.length ≤ c) (_hc : c ≤ maxLen) (hE : Es W 0 W.heap.size A L) (hln : ∀ p ∈ L, p.1.key.length ≤ 140737488351232 ∧ p.1.val.length ≤ 140737488351232) (hn : L.length ≤ 2199023255552)
    (a : Int) (_ha : (Lit.int .i64 a).wf = true) :
    Calls Tryd.prog 4 #[.slice A L.length c, .int .i64 a] W fun e w' => e = .returned (.bool true) ∧ Below W.heap.size W w' := by
  have HKN : Hid (∀ u, Ext W u → Calls Tryd.prog 10 #[] u fun e w' => e = .returned (.bool true) ∧ Below u.heap.size u w') := fun u hu => known_any (hT.ext hu)
  have HFEW := Lib.hid (few_any (c := c) hE (Nat.le_refl _) (by omega) hln)
  have HFILL : Hid (∀ u, Ext W u → FewE L → Calls Tryd.prog 14 #[.slice A L.length c] u (FillAns u (L.map Prod.fst))) := fun u hu hf => fill_any (hE.below hu (Nat.le_refl _)) hu.size (hT.ext hu) hf
  clear hE hln hn hT _hlc _hc _ha
  go_enter Tryd.func4, Tryd.ntmps4
  go_wp2_with fail
  refine Calls.mono HFEW.out ?_
  rintro e w1 ⟨z, hz, rfl, hx1⟩
  have HX1 : Hid (Ext W w1) := hx1
  have HZ := Lib.hid hz
  clear hz hx1 HFEW
  cases z with
  | false =>
    go_wp2_with fail
    refine Calls.mono (HKN.out w1 HX1.out) ?_
    rintro e w2 ⟨rfl, hx⟩
    have HX2 : Hid (Ext W w2) := Ext.trans HX1.out hx
    clear hx
    go_wp2_with fail
    go_ret
    exact ⟨rfl, HX2.out⟩
  | true =>
    go_wp2_with fail
    refine Calls.mono (HFILL.out w1 HX1.out (HZ.out (by trivial))) ?_
    rintro e w2 ⟨lb, hb, T, R, X, d, rfl, hs, hsame, hfill, hgot, hx2⟩
    have HX2 : Hid (Ext W w2) := Ext.trans HX1.out hx2
    have HRL : Hid (R.length ≤ 1000000) := by
      have h1 := congrArg List.length hfill
      have h2 := fillE_len (L.map Prod.fst)
      have h3 := (HZ.out (by trivial)).1
      simp only [List.length_map] at h1 h2
      unfold Hid; omega
    have HTR : Hid (T.length = R.length) := by have h := congrArg List.length hsame; simpa [Hid] using h
    have HAM : Hid (AscM (R.map Prod.fst)) := by unfold Hid; rw [hfill]; exact fillE_asc _
    have HSM := Lib.hid hsame
    have HS := Lib.hid hs
    have HES : Hid (Es w2 0 w2.heap.size X R) := hgot.rs
    have HLEN := Lib.hid (slen_any hs)
    rw [HTR.out] at HLEN
    have HBY := Lib.hid (sbytes_any hs)
    rw [hsame] at HBY
    have HRS := Lib.hid (rsum_any (c := d) HES.out (Nat.le_refl _) HRL.out HAM.out.may)
    obtain ⟨n, hn⟩ : ∃ n, n = bytesE (R.map Prod.fst) := ⟨_, rfl⟩
    rw [← hn] at HBY HRS
    have q1 : ((R.length : Int) == (R.length : Int)) = true := by simp
    have q2 : ((n : Int) == (n : Int)) = true := by simp
    have HGO : Hid (∀ (u : World) (m : Int), Ext w2 u → Calls Tryd.prog 19 #[.pointer (some ⟨lb, 0, none⟩), .slice none 0 0] u fun e w' => ∃ bd, e = .returned (.func (.func 61) #[] #[.pointer (some ⟨bd, 0, none⟩)]) ∧ Ext u w' ∧
        Calls Tryd.prog 18 #[.func (.func 61) #[] #[.pointer (some ⟨bd, 0, none⟩)], .slice X R.length d, .int .i64 m] w' fun e w'' => e = .returned (.bool true) ∧ Ext w' w'') := fun u m hu => by
      refine (sfrom_any (HS.out.ext hu) (Bs.nil u 0 u.heap.size) (Nat.le_refl _) (by simp) (by simp)).mono ?_
      rintro e w' ⟨hx, bd, rfl, hit⟩
      refine ⟨bd, rfl, hx, ?_⟩
      exact goes_any hit (fun A hA => hA) (rowOf_ins HS.out.ins _ _) (HES.out.below (Ext.trans hu hx) (Nat.le_refl _)) (Ext.trans hu hx).size (by have := HRL.out; omega) (by rw [all_from HS.out, HSM.out])
    clear hs hsame hfill hgot hx2 hn HFILL
    go_wp2_with fail
    refine Calls.mono HLEN.out ?_
    rintro e w3 ⟨rfl, rfl⟩
    clear HLEN
    go_wp2_with fail
    refine Calls.mono HBY.out ?_
    rintro e w3 ⟨rfl, rfl⟩
    clear HBY
    go_wp2_with fail
    refine Calls.mono HRS.out ?_
    rintro e w3 ⟨rfl, hx3⟩
    have HX3 : Hid (Ext w2 w3) := hx3
    clear HRS hx3
    go_wp2_with fail
    refine Calls.mono (HGO.out w3 a HX3.out) ?_
    rintro e w4 ⟨bd, rfl, hx4, hg⟩
    have HX4 : Hid (Ext w2 w4) := Ext.trans HX3.out hx4
    have HG := Lib.hid hg
    clear hx4 hg
    go_wp2_with fail
    refine Calls.mono HG.out ?_
    rintro e w5 ⟨rfl, hx5⟩
    have HX5 : Hid (Ext w2 w5) := Ext.trans HX4.out hx5
    clear hx5 HG
    go_wp2_with fail
    refine Calls.mono (HGO.out w5 0 HX5.out) ?_
    rintro e w6 ⟨bd2, rfl, hx6, hg⟩
    have HX6 : Hid (Ext w2 w6) := Ext.trans HX5.out hx6
    have HG := Lib.hid hg
    clear hx6 hg
    go_wp2_with fail
    refine Calls.mono HG.out ?_
    rintro e w7 ⟨rfl, hx7⟩
    have HX7 : Hid (Ext W w7) := Ext.trans HX2.out (Ext.trans HX6.out hx7)
    clear hx7 HG
    go_wp2_with fail
    refine Calls.mono (HKN.out w7 HX7.out) ?_
    rintro e w8 ⟨rfl, hx8⟩
    have HX8 : Hid (Ext W w8) := Ext.trans HX7.out hx8
    clear hx8
    go_wp2_with fail
    go_ret
    exact ⟨rfl, HX8.out⟩
end Go.Proofs.YtpfaoiickmpmjaaDoor.skipPuts

/- SkipPuts: from the walk to the card. For every input the law answers true and leaves its arguments as they were; of the table of trailing noughts it is asked that it holds what the program's text lays. -/
namespace Go.Proofs.YtpfaoiickmpmjaaDoor.skipPuts
open Go.ChangeShapes Go.WideShapes Go.ChangeAt Go.RowKit
set_option linter.unusedVariables false

theorem gTab : Tryd.prog.globalNamed "math/bits.deBruijn32tab" = some 0 := by kernel_rfl
theorem gTabType : (Tryd.prog.globals[0]?).map (·.type) = some 84 := by kernel_rfl
theorem cellsA : Tryd.prog.cellsOf 84 = 32 := by kernel_rfl
theorem cellsE : Tryd.prog.cellsOf 5 = 1 := by kernel_rfl
/-- What the row's list gives. -/
theorem table {W : World} (h : laidMetH Tryd.prog Rows.skipPutsRow.laid W) : Tab W := fun j hj => by
  have h1 : Lib.TabIs Tryd.prog W "math/bits.deBruijn32tab" .u8 (Lib.deBruijn32tab.map fun n : Nat => (n : Int)) := Lib.tabIs_of_head (rest := []) gTab gTabType Tryd.underlying84 Tryd.underlying5 cellsE cellsA h
  have h2 := h1.cell gTab j (by rw [List.length_map]; exact hj)
  rw [h2]
  simp [List.getD, hj]

theorem contract (H : Type) (enc : TypeId × Value → H) (W : World) (base : Nat) (args : Array Value) (ds gs : List (DataW H)) (before : List MemPlace)
    (hval0 : ∀ (j : Nat) t v, Tryd.f4.params[j]? = some t → args[j]? = some v → Value.okWide Tryd.prog W .any base t v)
    (hW : DataW.Whole enc Tryd.prog Tryd.f4.params.toList Rows.skipPutsSpec.vars false W args.toList ds gs before)
    (hsz0 : (DataW.weightsEach Tryd.prog (Tryd.f4.params.toList ++ (OpenSpec.ofChange Rows.skipPutsSpec).bare.plain.varTypes Tryd.prog) (ds ++ gs)).all (· ≤ reachBytes) = true) (hL : laidMetH Tryd.prog Rows.skipPutsRow.laid W) :
    Calls Tryd.prog 4 args W fun e W' => ∃ v, e = .returned v ∧ Rows.skipPutsSpec.post enc Tryd.prog Tryd.f4 false true false false W args v W' := by
  have hsz : (DataW.weightsEach Tryd.prog (Tryd.f4.params.toList ++ Rows.skipPutsSpec.plain.varTypes Tryd.prog) (ds ++ gs)).all (· ≤ reachBytes) = true := hsz0
  have hval : ∀ (j : Nat) t v, Tryd.f4.params[j]? = some t → args[j]? = some v → Value.okWide Tryd.prog W .any base t v := hval0
  have hT := table hL
  have hW' := hW
  obtain ⟨p, q, hA0, hV, rfl, hfz, hnd⟩ := hW
  have hA : DataW.TrodAll enc Tryd.prog W 0 (fun _ => true) true Tryd.f4.params.toList args.toList ds p := hA0
  rw [Tryd.params4] at hA hval hsz
  obtain ⟨v0, vs0, d0, ds0, p0, q0, hargs, rfl, rfl, h0, r0⟩ := trodAll_cons hA
  obtain ⟨v1, vs1, d1, ds1, p1, q1, rfl, rfl, rfl, h1, r1⟩ := trodAll_cons r0
  obtain ⟨rfl, rfl, rfl⟩ := trodAll_nil r1
  obtain rfl : args = #[v0, v1] := by cases args; simp_all
  obtain ⟨rfl, rfl⟩ := trodVars_none hV
  have k0 := h0
  have lt0 : ∀ x ∈ p0, x.block < W.heap.size := by obtain ⟨m, hm⟩ := k0; exact DataW.trod_lt m _ _ _ hm
  obtain ⟨A0, c0, L0, rfl, x0, y0, m0, z0, n0⟩ := open_entries (hval 0 26 v0 rfl rfl) h0 hsz (jj := 0) rfl rfl
  obtain ⟨a1, rfl, rfl, rfl, w1⟩ := open_int Tryd.underlying3 (hval 1 3 v1 rfl rfl) h1
  clear hA0 hval0 hsz0
  refine (walk W hT A0 c0 L0 x0 y0 m0 z0 n0 a1 w1).mono fun e W' ⟨he, bel⟩ => ?_
  subst he
  exact ⟨_, rfl, _, _, _, [], _, [], hW', trodAll_mk1 (shut_bool Tryd.underlying4 _), (trodAll_cons_mk (Below.trod laidOut (by kernel_rfl) (of_decide_eq_true (by kernel_rfl)) k0 bel lt0) (trodAll_cons_mk (shut_int Tryd.underlying3 w1) trodAll_mk0)), rfl, bel.frame _, fun h => by cases h⟩

/-- A world for the witness: the settled one, the table holding what its initialiser lays. -/
noncomputable def laidWorld (os : Os) : World :=
  { World.holding Tryd.prog os ⟨#[], #[], []⟩ with heap := (World.holding Tryd.prog os ⟨#[], #[], []⟩).heap.modify 0 fun
      | .cells _ t frozen => .cells #[.int .u8 0, .int .u8 1, .int .u8 28, .int .u8 2, .int .u8 29, .int .u8 14, .int .u8 24, .int .u8 3, .int .u8 30, .int .u8 22, .int .u8 20, .int .u8 15, .int .u8 25, .int .u8 17, .int .u8 4, .int .u8 8, .int .u8 31, .int .u8 27, .int .u8 13, .int .u8 23, .int .u8 21, .int .u8 19, .int .u8 16, .int .u8 7, .int .u8 26, .int .u8 12, .int .u8 18, .int .u8 6, .int .u8 11, .int .u8 5, .int .u8 10, .int .u8 9] t frozen
      | o => o }
theorem laid_met (os : Os) : laidMet Tryd.prog Rows.skipPutsRow.laid ((laidWorld os).forCall (fun _ _ => 0) ⟨#[], #[.slice none 0 0, .int .i64 0], []⟩).memory :=
  laidMet_of_run' 8 (by kernel_rfl) (by kernel_rfl)
theorem reads (os : Os) {H : Type} (enc : TypeId × Value → H) : ∃ places, DataW.whole enc Tryd.prog ((laidWorld os).forCall (fun _ _ => 0) ⟨#[], #[.slice none 0 0, .int .i64 0], []⟩).memory Tryd.f4.params.toList Rows.skipPutsSpec.vars false (#[.slice none 0 0, .int .i64 0] : Array Value).toList 8 = some ([.nil, .lit (.int .i64 0)], [], places) :=
  ⟨[], by kernel_rfl⟩

set_option maxRecDepth 100000 in
theorem lifted (os : Os) (started : os.Started) (H : Type) (enc : TypeId × Value → H) (F : Stop.Interp) :
    ReturnsInHanded {} Tryd.checked os 4 .any ((OpenSpec.ofChange Rows.skipPutsSpec).preRow enc Tryd.prog Tryd.f4 Rows.skipPutsRow.domain false Rows.skipPutsRow.laid) (((OpenSpec.ofChange Rows.skipPutsSpec).at F).post enc Tryd.prog Tryd.f4 false true false false) := by
  obtain ⟨places, hx⟩ := reads os enc
  refine returnsInHanded_of_row (C := Tryd.checked) (s := OpenSpec.ofChange Rows.skipPutsSpec) own started (by kernel_rfl) Tryd.func4
    (witness_row_at (enc := enc) (C := Tryd.checked) false (laidWorld os) #[.slice none 0 0, .int .i64 0] rfl (by kernel_rfl) (by kernel_rfl) (by kernel_rfl)
      (OpenSpec.preRow_of_cond 8 hx (by kernel_rfl) (fun k hk => by cases hk) (by kernel_rfl) (laid_met os))) ?_
  intro W base args ds gs before hval hW _ _ hsz hL _ _
  exact contract H enc W base args ds gs before hval hW hsz hL

theorem said : Rows.SkipPutsSaid :=
  OpenClaim.holds_of_cond 4 Tryd.f4 rfl rfl rfl rfl rfl rfl rfl ⟨rfl, rfl, rfl, rfl, rfl⟩ rfl rfl rfl rfl rfl (by kernel_rfl) Tryd.func4 (by kernel_rfl)
    (of_decide_eq_true (by kernel_rfl)) (by unfold Func.isWrapper; first | (rw [if_pos (by decide +kernel)]; kernel_rfl) | (rw [if_neg (by decide +kernel)]; exact ⟨rfl, rfl⟩))
    (fun os started H enc _ F => by rw [OpenClaim.pre_eq_preRow]; exact lifted os started H enc F)

theorem plain (f : FuncId) (fn : Func) (hf : Tryd.pinned.checked.prog.funcNamed "hectare/hectarelaw06.SkipPuts" = some f) (hfn : Tryd.pinned.checked.prog.funcs[f]? = some fn) :
    false = Tryd.pinned.checked.prog.looks [] ∧ ∀ (j : Nat) t, fn.params[j]? = some t → Tryd.pinned.checked.prog.wantsStandIn t = false := by
  obtain rfl : f = 4 := Option.some.inj ((show Tryd.prog.funcNamed "hectare/hectarelaw06.SkipPuts" = some 4 by kernel_rfl).symm.trans hf) |>.symm
  obtain rfl : fn = Tryd.f4 := (Option.some.inj (Tryd.func4.symm.trans hfn)).symm
  refine ⟨by kernel_rfl, fun j t ht => ?_⟩
  rw [Tryd.params4] at ht
  have hm : t ∈ [26, 3] := by have := Array.mem_of_getElem? ht; simp at this; simp; omega
  have hall : ([26, 3].all fun u => !Tryd.prog.wantsStandIn u) = true := by kernel_rfl
  exact (show Tryd.prog.wantsStandIn t = false by simpa using List.all_eq_true.1 hall t hm)

theorem proved : Rows.SkipPutsCardSaid :=
  Claim7.holds_tied_plain_at .later [] _ _ _ _ said (fun _ h => by cases h) (by kernel_rfl) (fun _ h => by cases h) skipPuts_row_tie rfl ⟨rfl, rfl⟩ (by kernel_rfl) rfl plain (by kernel_rfl)
end Go.Proofs.YtpfaoiickmpmjaaDoor.skipPuts
