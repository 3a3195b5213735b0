/- MergeKeeps: from the walk to the statement. For every input the law answers true and leaves its arguments as they were. -/
import Derived.Test.YtlnihaeeoolkhaaMa9

/- MergeKeeps: what of an order is needed by who reads at a number, or above, is what the document says. -/
namespace Go.Proofs.Ytlnihaeeoolkhaa
open Go.ChangeShapes Go.WideShapes Go.ChangeAt Go.RowKit

/-- The law's first. -/
theorem first11l_any {w : World} {A : Option Addr} {c : Nat} {L : List (Ent × Hd)} (_h : Es w 0 w.heap.size A L) (hlc : L.length ≤ c) (hl : L.length ≤ 1000000) (most : Int) (hm : most ≤ 9223372036854775807) :
    Calls Try.prog 14 #[.slice A L.length c, .int .i64 most] w fun x w' => ∃ n, x = .returned (.slice A n c) ∧ n ≤ L.length ∧ (L.take n).map Prod.fst = takeM most (L.map Prod.fst) ∧ w' = w := by
  have hlI : (L.length : Int) ≤ 1000000 := by omega
  by_cases h0 : 0 < most
  · obtain ⟨m, rfl⟩ : ∃ m : Nat, most = (m : Int) := ⟨most.toNat, by omega⟩
    have d0 : decide ((0 : Int) < (m : Int)) = true := decide_eq_true h0
    have d0n : decide (0 < m) = true := decide_eq_true (by omega)
    by_cases h1 : m < L.length
    · have d1 : decide ((m : Int) < (L.length : Int)) = true := by simp; omega
      have d1n : decide (m < L.length) = true := by simp; omega
      have n1 : (m : Int) ≤ (c : Int) := by omega
      have n2 : (0 : Int) ≤ (m : Int) := by omega
      have HF : Hid ((L.take m).map Prod.fst = takeM (m : Int) (L.map Prod.fst)) := by
        unfold takeM
        rw [if_pos h0, List.map_take]; rfl
      have HM1 := Lib.hid h1
      clear h0 h1 hlc
      go_enter Try.func14, Try.ntmps14
      go_wp2_with fail
      go_ret
      exact ⟨m, rfl, Nat.le_of_lt HM1.out, HF.out, rfl⟩
    · have d1 : decide ((m : Int) < (L.length : Int)) = false := by simp; omega
      have d1n : decide (m < L.length) = false := by simp; omega
      have HF : Hid ((L.take L.length).map Prod.fst = takeM (m : Int) (L.map Prod.fst)) := by
        unfold takeM
        rw [if_pos h0, List.take_length, List.take_of_length_le (by rw [List.length_map]; omega)]
        exact rfl
      clear h0 h1 hlc
      go_enter Try.func14, Try.ntmps14
      go_wp2_with fail
      go_ret
      exact ⟨L.length, rfl, Nat.le_refl _, HF.out, rfl⟩
  · have d0 : decide ((0 : Int) < most) = false := decide_eq_false h0
    have HF : Hid ((L.take L.length).map Prod.fst = takeM most (L.map Prod.fst)) := by
      unfold takeM
      rw [if_neg h0, List.take_length]
      exact rfl
    clear h0 hlc hm
    go_enter Try.func14, Try.ntmps14
    go_wp2_with fail
    go_ret
    exact ⟨L.length, rfl, Nat.le_refl _, HF.out, rfl⟩

set_option maxRecDepth 100000 in
set_option maxHeartbeats 8000000 in
theorem keeps_walk (W : World) (A : Option Addr) (c : Nat) (L : List (Ent × Hd)) (hlc : L.length ≤ c) (_hc : c ≤ maxLen) (hE : Es W 0 W.heap.size A L) (hln : ∀ p ∈ L, p.1.key.length ≤ 140737488351232 ∧ p.1.val.length ≤ 140737488351232) (_hn : L.length ≤ 2199023255552) (s : Int) (_ws : (Lit.int .i64 s).wf = true) (bt : Bool) (lv : Int) (wl : (Lit.int .i64 lv).wf = true) :
    Calls Try.prog 3 #[.slice A L.length c, .int .i64 s, .bool bt, .int .i64 lv] W fun e w' => e = .returned (.bool true) ∧ Below W.heap.size W w' := by
  have HE := Lib.hid hE
  have HLN := Lib.hid hln
  have HLC := Lib.hid hlc
  by_cases hbig : 100 < L.length
  · have d : decide ((100 : Int) < (L.length : Int)) = true := by simp; omega
    have dn : decide (100 < L.length) = true := by simp; omega
    clear hE hln hlc hbig
    go_enter Try.func3, Try.ntmps3
    go_wp2_with fail
    refine (known11_any _).mono ?_
    rintro x w9 ⟨rfl, hx⟩
    have HX := Lib.hid hx
    clear hx
    go_wp2_with fail
    go_ret
    exact ⟨rfl, HX.out⟩
  have d : decide ((100 : Int) < (L.length : Int)) = false := by simp; omega
  have dn : decide (100 < L.length) = false := by simp; omega
  have HL100 : Hid (L.length ≤ 100) := by unfold Hid; omega
  have HLV : Hid (lv ≤ 9223372036854775807) := (i64_wf wl).2
  clear hE hln hlc hbig wl
  go_enter Try.func3, Try.ntmps3
  go_wp2_with fail
  refine (ris11_any (c := c) HE.out (Nat.le_refl _) (by have := HL100.out; omega) (fun p hp => (HLN.out p hp).1)).mono ?_
  rintro x w1 ⟨z, hz, rfl, hx⟩
  have HX1 := Lib.hid hx
  have HZ := Lib.hid hz
  clear hx hz
  cases z with
  | false =>
    go_wp2_with fail
    refine (known11_any _).mono ?_
    rintro x w9 ⟨rfl, hx⟩
    have HX9 := Lib.hid hx
    clear hx
    go_wp2_with fail
    go_ret
    exact ⟨rfl, HX1.out.trans HX9.out⟩
  | true =>
  have HRI : Hid (Rise (L.map Prod.fst)) := HZ.out.1 rfl
  go_wp2_with fail
  refine (keep11_any (c := c) (HE.out.below HX1.out (Nat.le_refl _)) HX1.out.size (by have := HL100.out; omega) s bt).mono ?_
  rintro x w2 hx
  obtain ⟨Y, cy, rfl, hcy, h1, h2⟩ := RowAns.es hx (fun p hp => em_next11 (HE.out.each p (pickE_mem hp)) HX1.out)
  have HM := Lib.hid h1
  have HX2 := Lib.hid h2
  obtain ⟨M, hM⟩ : ∃ M, M = pickE (keepF (L.map Prod.fst) s bt) L L.length := ⟨_, rfl⟩
  rw [← hM] at HM hcy ⊢
  have HEQ : Hid (M.map Prod.fst = wantL (keepB s bt) (seenN s) none (L.map Prod.fst)) := by rw [hM]; exact keep_all HRI.out
  have HML : Hid (M.length ≤ 1000000) := by
    have := pickE_le (keepF (L.map Prod.fst) s bt) L L.length
    rw [← hM] at this
    have := HL100.out
    unfold Hid; omega
  have HCY := Lib.hid hcy
  have HXX : Hid (Ext W w2) := HX1.out.trans HX2.out
  clear hx h1 h2 hM hcy
  go_wp2_with fail
  refine (of_goes (c := c) (es_next11 HE.out HXX.out) (by have := HL100.out; omega) HLN.out).mono ?_
  rintro x w3 ⟨b, rfl, hg, hx⟩
  have HX3 := Lib.hid hx
  have HG := Lib.hid hg
  clear hx hg
  go_wp2_with fail
  refine (keep_goes HG.out s bt).mono ?_
  rintro x w4 ⟨lb2, rfl, hg, hx⟩
  have HX4 := Lib.hid hx
  have HK := Lib.hid hg
  clear hx hg
  go_wp2_with fail
  refine (list_goes HK.out lv).mono ?_
  rintro x w5 hx
  obtain ⟨X5, c5, R5, rfl, h1, h2, h3⟩ := hx.es
  have HR5 := Lib.hid h2
  have HS5 := Lib.hid h1
  have HX5 := Lib.hid h3
  clear hx h1 h2 h3
  go_wp2_with fail
  refine (list_goes (HK.out.ext HX5.out) 0).mono ?_
  rintro x w6 hx
  obtain ⟨X6, c6, R6, rfl, h1, h2, h3⟩ := hx.es
  have HR6 : Hid (R6.map Prod.fst = M.map Prod.fst) := by rw [HEQ.out, h2]; rfl
  have HS6 := Lib.hid h1
  have HX6 := Lib.hid h3
  clear hx h1 h2 h3
  have HM6 := Lib.hid (es_next11 HM.out (((HX3.out.trans HX4.out).trans HX5.out).trans HX6.out))
  go_wp2_with fail
  refine (first11l_any HM6.out HCY.out HML.out lv HLV.out).mono ?_
  rintro x w7 ⟨n, rfl, hn, hf, rfl⟩
  have HF : Hid (R5.map Prod.fst = (M.take n).map Prod.fst) := by rw [HR5.out, hf, HEQ.out]; exact rfl
  have HN := Lib.hid hn
  have HR5L : Hid (R5.length ≤ 1000000000) := by
    have h9 := congrArg List.length HF.out
    rw [List.length_map, List.length_map, List.length_take] at h9
    have := HML.out; unfold Hid; omega
  have HR6L : Hid (R6.length ≤ 1000000000) := by
    have h9 := congrArg List.length HR6.out
    rw [List.length_map, List.length_map] at h9
    have := HML.out; unfold Hid; omega
  clear hf hn
  go_wp2_with fail
  refine (same11_yes (es_next11 HS5.out HX6.out) (HM6.out.take HN.out) rfl (by rw [List.length_take]; have := HN.out; omega) HF.out HR5L.out).mono ?_
  rintro x w8 ⟨rfl, hx⟩
  have HX8 := Lib.hid hx
  clear hx
  go_wp2_with fail
  refine (same11_yes (es_next11 HS6.out HX8.out) (es_next11 HM6.out HX8.out) rfl rfl HR6.out HR6L.out).mono ?_
  rintro x w10 ⟨rfl, hx⟩
  have HX10 := Lib.hid hx
  clear hx
  go_wp2_with fail
  refine (known11_any _).mono ?_
  rintro x w9 ⟨rfl, hx⟩
  have HX9 := Lib.hid hx
  clear hx
  go_wp2_with fail
  go_ret
  exact ⟨rfl, ((((((HXX.out.trans HX3.out).trans HX4.out).trans HX5.out).trans HX6.out).trans HX8.out).trans HX10.out).trans HX9.out⟩
end Go.Proofs.Ytlnihaeeoolkhaa

/- MergeKeeps: from the walk to the statement. For every input the law answers true and leaves its arguments as they were. -/
namespace Go.Proofs.Ytlnihaeeoolkhaa.mergeKeeps
open Go.ChangeShapes Go.WideShapes Go.ChangeAt Go.RowKit
set_option linter.unusedVariables false

set_option maxRecDepth 100000 in
theorem lifted (os : Os) (started : os.Started) (H : Type) (enc : TypeId × Value → H) :
    ReturnsInHanded {} Try.checked os 3 .any (Rows.mergeKeepsSpec.pre6 enc Try.prog Try.f3 Rows.mergeKeepsRow.domain false) (Rows.mergeKeepsSpec.post enc Try.prog Try.f3 false true false false) := by
  refine returnsInHanded_of_change_sized (C := Try.checked) own started (by kernel_rfl) Try.func3
    (ChangeSpec.witness6 (enc := enc) (C := Try.checked) false ⟨#[], #[.slice none 0 0, .int .i64 0, .bool false, .int .i64 0], []⟩ 8 (by kernel_rfl) (by kernel_rfl) (by kernel_rfl) (by kernel_rfl)) ?_
  intro W base args ds gs before hval0 hW hcnd hsz0 _
  have hsz : (DataW.weightsEach Try.prog (Try.f3.params.toList ++ Rows.mergeKeepsSpec.plain.varTypes Try.prog) (ds ++ gs)).all (· ≤ reachBytes) = true := hsz0
  have hval : ∀ (j : Nat) t v, Try.f3.params[j]? = some t → args[j]? = some v → Value.okWide Try.prog W .any base t v := hval0
  have hW' := hW
  obtain ⟨p, q, hA0, hV, rfl, hfz, hnd⟩ := hW
  have hA : DataW.TrodAll enc Try.prog W 0 (fun _ => true) true Try.f3.params.toList args.toList ds p := hA0
  rw [Try.params3] at hA hval hsz
  obtain ⟨v0, vs0, d0, ds0, p0, q0, hargs, rfl, rfl, h0, r0⟩ := trodAll_cons hA
  obtain ⟨v1, vs1, d1, ds1, p1, q1, rfl, rfl, rfl, h1, r1⟩ := trodAll_cons r0
  obtain ⟨v2, vs2, d2, ds2, p2, q2, rfl, rfl, rfl, h2, r2⟩ := trodAll_cons r1
  obtain ⟨v3, vs3, d3, ds3, p3, q3, rfl, rfl, rfl, h3, r3⟩ := trodAll_cons r2
  obtain ⟨rfl, rfl, rfl⟩ := trodAll_nil r3
  obtain rfl : args = #[v0, v1, v2, v3] := by cases args; simp_all
  obtain ⟨rfl, rfl⟩ := trodVars_none hV
  have k0 := h0
  have lt0 : ∀ x ∈ p0, x.block < W.heap.size := by obtain ⟨m, hm⟩ := k0; exact DataW.trod_lt m _ _ _ hm
  obtain ⟨A0, c0, L0, rfl, x0, y0, m0, z0, n0⟩ := open_entries (hval 0 22 v0 rfl rfl) h0 hsz (jj := 0) rfl rfl
  obtain ⟨a1, rfl, rfl, rfl, w1⟩ := open_int Try.underlying2 (hval 1 2 v1 rfl rfl) h1
  obtain ⟨a2, rfl, rfl, rfl⟩ := open_bool Try.underlying4 (hval 2 4 v2 rfl rfl) h2
  obtain ⟨a3, rfl, rfl, rfl, w3⟩ := open_int Try.underlying3 (hval 3 3 v3 rfl rfl) h3
  clear hA0 hval0 hsz0
  refine (keeps_walk W A0 c0 L0 x0 y0 m0 z0 n0 a1 w1 a2 a3 w3).mono fun e W' ⟨he, bel⟩ => ?_
  subst he
  exact ⟨_, rfl, _, _, _, [], _, [], hW', trodAll_mk1 (shut_bool Try.underlying4 _), (trodAll_cons_mk (Below.trod laidOut (by kernel_rfl) (of_decide_eq_true (by kernel_rfl)) k0 bel lt0) (trodAll_cons_mk (shut_int Try.underlying2 w1) (trodAll_cons_mk (shut_bool Try.underlying4 _) (trodAll_cons_mk (shut_int Try.underlying3 w3) trodAll_mk0)))), rfl, bel.frame _, fun h => by cases h⟩

theorem over : Rows.mergeKeepsRow.holds Try.pinned (OpenSpec.ofChange Rows.mergeKeepsSpec) :=
  OpenClaim.holds_of_wide 3 Try.f3 rfl rfl rfl rfl rfl rfl rfl ⟨rfl, rfl, rfl, rfl, rfl⟩ rfl rfl rfl rfl rfl (by kernel_rfl) Try.func3 (by kernel_rfl)
    (of_decide_eq_true (by kernel_rfl)) (by unfold Func.isWrapper; first | (rw [if_pos (by decide +kernel)]; kernel_rfl) | (rw [if_neg (by decide +kernel)]; exact ⟨rfl, rfl⟩))
    (fun os started H enc _ => lifted os started H enc)

theorem proved : Rows.MergeKeepsSaid := over
end Go.Proofs.Ytlnihaeeoolkhaa.mergeKeeps
