/- MergeClips: from the walk to the statement. For every input the law answers true and leaves its arguments as they were. -/
import Derived.Test.YtlnihaeeoolkhaaMa9

/- MergeClips: what is between two keys, of any list, is what the document says. -/
namespace Go.Proofs.Ytlnihaeeoolkhaa
open Go.ChangeShapes Go.WideShapes Go.ChangeAt Go.RowKit

set_option maxRecDepth 100000 in
set_option maxHeartbeats 8000000 in
theorem clips_walk (W : World) (A : Option Addr) (c : Nat) (L : List (Ent × Hd)) (hlc : L.length ≤ c) (_hc : c ≤ maxLen) (hE : Es W 0 W.heap.size A L) (hln : ∀ p ∈ L, p.1.key.length ≤ 140737488351232 ∧ p.1.val.length ≤ 140737488351232) (_hn : L.length ≤ 2199023255552) (A1 : Option Addr) (c1 : Nat) (fr : List Nat) (b1 : ∀ x ∈ fr, x < 256) (y1 : Bs W 0 W.heap.size (.slice A1 fr.length c1) fr) (z1 : fr.length ≤ 140737488351232) (A2 : Option Addr) (c2 : Nat) (tt : List Nat) (b2 : ∀ x ∈ tt, x < 256) (y2 : Bs W 0 W.heap.size (.slice A2 tt.length c2) tt) (z2 : tt.length ≤ 140737488351232) (en : Bool) :
    Calls Try.prog 4 #[.slice A L.length c, .slice A1 fr.length c1, .slice A2 tt.length c2, .bool en] W fun e w' => e = .returned (.bool true) ∧ Below W.heap.size W w' := by
  have HE := Lib.hid hE
  have HLN := Lib.hid hln
  have HLC := Lib.hid hlc
  by_cases hbig : 100 < L.length
  · have d : decide ((100 : Int) < (L.length : Int)) = true := by simp; omega
    have dn : decide (100 < L.length) = true := by simp; omega
    clear hE hln hlc hbig
    go_enter Try.func4, Try.ntmps4
    go_wp2_with fail
    refine (known11_any _).mono ?_
    rintro x w9 ⟨rfl, hx⟩
    have HX := Lib.hid hx
    clear hx
    go_wp2_with fail
    go_ret
    exact ⟨rfl, HX.out⟩
  have d : decide ((100 : Int) < (L.length : Int)) = false := by simp; omega
  have dn : decide (100 < L.length) = false := by simp; omega
  have HL100 : Hid (L.length ≤ 100) := by unfold Hid; omega
  have HY1 := Lib.hid (And.intro y1 (And.intro b1 z1))
  have HY2 := Lib.hid (And.intro y2 (And.intro b2 z2))
  clear hE hln hlc hbig y1 b1 z1 y2 b2 z2
  go_enter Try.func4, Try.ntmps4
  go_wp2_with fail
  refine (of_goes (c := c) HE.out (by have := HL100.out; omega) HLN.out).mono ?_
  rintro x w1 ⟨b, rfl, hg, hx⟩
  have HX1 := Lib.hid hx
  have HG := Lib.hid hg
  clear hx hg
  go_wp2_with fail
  refine (clip_goes (c := c1) (c2 := c2) (en := en) HG.out (HY1.out.1.below HX1.out (Nat.le_refl _)) (HY2.out.1.below HX1.out (Nat.le_refl _)) HX1.out.size HY1.out.2.1 HY2.out.2.1 HY1.out.2.2 HY2.out.2.2).mono ?_
  rintro x w2 ⟨lb2, rfl, hg, hx⟩
  have HX2 := Lib.hid hx
  have HK := Lib.hid hg
  clear hx hg
  go_wp2_with fail
  refine (list_goes HK.out 0).mono ?_
  rintro x w3 hx
  obtain ⟨X, cx, R, rfl, h1, h2, h3⟩ := hx.es
  have HR := Lib.hid h2
  have HS := Lib.hid h1
  have HX3 := Lib.hid h3
  clear hx h1 h2 h3
  have HXX : Hid (Ext W w3) := (HX1.out.trans HX2.out).trans HX3.out
  go_wp2_with fail
  refine (clip11_any (c := c) (fc := c1) (tc := c2) (HE.out.below HXX.out (Nat.le_refl _)) HXX.out.size (by have := HL100.out; omega) (fun p hp => (HLN.out p hp).1) (HY1.out.1.below HXX.out (Nat.le_refl _)) (HY2.out.1.below HXX.out (Nat.le_refl _)) HY1.out.2.1 HY2.out.2.1 HY1.out.2.2 HY2.out.2.2 en).mono ?_
  rintro x w4 hx
  obtain ⟨Y, cy, rfl, _, h1, h2⟩ := RowAns.es hx (fun p hp => em_next11 (HE.out.each p (pickE_mem hp)) HXX.out)
  have HM := Lib.hid h1
  have HX4 := Lib.hid h2
  obtain ⟨M, hM⟩ : ∃ M, M = pickE (fun _ e => clipB fr tt en e) L L.length := ⟨_, rfl⟩
  rw [← hM] at HM ⊢
  have HEQ : Hid (R.map Prod.fst = M.map Prod.fst) := by
    rw [HR.out, hM, pick_filter L.length (Nat.le_refl _), List.take_of_length_le (by rw [List.length_map]; exact Nat.le_refl _)]
    rfl
  have HRL : Hid (R.length ≤ 1000000000) := by
    have h9 := congrArg List.length HEQ.out
    rw [List.length_map, List.length_map] at h9
    have := pickE_le (fun _ e => clipB fr tt en e) L L.length
    rw [← hM] at this
    have := HL100.out
    unfold Hid; omega
  clear hx h1 h2 hM
  go_wp2_with fail
  refine (same11_yes (es_next11 HS.out HX4.out) HM.out rfl rfl HEQ.out HRL.out).mono ?_
  rintro x w5 ⟨rfl, hx⟩
  have HX5 := Lib.hid hx
  clear hx
  go_wp2_with fail
  refine (known11_any _).mono ?_
  rintro x w9 ⟨rfl, hx⟩
  have HX9 := Lib.hid hx
  clear hx
  go_wp2_with fail
  go_ret
  exact ⟨rfl, ((HXX.out.trans HX4.out).trans HX5.out).trans HX9.out⟩
end Go.Proofs.Ytlnihaeeoolkhaa

/- MergeClips: from the walk to the statement. For every input the law answers true and leaves its arguments as they were. -/
namespace Go.Proofs.Ytlnihaeeoolkhaa.mergeClips
open Go.ChangeShapes Go.WideShapes Go.ChangeAt Go.RowKit
set_option linter.unusedVariables false

set_option maxRecDepth 100000 in
theorem lifted (os : Os) (started : os.Started) (H : Type) (enc : TypeId × Value → H) :
    ReturnsInHanded {} Try.checked os 4 .any (Rows.mergeClipsSpec.pre6 enc Try.prog Try.f4 Rows.mergeClipsRow.domain false) (Rows.mergeClipsSpec.post enc Try.prog Try.f4 false true false false) := by
  refine returnsInHanded_of_change_sized (C := Try.checked) own started (by kernel_rfl) Try.func4
    (ChangeSpec.witness6 (enc := enc) (C := Try.checked) false ⟨#[], #[.slice none 0 0, .slice none 0 0, .slice none 0 0, .bool false], []⟩ 8 (by kernel_rfl) (by kernel_rfl) (by kernel_rfl) (by kernel_rfl)) ?_
  intro W base args ds gs before hval0 hW hcnd hsz0 _
  have hsz : (DataW.weightsEach Try.prog (Try.f4.params.toList ++ Rows.mergeClipsSpec.plain.varTypes Try.prog) (ds ++ gs)).all (· ≤ reachBytes) = true := hsz0
  have hval : ∀ (j : Nat) t v, Try.f4.params[j]? = some t → args[j]? = some v → Value.okWide Try.prog W .any base t v := hval0
  have hW' := hW
  obtain ⟨p, q, hA0, hV, rfl, hfz, hnd⟩ := hW
  have hA : DataW.TrodAll enc Try.prog W 0 (fun _ => true) true Try.f4.params.toList args.toList ds p := hA0
  rw [Try.params4] at hA hval hsz
  obtain ⟨v0, vs0, d0, ds0, p0, q0, hargs, rfl, rfl, h0, r0⟩ := trodAll_cons hA
  obtain ⟨v1, vs1, d1, ds1, p1, q1, rfl, rfl, rfl, h1, r1⟩ := trodAll_cons r0
  obtain ⟨v2, vs2, d2, ds2, p2, q2, rfl, rfl, rfl, h2, r2⟩ := trodAll_cons r1
  obtain ⟨v3, vs3, d3, ds3, p3, q3, rfl, rfl, rfl, h3, r3⟩ := trodAll_cons r2
  obtain ⟨rfl, rfl, rfl⟩ := trodAll_nil r3
  obtain rfl : args = #[v0, v1, v2, v3] := by cases args; simp_all
  obtain ⟨rfl, rfl⟩ := trodVars_none hV
  have k0 := h0
  have lt0 : ∀ x ∈ p0, x.block < W.heap.size := by obtain ⟨m, hm⟩ := k0; exact DataW.trod_lt m _ _ _ hm
  obtain ⟨A0, c0, L0, rfl, x0, y0, m0, z0, n0⟩ := open_entries (hval 0 22 v0 rfl rfl) h0 hsz (jj := 0) rfl rfl
  have k1 := h1
  have lt1 : ∀ x ∈ p1, x.block < W.heap.size := by obtain ⟨m, hm⟩ := k1; exact DataW.trod_lt m _ _ _ hm
  obtain ⟨A1, c1, l1, rfl, b1, y1, z1⟩ := open_bytes_sized (hval 1 34 v1 rfl rfl) h1 hsz (jj := 1) rfl rfl
  have k2 := h2
  have lt2 : ∀ x ∈ p2, x.block < W.heap.size := by obtain ⟨m, hm⟩ := k2; exact DataW.trod_lt m _ _ _ hm
  obtain ⟨A2, c2, l2, rfl, b2, y2, z2⟩ := open_bytes_sized (hval 2 34 v2 rfl rfl) h2 hsz (jj := 2) rfl rfl
  obtain ⟨a3, rfl, rfl, rfl⟩ := open_bool Try.underlying4 (hval 3 4 v3 rfl rfl) h3
  clear hA0 hval0 hsz0
  refine (clips_walk W A0 c0 L0 x0 y0 m0 z0 n0 A1 c1 l1 b1 y1 z1 A2 c2 l2 b2 y2 z2 a3).mono fun e W' ⟨he, bel⟩ => ?_
  subst he
  exact ⟨_, rfl, _, _, _, [], _, [], hW', trodAll_mk1 (shut_bool Try.underlying4 _), (trodAll_cons_mk (Below.trod laidOut (by kernel_rfl) (of_decide_eq_true (by kernel_rfl)) k0 bel lt0) (trodAll_cons_mk (Below.trod laidOut (by kernel_rfl) (of_decide_eq_true (by kernel_rfl)) k1 bel lt1) (trodAll_cons_mk (Below.trod laidOut (by kernel_rfl) (of_decide_eq_true (by kernel_rfl)) k2 bel lt2) (trodAll_cons_mk (shut_bool Try.underlying4 _) trodAll_mk0)))), rfl, bel.frame _, fun h => by cases h⟩

theorem over : Rows.mergeClipsRow.holds Try.pinned (OpenSpec.ofChange Rows.mergeClipsSpec) :=
  OpenClaim.holds_of_wide 4 Try.f4 rfl rfl rfl rfl rfl rfl rfl ⟨rfl, rfl, rfl, rfl, rfl⟩ rfl rfl rfl rfl rfl (by kernel_rfl) Try.func4 (by kernel_rfl)
    (of_decide_eq_true (by kernel_rfl)) (by unfold Func.isWrapper; first | (rw [if_pos (by decide +kernel)]; kernel_rfl) | (rw [if_neg (by decide +kernel)]; exact ⟨rfl, rfl⟩))
    (fun os started H enc _ => lifted os started H enc)

theorem proved : Rows.MergeClipsSaid := over
end Go.Proofs.Ytlnihaeeoolkhaa.mergeClips
