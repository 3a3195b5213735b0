import Derived.Test.YthhgjeeangepaaaGreatMv16
import Derived.Test.YthhgjeeangepaaaGreatMv19
import Derived.Test.YthhgjeeangepaaaGreatMv6
import Derived.Test.YthhgjeeangepaaaGreatMv0
namespace Go.Proofs.YthhgjeeangepaaaGreat.uwrites
open Go.ChangeShapes Go.WideShapes Go.ChangeAt Go.RowKit
set_option maxRecDepth 100000 in
set_option maxHeartbeats 8000000 in
theorem walk (W : World) (A : Option Addr) (c : Nat) (L : List (Ent × Hd)) (hlc : L.length ≤ c) (_hc : c ≤ maxLen) (hE : Es W 0 W.heap.size A L) (hln : ∀ p ∈ L, p.1.key.length ≤ 140737488351232 ∧ p.1.val.length ≤ 140737488351232) (hn : L.length ≤ 2199023255552) :
    Calls Tryz.prog 3 #[.slice A L.length c] W fun e w' => e = .returned (.bool true) ∧ Below W.heap.size W w' := by
  have HLC := Lib.hid hlc
  have HMU := Lib.hid (tmuch_any (c := c) hE (Nat.le_refl _) (by omega) hln)
  have HE := Lib.hid hE
  have HES : Hid (∀ u, Ext W u → Es u 0 W.heap.size A L ∧ W.heap.size ≤ u.heap.size) := fun u hu => ⟨hE.below hu (Nat.le_refl _), hu.size⟩
  clear hE hln hn hlc _hc
  go_enter Tryz.func3, Tryz.ntmps3
  go_wp2_with fail
  refine HMU.out.mono ?_
  rintro x w2 ⟨z, hz, rfl, hx2⟩
  have HZ := Lib.hid hz
  have HX2 : Hid (Ext W w2) := hx2
  clear hz hx2 HMU
  rcases z with _ | _
  rotate_left
  · go_wp2_with fail
    refine (uknown_any w2).mono ?_
    rintro x w3 ⟨rfl, hx3⟩
    have HX3 := Lib.hid (Ext.trans HX2.out hx3)
    clear hx3
    go_wp2_with fail
    go_ret
    exact ⟨rfl, HX3.out⟩
  have HB := Lib.hid (HZ.out rfl)
  have HCP := Lib.hid (copies2_any (c := c) (HES.out w2 HX2.out).1 (HES.out w2 HX2.out).2 (by have := HB.out.1; omega) (fun p hp => by have := HB.out.2 p hp; omega))
  go_wp2_with fail
  refine HCP.out.mono ?_
  rintro x w3 ⟨R, v, hmap, rfl, hgot, hx3⟩
  obtain ⟨X, cR, rfl⟩ := hgot.slice
  have HX3 : Hid (Ext W w3) := Ext.trans HX2.out hx3
  have HG3 := Lib.hid hgot
  have HMAP := Lib.hid hmap
  have hrl : R.length = L.length := by have := congrArg List.length hmap; simpa using this
  have HRL := Lib.hid hrl
  have HWR := Lib.hid (twrite_any (c := cR) hgot.rs (Nat.le_refl _) hgot.capd.1 (by have := HB.out.1; omega))
  obtain ⟨Ls, hLs⟩ : ∃ Ls, Ls = L.map Prod.fst := ⟨_, rfl⟩
  rw [hmap, ← hLs] at HWR
  have HLS := Lib.hid hLs
  clear hx3 hgot hmap hrl HCP hLs
  go_wp2_with fail
  refine HWR.out.mono ?_
  rintro x w4 ⟨hx4, (⟨hm, C, WA, wc, hcf, hcu, rfl, hown⟩ | ⟨hm, rfl⟩)⟩
  rotate_left
  · have HX4 : Hid (Ext W w4) := Ext.trans HX3.out hx4
    have HM := Lib.hid hm
    have HSL := Lib.hid (rsamelist_any (c := cR) (c2 := c) (HG3.out.below hx4).rs (HES.out w4 HX4.out).1 (Nat.le_refl _) (HES.out w4 HX4.out).2 (by have := HB.out.1; have := HRL.out; omega) (by have := HB.out.1; omega))
    clear hx4 hm HWR
    go_wp2_with fail
    refine HSL.out.mono ?_
    rintro x w5 ⟨y, hy, rfl, hx5⟩
    obtain rfl : y = true := hy.2 HMAP.out
    have HX5 : Hid (Ext W w5) := Ext.trans HX4.out hx5
    have HMB := Lib.hid (rtmay_any (c := c) (HES.out w5 HX5.out).1 (HES.out w5 HX5.out).2 (by have := HB.out.1; omega) HB.out.2)
    clear hx5 hy HSL
    go_wp2_with fail
    refine HMB.out.mono ?_
    rintro x w6 ⟨y, hy, rfl, hx6⟩
    obtain rfl : y = false := by
      rcases y with _ | _
      · rfl
      · exact absurd (by rw [HLS.out]; exact hy.1 (by trivial)) HM.out
    have HX6 : Hid (Ext W w6) := Ext.trans HX5.out hx6
    clear hx6 hy HMB
    go_wp2_with fail
    refine (unum _ _).mono ?_
    rintro x _ ⟨rfl, rfl⟩
    go_wp2_with fail
    refine (uknown_any w6).mono ?_
    rintro x w8 ⟨rfl, hx8⟩
    have HX8 := Lib.hid (Ext.trans HX6.out hx8)
    clear hx8
    go_wp2_with fail
    go_ret
    exact ⟨rfl, HX8.out⟩
  have HX4 : Hid (Ext W w4) := Ext.trans HX3.out hx4
  have HM := Lib.hid hm
  obtain ⟨D, hD⟩ : ∃ D, D = tb C Ls := ⟨_, rfl⟩
  have HD := Lib.hid hD
  have HCF := Lib.hid hcf
  have HCU := Lib.hid hcu
  rw [← hD] at hown ⊢
  have HO4 := Lib.hid hown
  have HSL := Lib.hid (rsamelist_any (c := cR) (c2 := c) (HG3.out.below hx4).rs (HES.out w4 HX4.out).1 (Nat.le_refl _) (HES.out w4 HX4.out).2 (by have := HB.out.1; have := HRL.out; omega) (by have := HB.out.1; omega))
  clear hx4 hm HWR hown hD hcf hcu
  go_wp2_with fail
  refine HSL.out.mono ?_
  rintro x w5 ⟨y, hy, rfl, hx5⟩
  obtain rfl : y = true := hy.2 HMAP.out
  have HX5 : Hid (Ext W w5) := Ext.trans HX4.out hx5
  have HX45 : Hid (Ext w4 w5) := hx5
  have HMB := Lib.hid (rtmay_any (c := c) (HES.out w5 HX5.out).1 (HES.out w5 HX5.out).2 (by have := HB.out.1; omega) HB.out.2)
  clear hx5 hy HSL
  go_wp2_with fail
  refine HMB.out.mono ?_
  rintro x w6 ⟨y, hy, rfl, hx6⟩
  obtain rfl : y = true := hy.2 (by rw [← HLS.out]; exact HM.out)
  have HX6 : Hid (Ext W w6) := Ext.trans HX5.out hx6
  have HX46 : Hid (Ext w4 w6) := Ext.trans HX45.out hx6
  have HRW : Hid (∀ u, Ext w6 u → Calls Tryz.prog 16 #[.slice A L.length c] u fun x w' => ∃ v, x = .returned v ∧ Own u.heap.size D v w' ∧ Ext u w') := fun u hu => by
    have HXu : Ext W u := Ext.trans HX6.out hu
    refine (rtwrite_any (c := c) (HES.out u HXu).1 (HES.out u HXu).2 (by rw [← HLS.out]; exact HM.out)).mono ?_
    rintro x w' ⟨hx, C', v, rfl, h1, h2, h3⟩
    rw [← HLS.out] at h1 h3
    obtain rfl : C' = C := cut_unique h2 HCU.out (by rw [h1, HCF.out])
    rw [← HD.out] at h3
    exact ⟨v, rfl, h3, hx⟩
  have HCV : Hid (∀ u, Ext w6 u → (convert 26 9 (.slice WA D.length wc)).run Tryz.prog u = .ok (.string (tx D)) u) := fun u hu => cv_any ((HO4.out.below (Ext.trans HX46.out hu)).bs)
  have htt : ((tx D).toList == (tx D).toList) = true := by simp
  clear hx6 hy HMB
  go_upto_region 9 with (fail)
  refine flow (by kernel_rfl) [Is (.slice WA D.length wc), Is (.string (tx D)), Is (.slice A L.length c), Own w6.heap.size D, Is (.string (tx D)), Is (.bool true), Is (.bool true), Is (.int .i64 (0 : Int)), Is (.int .i64 0), Is (.bool true), Is (.bool true), Is (.bool true), Is (.bool true), Is (.bool true), Is (.bool true)] (by kernel_rfl) (by kernel_rfl) ?mono (fun f1 => ?obl) ?fin
  case mono =>
    simp only [List.forall_mem_cons, List.not_mem_nil, false_imp_iff, implies_true, and_true]
    exact ⟨.is _, .is _, .is _, .own _ _, .is _, .is _, .is _, .is _, .is _, .is _, .is _, .is _, .is _, .is _, .is _⟩
  case fin =>
    intro g1 u hu hg
    simp only [puts, Act.put, zq1, zq2, zq3]
    have h14 : g1 14 = .bool true := hg 14 (by decide)
    rw [h14]
    have HU := Lib.hid (Ext.trans HX6.out (Ext.trans (Ext.drew w6) hu))
    clear h14 hg hu
    go_wp2_with fail
    go_ret
    exact ⟨rfl, HU.out⟩
  case obl =>
    refine ⟨fun u hu hd => ?_, ?_⟩
    · go_simp
      exact ⟨Ext.refl _, rfl⟩
    refine ⟨fun u hu hd => ?_, ?_⟩
    · simp only [Act.put, zq1, zq2, zq3]
      have e0 : f1 0 = .slice WA D.length wc := hd 0 (by kernel_rfl)
      have hu2 := Ext.trans (Ext.drew w6) hu
      have cv := HCV.out u hu2
      go_simp
      exact ⟨Ext.refl _, rfl⟩
    refine ⟨fun u hu hd => ?_, ?_⟩
    · simp only [Act.put, zq1, zq2, zq3]
      go_simp
      exact ⟨Ext.refl _, rfl⟩
    refine ⟨fun u hu hd => ?_, ?_⟩
    · simp only [Act.put, zq1, zq2, zq3]
      have e2 : f1 2 = .slice A L.length c := hd 2 (by kernel_rfl)
      have hu2 := Ext.trans (Ext.drew w6) hu
      go_simp
      refine (HRW.out u hu2).mono ?_
      rintro x w9 ⟨v9, rfl, hown, hx9⟩
      exact ⟨_, rfl, hx9, hown.base hu2.size⟩
    refine ⟨fun u hu hd => ?_, ?_⟩
    · simp only [Act.put, zq1, zq2, zq3]
      have h3 : Own w6.heap.size D (f1 3) u := hd 3 (by kernel_rfl)
      obtain ⟨X, dd, e3⟩ := h3.slice
      rw [e3] at h3
      have cv := cv_any h3.bs
      have H3 := Lib.hid h3
      clear h3
      go_simp
      exact ⟨Ext.refl _, rfl⟩
    refine ⟨fun u hu hd => ?_, ?_⟩
    · simp only [Act.put, zq1, zq2, zq3]
      have e1 : f1 1 = .string (tx D) := hd 1 (by kernel_rfl)
      have e4 : f1 4 = .string (tx D) := hd 4 (by kernel_rfl)
      go_simp
      exact ⟨Ext.refl _, rfl⟩
    refine ⟨fun u hu hd => ?_, ?_⟩
    · simp only [Act.put, zq1, zq2, zq3]
      have e5 : f1 5 = .bool true := hd 5 (by kernel_rfl)
      go_simp
      exact ⟨Ext.refl _, rfl⟩
    refine ⟨fun u hu hd => ?_, ?_⟩
    · simp only [Act.put, zq1, zq2, zq3]
      have e6 : f1 6 = .bool true := hd 6 (by kernel_rfl)
      go_simp
      exact ⟨Ext.refl _, rfl⟩
    refine ⟨fun u hu hd => ?_, ?_⟩
    · simp only [Act.put, zq1, zq2, zq3]
      have e6 : f1 6 = .bool true := hd 6 (by kernel_rfl)
      have e7 : f1 7 = .int .i64 (0 : Int) := hd 7 (by kernel_rfl)
      go_simp
      refine (unum 0 u).mono ?_
      rintro x w9 ⟨rfl, rfl⟩
      exact ⟨_, rfl, Ext.refl _, rfl⟩
    refine ⟨fun u hu hd => ?_, ?_⟩
    · simp only [Act.put, zq1, zq2, zq3]
      have e6 : f1 6 = .bool true := hd 6 (by kernel_rfl)
      have e8 : f1 8 = .int .i64 0 := hd 8 (by kernel_rfl)
      go_simp
      exact ⟨Ext.refl _, rfl⟩
    refine ⟨fun u hu hd => ?_, ?_⟩
    · simp only [Act.put, zq1, zq2, zq3]
      have e6 : f1 6 = .bool true := hd 6 (by kernel_rfl)
      have e9 : f1 9 = .bool true := hd 9 (by kernel_rfl)
      go_simp
      exact ⟨Ext.refl _, rfl⟩
    refine ⟨fun u hu hd => ?_, ?_⟩
    · simp only [Act.put, zq1, zq2, zq3]
      have e10 : f1 10 = .bool true := hd 10 (by kernel_rfl)
      go_simp
      exact ⟨Ext.refl _, rfl⟩
    refine ⟨fun u hu hd => ?_, ?_⟩
    · simp only [Act.put, zq1, zq2, zq3]
      have e11 : f1 11 = .bool true := hd 11 (by kernel_rfl)
      go_simp
      refine (uknown_any u).mono ?_
      rintro x w9 ⟨rfl, hx9⟩
      exact ⟨_, rfl, hx9, rfl⟩
    refine ⟨fun u hu hd => ?_, ?_⟩
    · simp only [Act.put, zq1, zq2, zq3]
      have e11 : f1 11 = .bool true := hd 11 (by kernel_rfl)
      have e12 : f1 12 = .bool true := hd 12 (by kernel_rfl)
      go_simp
      exact ⟨Ext.refl _, rfl⟩
    refine ⟨fun u hu hd => ?_, ?_⟩
    · simp only [Act.put, zq1, zq2, zq3]
      have e13 : f1 13 = .bool true := hd 13 (by kernel_rfl)
      go_simp
      exact ⟨Ext.refl _, rfl⟩
    trivial
end Go.Proofs.YthhgjeeangepaaaGreat.uwrites
namespace Go.Proofs.YthhgjeeangepaaaGreat.uwrites
open Go.ChangeShapes Go.WideShapes Go.ChangeAt Go.RowKit
set_option linter.unusedVariables false
set_option maxRecDepth 100000 in
theorem lifted (os : Os) (started : os.Started) (H : Type) (enc : TypeId × Value → H) :
    ReturnsInHanded {} Tryz.checked os 3 .any (Rows.tableWritesSpec.pre6 enc Tryz.prog Tryz.f3 Rows.tableWritesRow.domain false) (Rows.tableWritesSpec.post enc Tryz.prog Tryz.f3 false true false false) := by
  refine returnsInHanded_of_change_sized (C := Tryz.checked) own started (by kernel_rfl) Tryz.func3
    (ChangeSpec.witness6 (enc := enc) (C := Tryz.checked) false ⟨#[], #[.slice none 0 0], []⟩ 8 (by kernel_rfl) (by kernel_rfl) (by kernel_rfl) (by kernel_rfl)) ?_
  intro W base args ds gs before hval0 hW hcnd hsz0 _
  have hsz : (DataW.weightsEach Tryz.prog (Tryz.f3.params.toList ++ Rows.tableWritesSpec.plain.varTypes Tryz.prog) (ds ++ gs)).all (· ≤ reachBytes) = true := hsz0
  have hval : ∀ (j : Nat) t v, Tryz.f3.params[j]? = some t → args[j]? = some v → Value.okWide Tryz.prog W .any base t v := hval0
  have hW' := hW
  obtain ⟨p, q, hA0, hV, rfl, hfz, hnd⟩ := hW
  have hA : DataW.TrodAll enc Tryz.prog W 0 (fun _ => true) true Tryz.f3.params.toList args.toList ds p := hA0
  rw [Tryz.params3] at hA hval hsz
  obtain ⟨v0, vs0, d0, ds0, p0, q0, hargs, rfl, rfl, h0, r0⟩ := trodAll_cons hA
  obtain ⟨rfl, rfl, rfl⟩ := trodAll_nil r0
  obtain rfl : args = #[v0] := by cases args; simp_all
  obtain ⟨rfl, rfl⟩ := trodVars_none hV
  have k0 := h0
  have lt0 : ∀ x ∈ p0, x.block < W.heap.size := by obtain ⟨m, hm⟩ := k0; exact DataW.trod_lt m _ _ _ hm
  obtain ⟨A0, c0, L0, rfl, x0, y0, m0, z0, n0⟩ := open_entries (hval 0 22 v0 rfl rfl) h0 hsz (jj := 0) rfl rfl
  clear hA0 hval0 hsz0
  refine (walk W A0 c0 L0 x0 y0 m0 z0 n0).mono fun e W' ⟨he, bel⟩ => ?_
  subst he
  exact ⟨_, rfl, _, _, _, [], _, [], hW', trodAll_mk1 (shut_bool Tryz.underlying4 _), (trodAll_cons_mk (Below.trod laidOut (by kernel_rfl) (of_decide_eq_true (by kernel_rfl)) k0 bel lt0) trodAll_mk0), rfl, bel.frame _, fun h => by cases h⟩
theorem over : Rows.tableWritesRow.holds Tryz.pinned (OpenSpec.ofChange Rows.tableWritesSpec) :=
  OpenClaim.holds_of_wide 3 Tryz.f3 rfl rfl rfl rfl rfl rfl rfl ⟨rfl, rfl, rfl, rfl, rfl⟩ rfl rfl rfl rfl rfl (by kernel_rfl) Tryz.func3 (by kernel_rfl)
    (of_decide_eq_true (by kernel_rfl)) (by unfold Func.isWrapper; first | (rw [if_pos (by decide +kernel)]; kernel_rfl) | (rw [if_neg (by decide +kernel)]; exact ⟨rfl, rfl⟩))
    (fun os started H enc _ => lifted os started H enc)
theorem proved : Rows.TableWritesSaid := over
end Go.Proofs.YthhgjeeangepaaaGreat.uwrites
