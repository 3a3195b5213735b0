/- Lkwrites Pkwrites, joined. -/
import Derived.Test.YtbafmfdlbicadaaMb15
import Derived.Test.YtbafmfdlbicadaaMb8

/- BlockWrites: the walk. -/
namespace Go.Proofs.Ytbafmfdlbicadaa.kwrites
open Go.ChangeShapes Go.WideShapes Go.ChangeAt Go.RowKit

set_option maxRecDepth 100000 in
set_option maxHeartbeats 8000000 in
theorem walk (W : World) (A : Option Addr) (c : Nat) (L : List (Ent × Hd)) (hlc : L.length ≤ c) (_hc : c ≤ maxLen) (hE : Es W 0 W.heap.size A L) (hln : ∀ p ∈ L, p.1.key.length ≤ 140737488351232 ∧ p.1.val.length ≤ 140737488351232) (hn : L.length ≤ 2199023255552) :
    Calls Try.prog 4 #[.slice A L.length c] W fun e w' => e = .returned (.bool true) ∧ Below W.heap.size W w' := by
  have HE := Lib.hid hE
  have HLC := Lib.hid hlc
  have HMU := Lib.hid (kmuch_any (c := c) hE (Nat.le_refl _) (by omega) hln)
  have HES : Hid (∀ u, Ext W u → Es u 0 W.heap.size A L ∧ W.heap.size ≤ u.heap.size) := fun u hu => ⟨hE.below hu (Nat.le_refl _), hu.size⟩
  clear hE hln hn hlc _hc
  go_enter Try.func4, Try.ntmps4
  go_wp2_with fail
  refine HMU.out.mono ?_
  rintro x w2 ⟨z, hz, rfl, hx2⟩
  have HZ := Lib.hid hz
  have HX2 : Hid (Ext W w2) := hx2
  clear hz hx2 HMU
  rcases z with _ | _
  rotate_left
  · go_wp2_with fail
    refine (known_any w2).mono ?_
    rintro x w3 ⟨rfl, hx3⟩
    have HX3 := Lib.hid (Ext.trans HX2.out hx3)
    clear hx3
    go_wp2_with fail
    go_ret
    exact ⟨rfl, HX3.out⟩
  have HB := Lib.hid (HZ.out rfl)
  have HCP := Lib.hid (copies2_any (c := c) (HES.out w2 HX2.out).1 (HES.out w2 HX2.out).2 (by have := HB.out.1; omega) HB.out.2)
  go_wp2_with fail
  refine HCP.out.mono ?_
  rintro x w3 ⟨R, v, hmap, rfl, hgot, hx3⟩
  obtain ⟨X, cR, rfl⟩ := hgot.slice
  have HX3 : Hid (Ext W w3) := Ext.trans HX2.out hx3
  have HG3 := Lib.hid hgot
  have HMAP := Lib.hid hmap
  have hrl : R.length = L.length := by have := congrArg List.length hmap; simpa using this
  have HRL := Lib.hid hrl
  have HWR := Lib.hid (write_any (c := cR) hgot.rs (Nat.le_refl _) hgot.capd.1 (by have := HB.out.1; omega))
  obtain ⟨Ls, hLs⟩ : ∃ Ls, Ls = L.map Prod.fst := ⟨_, rfl⟩
  rw [hmap, ← hLs] at HWR
  have HLS := Lib.hid hLs
  clear hx3 hgot hmap hrl HCP hLs
  have HBY : Hid (MayB Ls → ∀ x ∈ wr Ls, x < 256) := fun hm => wr_lt hm (fun e he => by
    rw [HLS.out] at he
    obtain ⟨p, hp, rfl⟩ := List.mem_map.1 he
    have hem := HE.out.each p hp
    exact ⟨hem.bk, hem.bv⟩)
  have HWLEN : Hid (MayB Ls → (wr Ls).length ≤ 1000000000) := fun hm => by
    have h1 := wr_len Ls
    have h2 := upto_le hm.2.2.2 Ls.length
    have h3 := ats_len Ls Ls.length
    have h4 := hm.2.1
    omega
  go_wp2_with fail
  refine HWR.out.mono ?_
  rintro x w4 ⟨hx4, (⟨hm, WA, wc, rfl, hown⟩ | ⟨hm, rfl⟩)⟩
  rotate_left
  · have HX4 : Hid (Ext W w4) := Ext.trans HX3.out hx4
    have HM := Lib.hid hm
    have HSL := Lib.hid (rsamelist_any (c := cR) (c2 := c) (HG3.out.below hx4).rs (HES.out w4 HX4.out).1 (Nat.le_refl _) (HES.out w4 HX4.out).2 (by have := HB.out.1; have := HRL.out; omega) (by have := HB.out.1; omega))
    clear hx4 hm HWR
    go_wp2_with fail
    refine HSL.out.mono ?_
    rintro x w5 ⟨y, hy, rfl, hx5⟩
    obtain rfl : y = true := hy.2 HMAP.out
    have HX5 : Hid (Ext W w5) := Ext.trans HX4.out hx5
    have HMB := Lib.hid (rmayb2_any (c := c) (HES.out w5 HX5.out).1 (HES.out w5 HX5.out).2 (by have := HB.out.1; omega) HB.out.2)
    clear hx5 hy HSL
    go_wp2_with fail
    refine HMB.out.mono ?_
    rintro x w6 ⟨y, hy, rfl, hx6⟩
    obtain rfl : y = false := by
      rcases y with _ | _
      · rfl
      · exact absurd (by rw [HLS.out]; exact hy.1 (by trivial)) HM.out
    have HX6 : Hid (Ext W w6) := Ext.trans HX5.out hx6
    have HSZ := Lib.hid (bsize_any (c := c) (HES.out w6 HX6.out).1 (HES.out w6 HX6.out).2 HLC.out (by have := HB.out.1; omega))
    clear hx6 hy HMB
    go_wp2_with fail
    refine (knum _ _).mono ?_
    rintro x _ ⟨rfl, rfl⟩
    go_wp2_with fail
    refine HSZ.out.mono ?_
    rintro x w7 ⟨hx7, _, hs⟩
    obtain rfl := hs (by rw [← HLS.out]; exact HM.out)
    have HX7 : Hid (Ext W w7) := Ext.trans HX6.out hx7
    clear hx7 hs HSZ
    go_wp2_with fail
    refine (known_any w7).mono ?_
    rintro x w8 ⟨rfl, hx8⟩
    have HX8 := Lib.hid (Ext.trans HX7.out hx8)
    clear hx8
    go_wp2_with fail
    go_ret
    exact ⟨rfl, HX8.out⟩
  have HX4 : Hid (Ext W w4) := Ext.trans HX3.out hx4
  have HM := Lib.hid hm
  obtain ⟨D, hD⟩ : ∃ D, D = wr Ls := ⟨_, rfl⟩
  have HD := Lib.hid hD
  rw [← hD] at hown HBY HWLEN ⊢
  have HO4 := Lib.hid hown
  have HSL := Lib.hid (rsamelist_any (c := cR) (c2 := c) (HG3.out.below hx4).rs (HES.out w4 HX4.out).1 (Nat.le_refl _) (HES.out w4 HX4.out).2 (by have := HB.out.1; have := HRL.out; omega) (by have := HB.out.1; omega))
  clear hx4 hm HWR hown hD
  go_wp2_with fail
  refine HSL.out.mono ?_
  rintro x w5 ⟨y, hy, rfl, hx5⟩
  obtain rfl : y = true := hy.2 HMAP.out
  have HX5 : Hid (Ext W w5) := Ext.trans HX4.out hx5
  have HX45 : Hid (Ext w4 w5) := hx5
  have HMB := Lib.hid (rmayb2_any (c := c) (HES.out w5 HX5.out).1 (HES.out w5 HX5.out).2 (by have := HB.out.1; omega) HB.out.2)
  clear hx5 hy HSL
  go_wp2_with fail
  refine HMB.out.mono ?_
  rintro x w6 ⟨y, hy, rfl, hx6⟩
  obtain rfl : y = true := hy.2 (by rw [← HLS.out]; exact HM.out)
  have HX6 : Hid (Ext W w6) := Ext.trans HX5.out hx6
  have HX46 : Hid (Ext w4 w6) := Ext.trans HX45.out hx6
  have HRW := Lib.hid (rwrite_any (c := c) (HES.out w6 HX6.out).1 (HES.out w6 HX6.out).2 (by rw [← HLS.out]; exact HM.out))
  rw [← HLS.out] at HRW
  clear hx6 hy HMB
  go_wp2_with fail
  refine HRW.out.mono ?_
  rintro x w7 ⟨VA, vc, RA, rc, rfl, hst⟩
  rw [← HD.out] at hst ⊢
  have HST := Lib.hid hst
  have HX7 : Hid (Ext W w7) := Ext.trans HX6.out hst.x
  have HX47 : Hid (Ext w4 w7) := Ext.trans HX46.out hst.x
  have v1 := cv_any (HO4.out.below HX47.out).bs
  have v2 := cv_any HST.out.b.bs
  have t1 := tx_same (HBY.out HM.out) (HBY.out HM.out)
  rw [decide_eq_true rfl] at t1
  have HSZ := Lib.hid (bsize_any (c := c) (HES.out w7 HX7.out).1 (HES.out w7 HX7.out).2 HLC.out (by have := HB.out.1; omega))
  clear hst HRW
  go_wp2_with fail
  refine (knum _ _).mono ?_
  rintro x _ ⟨rfl, rfl⟩
  go_wp2_with fail
  refine HSZ.out.mono ?_
  rintro x w8 ⟨hx8, hs, _⟩
  have hs' := hs (by rw [← HLS.out]; exact HM.out)
  rw [← HLS.out, ← HD.out] at hs'
  subst hs'
  have HX8 : Hid (Ext W w8) := Ext.trans HX7.out hx8
  have ed : ((D.length : Int) == (D.length : Int)) = true := by simp
  clear hx8 hs HSZ v1 v2 t1
  go_wp2_with fail
  refine (known_any w8).mono ?_
  rintro x w9 ⟨rfl, hx9⟩
  have HX9 := Lib.hid (Ext.trans HX8.out hx9)
  clear hx9
  go_wp2_with fail
  go_ret
  exact ⟨rfl, HX9.out⟩
end Go.Proofs.Ytbafmfdlbicadaa.kwrites

/- BlockWrites: from the walk to the statement. For every input the law answers true and leaves its arguments as they were. -/
namespace Go.Proofs.Ytbafmfdlbicadaa.kwrites
open Go.ChangeShapes Go.WideShapes Go.ChangeAt Go.RowKit
set_option linter.unusedVariables false

set_option maxRecDepth 100000 in
theorem lifted (os : Os) (started : os.Started) (H : Type) (enc : TypeId × Value → H) :
    ReturnsInHanded {} Try.checked os 4 .any (Rows.blockWritesSpec.pre6 enc Try.prog Try.f4 Rows.blockWritesRow.domain false) (Rows.blockWritesSpec.post enc Try.prog Try.f4 false true false false) := by
  refine returnsInHanded_of_change_sized (C := Try.checked) own started (by kernel_rfl) Try.func4
    (ChangeSpec.witness6 (enc := enc) (C := Try.checked) false ⟨#[], #[.slice none 0 0], []⟩ 8 (by kernel_rfl) (by kernel_rfl) (by kernel_rfl) (by kernel_rfl)) ?_
  intro W base args ds gs before hval0 hW hcnd hsz0 _
  have hsz : (DataW.weightsEach Try.prog (Try.f4.params.toList ++ Rows.blockWritesSpec.plain.varTypes Try.prog) (ds ++ gs)).all (· ≤ reachBytes) = true := hsz0
  have hval : ∀ (j : Nat) t v, Try.f4.params[j]? = some t → args[j]? = some v → Value.okWide Try.prog W .any base t v := hval0
  have hW' := hW
  obtain ⟨p, q, hA0, hV, rfl, hfz, hnd⟩ := hW
  have hA : DataW.TrodAll enc Try.prog W 0 (fun _ => true) true Try.f4.params.toList args.toList ds p := hA0
  rw [Try.params4] at hA hval hsz
  obtain ⟨v0, vs0, d0, ds0, p0, q0, hargs, rfl, rfl, h0, r0⟩ := trodAll_cons hA
  obtain ⟨rfl, rfl, rfl⟩ := trodAll_nil r0
  obtain rfl : args = #[v0] := by cases args; simp_all
  obtain ⟨rfl, rfl⟩ := trodVars_none hV
  have k0 := h0
  have lt0 : ∀ x ∈ p0, x.block < W.heap.size := by obtain ⟨m, hm⟩ := k0; exact DataW.trod_lt m _ _ _ hm
  obtain ⟨A0, c0, L0, rfl, x0, y0, m0, z0, n0⟩ := open_entries (hval 0 26 v0 rfl rfl) h0 hsz (jj := 0) rfl rfl
  clear hA0 hval0 hsz0
  refine (walk W A0 c0 L0 x0 y0 m0 z0 n0).mono fun e W' ⟨he, bel⟩ => ?_
  subst he
  exact ⟨_, rfl, _, _, _, [], _, [], hW', trodAll_mk1 (shut_bool Try.underlying4 _), (trodAll_cons_mk (Below.trod laidOut (by kernel_rfl) (of_decide_eq_true (by kernel_rfl)) k0 bel lt0) trodAll_mk0), rfl, bel.frame _, fun h => by cases h⟩

theorem over : Rows.blockWritesRow.holds Try.pinned (OpenSpec.ofChange Rows.blockWritesSpec) :=
  OpenClaim.holds_of_wide 4 Try.f4 rfl rfl rfl rfl rfl rfl rfl ⟨rfl, rfl, rfl, rfl, rfl⟩ rfl rfl rfl rfl rfl (by kernel_rfl) Try.func4 (by kernel_rfl)
    (of_decide_eq_true (by kernel_rfl)) (by unfold Func.isWrapper; first | (rw [if_pos (by decide +kernel)]; kernel_rfl) | (rw [if_neg (by decide +kernel)]; exact ⟨rfl, rfl⟩))
    (fun os started H enc _ => lifted os started H enc)

theorem proved : Rows.BlockWritesSaid := over
end Go.Proofs.Ytbafmfdlbicadaa.kwrites
