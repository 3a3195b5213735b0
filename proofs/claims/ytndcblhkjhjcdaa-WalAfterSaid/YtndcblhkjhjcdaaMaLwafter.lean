/- WalAfter: from the walk to the statement. For every input the law answers true and leaves its arguments as they were. -/
import Derived.Test.YtndcblhkjhjcdaaMa13
import Derived.Test.YtndcblhkjhjcdaaMa14

/- WalAfter: just the batches behind a place are told. -/
namespace Go.Proofs.Ytndcblhkjhjcdaa
open Go.ChangeShapes Go.WideShapes Go.ChangeAt Go.RowKit

/-- Between two rounds. -/
structure WantI (w3 : World) (i : Int) (R : List (Nat × Bat)) (k : Nat) (A : Option Addr) (c : Nat) (Y : List Bx) (u : World) : Prop where
  map : Y.map Bx.bat = (behindR i (R.take k)).map Prod.snd
  rbs : Rbs w3.heap.size (.slice A Y.length c) Y u
  ext : Ext w3 u
  len : Y.length ≤ k

set_option maxRecDepth 100000 in
set_option maxHeartbeats 8000000 in
theorem wafter_walk (w : World) (v : Value) (l : List Nat) (hl : ∀ b ∈ l, b < 256) (hv : Bs w 0 w.heap.size v l) (i : Int) (_hi : (Lit.int .i64 i).wf = true) (leave : Int) (_hle : (Lit.int .i64 leave).wf = true) :
    Calls Try.prog 5 #[v, .int .i64 i, .int .i64 leave] w fun e w' => e = .returned (.bool true) ∧ Below w.heap.size w w' := by
  have HV := Lib.hid hv
  have HL := Lib.hid hl
  obtain ⟨A, c, rfl, q1, q2, q3, _⟩ := hv
  clear _hi _hle
  by_cases hbig : 60000 < l.length
  · have hd : decide ((60000 : Int) < (l.length : Int)) = true := by simp; omega
    have hd2 : decide (60000 < l.length) = true := by simp; omega
    clear hbig q1 q2 q3 hl
    go_enter Try.func5, Try.ntmps5
    go_wp2_with fail
    refine (wknown_any w).mono ?_
    rintro e w3 ⟨rfl, hb⟩
    go_wp2_with fail
    go_ret
    exact ⟨rfl, hb⟩
  have hd : decide ((60000 : Int) < (l.length : Int)) = false := by simp; omega
  have hd2 : decide (60000 < l.length) = false := by simp; omega
  have HLEN := Lib.hid (show l.length ≤ 60000 by omega)
  obtain ⟨R, hR⟩ := batl_some (Fm.frs l 0) 0
  have HR := Lib.hid hR
  have HB2 := Lib.hid (rbatches_any HV.out (Nat.le_refl _) HL.out (by have := HLEN.out; omega) HR.out)
  clear hbig q1 q2 q3 hl hR
  go_enter Try.func5, Try.ntmps5
  go_wp2_with fail
  refine HB2.out.mono ?_
  rintro e w3 ⟨X, V, q, hmap, rfl, hbts, hx⟩
  have HM := Lib.hid hmap
  have HT := Lib.hid hbts
  have HX3 : Hid (Ext w w3) := hx
  have HXL : Hid (X.length = R.length) := by have h1 := congrArg List.length hmap; rwa [List.length_map, List.length_map] at h1
  have HRL : Hid (R.length ≤ 60000) := by have h2 := HR.out.le; have h3 := Fm.frs_len l; have h4 := HLEN.out; unfold Hid; omega
  have hxI : (X.length : Int) ≤ 60000 := by have := HXL.out; have := HRL.out; omega
  obtain ⟨n, hn⟩ : ∃ n, n = X.length := ⟨_, rfl⟩
  have HN := Lib.hid hn
  rw [← hn] at hxI ⊢
  obtain ⟨E, hE⟩ : ∃ E, E = endAt 0 R R.length := ⟨_, rfl⟩
  obtain ⟨Z, hZ⟩ : ∃ Z, Z = wellB l R := ⟨_, rfl⟩
  rw [← hE, ← hZ]
  clear hmap hbts hx HB2 hn hE hZ
  go_wp2_with fail
  go_loopw [10, 11] (fun x a wr => ∃ (k : Nat) (U : Option Addr) (uc : Nat) (Y : List Bx), a = .int .i64 (k : Int) ∧ x = .slice U Y.length uc ∧ k ≤ n ∧ Hid (WantI w3 i R k U uc Y wr)) (fun _ a _ => n - (intOf a).toNat)
  case atStart => exact ⟨0, none, 0, [], rfl, rfl, by omega, by simp [behindR], Rbs.nil _ _, Ext.refl _, by simp⟩
  case round =>
    obtain ⟨k, U, uc, Y, rfl, rfl, hm, HI⟩ := hrel
    by_cases hlt : k < n
    · have d : decide ((k : Int) < (n : Int)) = true := decide_eq_true (by omega)
      have dn : decide (k < n) = true := decide_eq_true hlt
      obtain ⟨x, hx⟩ : ∃ x, X[k]? = some x := ⟨_, List.getElem?_eq_getElem (by have := HN.out; omega)⟩
      obtain ⟨r, hr⟩ : ∃ r, R[k]? = some r := ⟨_, List.getElem?_eq_getElem (by have := HN.out; have := HXL.out; omega)⟩
      have hxr : x.bat = r.2 := by
        have h1 := congrArg (fun l => l[k]?) HM.out
        simp only [List.getElem?_map, hx, hr, Option.map_some] at h1
        injection h1
      have HXR := Lib.hid (And.intro hr hxr)
      have HTW := Lib.hid (HT.out.below HI.out.ext (Nat.le_refl _))
      obtain ⟨b, o, hA⟩ := HTW.out.base (by have := HN.out; omega)
      subst hA
      obtain ⟨c0, c1⟩ := HTW.out.get hx
      have HBM := Lib.hid (HTW.out.each x (List.mem_of_getElem? hx))
      have n1 : (0 : Int) ≤ (k : Int) := by omega
      have n2 : (k : Int) < (n : Int) := by omega
      have HLT := Lib.hid hlt
      have hw2 : wrap64 ((k : Int) + 1) = ((k + 1 : Nat) : Int) := by unfold wrap64; omega
      clear hx hr hxr hm
      by_cases hgt : i < x.idx
      · have d2 : decide (i < x.idx) = true := decide_eq_true hgt
        have HGT := Lib.hid hgt
        have HYL : Hid (Y.length ≤ 1000000000000) := by have := HI.out.len; unfold Hid; omega
        have HOWN : Hid (∀ g, (Value.slice U Y.length uc).ownBlock = some g → w3.heap.size ≤ g) := fun g hg => (rowN_lt HI.out.rbs.row g hg).1
        obtain ⟨N1, hN1⟩ : ∃ N1, N1 = Y.length + 1 := ⟨_, rfl⟩
        have HN1 := Lib.hid hN1
        obtain ⟨xi, xA, xc, xL⟩ := x
        clear hgt hN1 hlt
        go_wp2_with (at_builtin; refine wpList_pushb rfl (.tmp 35) (.tmp 40) rfl w3.heap.size _ Y rfl (HI.out.rbs.ext (ext_alloc _ _)) ⟨xi, xA, xc, xL⟩ wr.heap.size rfl (heap_at _ _ rfl) ⟨0, w3.heap.size, Nat.le_trans HI.out.ext.size (by simp), HBM.out.ext (ext_alloc _ _) HI.out.ext.size, fun g hg => .inr (HOWN.out g hg)⟩ HYL.out (Nat.le_trans HI.out.ext.size (by simp)) ?_; rw [← HN1.out]; intro A5 c5 w5 hr5 _ hb5; have HR5 := Lib.hid hr5; have HX5 : Hid (Ext w3 w5) := hb5 w3 (Ext.trans HI.out.ext (ext_alloc _ _)); clear hr5 hb5 c0 c1)
        go_roundw
        case rel =>
          have hl1 : N1 = (Y ++ [⟨xi, xA, xc, xL⟩] : List Bx).length := by rw [HN1.out]; simp
          refine ⟨k + 1, A5, c5, Y ++ [⟨xi, xA, xc, xL⟩], (by first | rw [hw2] | go_num), by rw [← hl1], HLT.out, Lib.hid ⟨?_, by rw [← hl1]; exact HR5.out, HX5.out, by rw [← hl1, HN1.out]; have := HI.out.len; omega⟩⟩
          have hb : behindR i (R.take (k + 1)) = behindR i (R.take k) ++ [r] := by
            unfold behindR
            rw [List.take_add_one, HXR.out.1, List.filter_append]
            have h1 : behindP i r = true := by unfold behindP; rw [← HXR.out.2]; exact decide_eq_true HGT.out
            simp [h1]
          rw [hb, List.map_append, List.map_append, HI.out.map]
          simp [HXR.out.2]
        case measure => try rw [hw2]
                        have := HLT.out; simp [intOf]; omega
      · have d2 : decide (i < x.idx) = false := decide_eq_false hgt
        have HGT := Lib.hid hgt
        clear hgt hlt
        go_wp2_with fail
        go_roundw
        case rel =>
          refine ⟨k + 1, U, uc, Y, (by first | rw [hw2] | go_num), rfl, HLT.out, Lib.hid ⟨?_, HI.out.rbs, HI.out.ext, by have := HI.out.len; omega⟩⟩
          have hb : behindR i (R.take (k + 1)) = behindR i (R.take k) := by
            unfold behindR
            rw [List.take_add_one, HXR.out.1, List.filter_append]
            have h1 : behindP i r = false := by unfold behindP; rw [← HXR.out.2]; exact decide_eq_false HGT.out
            simp [h1]
          rw [hb]
          exact HI.out.map
        case measure => try rw [hw2]
                        have := HLT.out; simp [intOf]; omega
    · have d : decide ((k : Int) < (n : Int)) = false := decide_eq_false (by omega)
      have dn : decide (k < n) = false := decide_eq_false hlt
      have HFIT : Hid (Y.map Bx.bat = (behindR i R).map Prod.snd) := by
        have h1 := HI.out.map
        rwa [List.take_of_length_le (by have := HN.out; have := HXL.out; omega)] at h1
      have HYL : Hid (Y.length ≤ 60000) := by have := HI.out.len; unfold Hid; omega
      have HXR : Hid (Ext w wr) := Ext.trans HX3.out HI.out.ext
      have HBT := Lib.hid HI.out.rbs.bts
      have HUC : Hid (Y.length ≤ uc) := by
        rcases HI.out.rbs.row.2 with ⟨h1, h2⟩ | ⟨g, cap, cur, hv', _, _, h2, _⟩
        · rw [h2]; exact Nat.zero_le _
        · injection hv' with _ _ e3; subst e3; exact h2
      have HON : Hid (∀ u m, Ext wr u → Calls Try.prog 21 #[.slice A l.length c, .int .i64 i, .slice U Y.length uc, .int .i64 m] u fun e w' => e = .returned (.bool true) ∧ Below u.heap.size u w') := fun u m hu =>
        once_any (HV.out.below (Ext.trans HXR.out hu) (Nat.le_refl _)) (Ext.trans HXR.out hu).size HL.out (by have := HLEN.out; omega) HR.out (HBT.out.below hu (Nat.le_refl _)) hu.size HUC.out (by have := HYL.out; omega) HFIT.out m
      clear hlt hm
      go_wp2_with fail
      refine (HON.out wr leave (Ext.refl _)).mono ?_
      rintro e w4 ⟨rfl, hx⟩
      have HX4 : Hid (Ext wr w4) := hx
      clear hx
      go_wp2_with fail
      refine (HON.out w4 0 HX4.out).mono ?_
      rintro e w5 ⟨rfl, hx⟩
      have HX5 : Hid (Ext wr w5) := Ext.trans HX4.out hx
      clear hx
      go_wp2_with fail
      refine (wknown_any w5).mono ?_
      rintro e w7 ⟨rfl, hb⟩
      have HX7 : Hid (Ext w w7) := Ext.trans HXR.out (Ext.trans HX5.out hb)
      clear hb
      go_wp2_with fail
      go_ret
      exact ⟨rfl, HX7.out⟩
end Go.Proofs.Ytndcblhkjhjcdaa

/- WalAfter: from the walk to the statement. For every input the law answers true and leaves its arguments as they were. -/
namespace Go.Proofs.Ytndcblhkjhjcdaa.walAfter
open Go.ChangeShapes Go.WideShapes Go.ChangeAt Go.RowKit
set_option linter.unusedVariables false

set_option maxRecDepth 100000 in
theorem lifted (os : Os) (started : os.Started) (H : Type) (enc : TypeId × Value → H) :
    ReturnsInHanded {} Try.checked os 5 .any (Rows.walAfterSpec.pre6 enc Try.prog Try.f5 Rows.walAfterRow.domain false) (Rows.walAfterSpec.post enc Try.prog Try.f5 false true false false) := by
  refine returnsInHanded_of_change_sized (C := Try.checked) own started (by kernel_rfl) Try.func5
    (ChangeSpec.witness6 (enc := enc) (C := Try.checked) false ⟨#[], #[.slice none 0 0, .int .i64 0, .int .i64 0], []⟩ 8 (by kernel_rfl) (by kernel_rfl) (by kernel_rfl) (by kernel_rfl)) ?_
  intro W base args ds gs before hval0 hW hcnd hsz0 _
  have hsz : (DataW.weightsEach Try.prog (Try.f5.params.toList ++ Rows.walAfterSpec.plain.varTypes Try.prog) (ds ++ gs)).all (· ≤ reachBytes) = true := hsz0
  have hval : ∀ (j : Nat) t v, Try.f5.params[j]? = some t → args[j]? = some v → Value.okWide Try.prog W .any base t v := hval0
  have hW' := hW
  obtain ⟨p, q, hA0, hV, rfl, hfz, hnd⟩ := hW
  have hA : DataW.TrodAll enc Try.prog W 0 (fun _ => true) true Try.f5.params.toList args.toList ds p := hA0
  rw [Try.params5] at hA hval hsz
  obtain ⟨v0, vs0, d0, ds0, p0, q0, hargs, rfl, rfl, h0, r0⟩ := trodAll_cons hA
  obtain ⟨v1, vs1, d1, ds1, p1, q1, rfl, rfl, rfl, h1, r1⟩ := trodAll_cons r0
  obtain ⟨v2, vs2, d2, ds2, p2, q2, rfl, rfl, rfl, h2, r2⟩ := trodAll_cons r1
  obtain ⟨rfl, rfl, rfl⟩ := trodAll_nil r2
  obtain rfl : args = #[v0, v1, v2] := by cases args; simp_all
  obtain ⟨rfl, rfl⟩ := trodVars_none hV
  have k0 := h0
  have lt0 : ∀ x ∈ p0, x.block < W.heap.size := by obtain ⟨m, hm⟩ := k0; exact DataW.trod_lt m _ _ _ hm
  obtain ⟨l0, y0, b0⟩ := open_bytes (hval 0 29 v0 rfl rfl) h0
  obtain ⟨a1, rfl, rfl, rfl, w1⟩ := open_int Try.underlying2 (hval 1 2 v1 rfl rfl) h1
  obtain ⟨a2, rfl, rfl, rfl, w2⟩ := open_int Try.underlying3 (hval 2 3 v2 rfl rfl) h2
  clear hA0 hval0 hsz0
  refine (wafter_walk W v0 l0 y0 b0 a1 w1 a2 w2).mono fun e W' ⟨he, bel⟩ => ?_
  subst he
  exact ⟨_, rfl, _, _, _, [], _, [], hW', trodAll_mk1 (shut_bool Try.underlying4 _), (trodAll_cons_mk (Below.trod laidOut (by kernel_rfl) (of_decide_eq_true (by kernel_rfl)) k0 bel lt0) (trodAll_cons_mk (shut_int Try.underlying2 w1) (trodAll_cons_mk (shut_int Try.underlying3 w2) trodAll_mk0))), rfl, bel.frame _, fun h => by cases h⟩

theorem over : Rows.walAfterRow.holds Try.pinned (OpenSpec.ofChange Rows.walAfterSpec) :=
  OpenClaim.holds_of_wide 5 Try.f5 rfl rfl rfl rfl rfl rfl rfl ⟨rfl, rfl, rfl, rfl, rfl⟩ rfl rfl rfl rfl rfl (by kernel_rfl) Try.func5 (by kernel_rfl)
    (of_decide_eq_true (by kernel_rfl)) (by unfold Func.isWrapper; first | (rw [if_pos (by decide +kernel)]; kernel_rfl) | (rw [if_neg (by decide +kernel)]; exact ⟨rfl, rfl⟩))
    (fun os started H enc _ => lifted os started H enc)

theorem proved : Rows.WalAfterSaid := over
end Go.Proofs.Ytndcblhkjhjcdaa.walAfter
