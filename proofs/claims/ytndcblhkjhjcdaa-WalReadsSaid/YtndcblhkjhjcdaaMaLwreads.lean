/- WalReads: from the walk to the statement. For every input the law answers true and leaves its arguments as they were. -/
import Derived.Test.YtndcblhkjhjcdaaMa13
import Derived.Test.YtndcblhkjhjcdaaMa14

/- WalReads: any bytes are the batches that the chapter says. -/
namespace Go.Proofs.Ytndcblhkjhjcdaa
open Go.ChangeShapes Go.WideShapes Go.ChangeAt Go.RowKit

set_option maxRecDepth 100000 in
set_option maxHeartbeats 8000000 in
theorem wreads_walk (w : World) (v : Value) (l : List Nat) (hl : ∀ b ∈ l, b < 256) (hv : Bs w 0 w.heap.size v l) :
    Calls Try.prog 4 #[v] w fun e w' => e = .returned (.bool true) ∧ Below w.heap.size w w' := by
  have HV := Lib.hid hv
  have HL := Lib.hid hl
  obtain ⟨A, c, rfl, q1, q2, q3, _⟩ := hv
  by_cases hbig : 60000 < l.length
  · have hd : decide ((60000 : Int) < (l.length : Int)) = true := by simp; omega
    have hd2 : decide (60000 < l.length) = true := by simp; omega
    clear hbig q1 q2 q3 hl
    go_enter Try.func4, Try.ntmps4
    go_wp2_with fail
    refine (wknown_any w).mono ?_
    rintro e w3 ⟨rfl, hb⟩
    go_wp2_with fail
    go_ret
    exact ⟨rfl, hb⟩
  · have hd : decide ((60000 : Int) < (l.length : Int)) = false := by simp; omega
    have hd2 : decide (60000 < l.length) = false := by simp; omega
    have HLEN := Lib.hid (show l.length ≤ 60000 by omega)
    have hl5 : (l.length : Int) ≤ 60000 := by omega
    obtain ⟨L, hL⟩ : ∃ L, L = l ++ [119] := ⟨_, rfl⟩
    have HLL : Hid (L.length = l.length + 1) := by rw [hL]; simp [Hid]
    have HLT : Hid (L.take l.length = l) := by rw [hL]; unfold Hid; rw [List.take_left]
    have HE := Lib.hid hL
    obtain ⟨R, hR⟩ := batl_some (Fm.frs l 0) 0
    have HR := Lib.hid hR
    clear hbig q1 q2 q3 hl hL hR
    go_enter Try.func4, Try.ntmps4
    go_wp2_with (at_builtin; refine wpList_addn rfl (.const (.slice none 0 0)) (.tmp 14) rfl w.heap.size _ [] rfl (Own.nil _ w) _ _ _ l rfl HV.out l l.length rfl rfl ?l1 (Nat.le_refl _) ?_)
    case l1 => have := HLEN.out; omega
    intro A1 c1 w1 ho hb
    have HX1 : Hid (Ext w w1) := hb w (Below.refl _ _)
    have HO1 := Lib.hid ho
    have HLIT : Hid (Bs (w1.alloc (.cells #[.int .u8 119] 5)) 0 (w1.alloc (.cells #[.int .u8 119] 5)).heap.size (.slice (some ⟨w1.heap.size, 0, none⟩) 1 1) [119]) := Own.bs (own_lit w1 119)
    clear ho hb
    go_wp2_with (at_builtin; refine wpList_addn rfl (.tmp 15) (.tmp 16) rfl w.heap.size _ l rfl (HO1.out.below (ext_alloc _ _)) _ _ _ [119] rfl HLIT.out L (l.length + 1) HE.out.symm HLL.out ?l2 (Nat.le_trans HX1.out.size (by simp)) ?_)
    case l2 => have := HLEN.out; omega
    intro A2 c2 w2 ho hb
    have HX2 : Hid (Ext w w2) := hb w (Below.alloc HX1.out HX1.out.size _)
    have HO2 := Lib.hid ho
    have hc2 : l.length + 1 ≤ c2 := by have := HO2.out.bs; obtain ⟨_, _, he, h1, _⟩ := this; injection he with _ x y; have := HLL.out; omega
    clear ho hb
    have HPB : Hid (∀ u, Ext w2 u → Bs u 0 u.heap.size (.slice A2 l.length c2) l) := by
      intro u hu
      have h := (show Bs u 0 u.heap.size (.slice A2 (l.length + 1) c2) L from Own.bs (HO2.out.below hu)).head (k := l.length) (by omega)
      rwa [HLT.out] at h
    have HB1 := Lib.hid (batches_any (HPB.out w2 (Ext.refl _)) (Nat.le_refl _) HL.out (by have := HLEN.out; omega) HR.out)
    obtain ⟨E, hE⟩ : ∃ E, E = endAt 0 R R.length := ⟨_, rfl⟩
    obtain ⟨Z, hZ⟩ : ∃ Z, Z = wellB l R := ⟨_, rfl⟩
    unfold BatsAns at HB1
    rw [← hE, ← hZ] at HB1
    have HEZ := Lib.hid (And.intro hE hZ)
    clear hE hZ
    go_wp2_with fail
    refine HB1.out.mono ?_
    rintro e w3 ⟨X, V, q, hmap, rfl, hbts, hx⟩
    have HM := Lib.hid hmap
    have HT := Lib.hid hbts
    have HX3 : Hid (Ext w2 w3) := hx
    have HB2 := Lib.hid (rbatches_any (HV.out.below (Ext.trans HX2.out HX3.out) (Nat.le_refl _)) (Ext.trans HX2.out HX3.out).size HL.out (by have := HLEN.out; omega) HR.out)
    unfold RBatsAns at HB2
    rw [← HEZ.out.1, ← HEZ.out.2] at HB2
    clear hmap hbts hx HB1
    go_wp2_with fail
    refine HB2.out.mono ?_
    rintro e w4 ⟨X', V', q', hmap, rfl, hbts, hx⟩
    have HM' := Lib.hid hmap
    have HT' := Lib.hid hbts
    have HX4 : Hid (Ext w3 w4) := hx
    have HXL : Hid (X.length ≤ 1000000000000) := by
      have h1 := congrArg List.length HM.out
      rw [List.length_map, List.length_map] at h1
      have h2 := HR.out.le
      have h3 := Fm.frs_len l
      have h4 := HLEN.out
      unfold Hid; omega
    have eE : ((E : Int) == (E : Int)) = true := by simp
    have eZ : (Z == Z) = true := by simp
    clear hmap hbts hx HB2
    go_wp2_with fail
    refine (same13_any (c := q) (c2 := q') (HT.out.below HX4.out (Nat.le_refl _)) HT'.out HX4.out.size (Nat.le_refl _) HXL.out).mono ?_
    rintro e w5 ⟨z, hz, rfl, hx⟩
    have hz2 : z = true := hz.2 (HM.out.trans HM'.out.symm)
    subst hz2
    have HX5 : Hid (Ext w2 w5) := Ext.trans HX3.out (Ext.trans HX4.out hx)
    clear hz hx
    have cvo := Fm.cv (show Bs w5 0 w5.heap.size (.slice A2 (l.length + 1) c2) L from Own.bs (HO2.out.below HX5.out))
    have cvl := Fm.cv (HV.out.below (Ext.trans HX2.out HX5.out) (Nat.le_refl _))
    have hts : ((tx l).size : Int) ≤ 60000 := by rw [tx_size]; exact hl5
    have hts2 : (tx l).size ≤ 60000 := by rw [tx_size]; exact HLEN.out
    have heq : ((tx L).toList == (tx l ++ ({ data := #[119] } : ByteArray)).toList) = true := by rw [HE.out]; exact tx_snoc l
    go_wp2_with fail
    refine (wknown_any w5).mono ?_
    rintro e w7 ⟨rfl, hb⟩
    have HX7 : Hid (Ext w w7) := Ext.trans HX2.out (Ext.trans HX5.out hb)
    clear hb
    go_wp2_with fail
    go_ret
    exact ⟨rfl, HX7.out⟩
end Go.Proofs.Ytndcblhkjhjcdaa

/- WalReads: from the walk to the statement. For every input the law answers true and leaves its arguments as they were. -/
namespace Go.Proofs.Ytndcblhkjhjcdaa.walReads
open Go.ChangeShapes Go.WideShapes Go.ChangeAt Go.RowKit
set_option linter.unusedVariables false

set_option maxRecDepth 100000 in
theorem lifted (os : Os) (started : os.Started) (H : Type) (enc : TypeId × Value → H) :
    ReturnsInHanded {} Try.checked os 4 .any (Rows.walReadsSpec.pre6 enc Try.prog Try.f4 Rows.walReadsRow.domain false) (Rows.walReadsSpec.post enc Try.prog Try.f4 false true false false) := by
  refine returnsInHanded_of_change_sized (C := Try.checked) own started (by kernel_rfl) Try.func4
    (ChangeSpec.witness6 (enc := enc) (C := Try.checked) false ⟨#[], #[.slice none 0 0], []⟩ 8 (by kernel_rfl) (by kernel_rfl) (by kernel_rfl) (by kernel_rfl)) ?_
  intro W base args ds gs before hval0 hW hcnd hsz0 _
  have hsz : (DataW.weightsEach Try.prog (Try.f4.params.toList ++ Rows.walReadsSpec.plain.varTypes Try.prog) (ds ++ gs)).all (· ≤ reachBytes) = true := hsz0
  have hval : ∀ (j : Nat) t v, Try.f4.params[j]? = some t → args[j]? = some v → Value.okWide Try.prog W .any base t v := hval0
  have hW' := hW
  obtain ⟨p, q, hA0, hV, rfl, hfz, hnd⟩ := hW
  have hA : DataW.TrodAll enc Try.prog W 0 (fun _ => true) true Try.f4.params.toList args.toList ds p := hA0
  rw [Try.params4] at hA hval hsz
  obtain ⟨v0, vs0, d0, ds0, p0, q0, hargs, rfl, rfl, h0, r0⟩ := trodAll_cons hA
  obtain ⟨rfl, rfl, rfl⟩ := trodAll_nil r0
  obtain rfl : args = #[v0] := by cases args; simp_all
  obtain ⟨rfl, rfl⟩ := trodVars_none hV
  have k0 := h0
  have lt0 : ∀ x ∈ p0, x.block < W.heap.size := by obtain ⟨m, hm⟩ := k0; exact DataW.trod_lt m _ _ _ hm
  obtain ⟨l0, y0, b0⟩ := open_bytes (hval 0 29 v0 rfl rfl) h0
  clear hA0 hval0 hsz0
  refine (wreads_walk W v0 l0 y0 b0).mono fun e W' ⟨he, bel⟩ => ?_
  subst he
  exact ⟨_, rfl, _, _, _, [], _, [], hW', trodAll_mk1 (shut_bool Try.underlying4 _), (trodAll_cons_mk (Below.trod laidOut (by kernel_rfl) (of_decide_eq_true (by kernel_rfl)) k0 bel lt0) trodAll_mk0), rfl, bel.frame _, fun h => by cases h⟩

theorem over : Rows.walReadsRow.holds Try.pinned (OpenSpec.ofChange Rows.walReadsSpec) :=
  OpenClaim.holds_of_wide 4 Try.f4 rfl rfl rfl rfl rfl rfl rfl ⟨rfl, rfl, rfl, rfl, rfl⟩ rfl rfl rfl rfl rfl (by kernel_rfl) Try.func4 (by kernel_rfl)
    (of_decide_eq_true (by kernel_rfl)) (by unfold Func.isWrapper; first | (rw [if_pos (by decide +kernel)]; kernel_rfl) | (rw [if_neg (by decide +kernel)]; exact ⟨rfl, rfl⟩))
    (fun os started H enc _ => lifted os started H enc)

theorem proved : Rows.WalReadsSaid := over
end Go.Proofs.Ytndcblhkjhjcdaa.walReads
