/- WalSame: from the walk to the statement. For every input the law answers true and leaves its arguments as they were. -/
import Derived.Test.YtndcblhkjhjcdaaMa13
import Derived.Test.YtndcblhkjhjcdaaMa15
import Derived.Test.YtndcblhkjhjcdaaMa14

/- WalSame: two batches are the same just if places and entries are. -/
namespace Go.Proofs.Ytndcblhkjhjcdaa
open Go.ChangeShapes Go.WideShapes Go.ChangeAt Go.RowKit
attribute [local go_sem] Oper.semAt_some

theorem Bins.two {w : World} {hi g : Nat} {x y : Bx} (h : w.heap[g]? = some (.cells #[.int .i64 x.idx, .slice x.A x.L.length x.c, .int .i64 y.idx, .slice y.A y.L.length y.c] 24 (0, 0))) (hx : Bi w 0 hi x) (hy : Bi w 0 hi y) (hhi : hi ≤ w.heap.size) : Bins w 0 w.heap.size (some ⟨g, 0, none⟩) [x, y] := by
  have wide : ∀ {z : Bx}, Bi w 0 hi z → Bi w 0 w.heap.size z := fun h => ⟨h.es.wide (Nat.le_refl _) hhi, h.i1, h.i2, h.ln⟩
  refine ⟨.inr ⟨g, 0, rfl, Nat.zero_le _, (Array.getElem?_eq_some_iff.1 h).1, fun i u hu => ?_⟩, fun z hz => ?_⟩
  · rw [Nat.zero_add]
    exact cell_of h (by simpa [brow, bcells] using hu)
  · simp only [List.mem_cons, List.not_mem_nil, or_false] at hz
    rcases hz with rfl | rfl
    · exact wide hx
    · exact wide hy

set_option maxRecDepth 100000 in
set_option maxHeartbeats 8000000 in
theorem wsame_walk (w : World) (x : Bx) (hx : Bi w 0 w.heap.size x) (kx : BxKv x) (y : Bx) (hy : Bi w 0 w.heap.size y) (ky : BxKv y) :
    Calls Try.prog 6 #[x.val, y.val] w fun e w' => e = .returned (.bool true) ∧ Below w.heap.size w w' := by
  obtain ⟨xi, xA, xc, xL⟩ := x
  obtain ⟨yi, yA, yc, yL⟩ := y
  have HX := Lib.hid hx
  have HY := Lib.hid hy
  have HK := Lib.hid (And.intro kx ky)
  clear hx hy kx ky
  obtain ⟨w0, hw0⟩ : ∃ w0, w0 = (w.alloc (.cells #[.int .i64 xi, .slice xA xL.length xc] 24)).alloc (.cells #[.int .i64 yi, .slice yA yL.length yc] 24) := ⟨_, rfl⟩
  have HX0 : Hid (Ext w w0) := by rw [hw0]; exact Ext.trans (ext_alloc _ _) (ext_alloc _ _)
  have HB0 : Hid (w0.heap[w.heap.size]? = some (.cells #[.int .i64 xi, .slice xA xL.length xc] 24 (0, 0))) := by rw [hw0]; exact ext_heap (ext_alloc _ _) (heap_at _ _ rfl)
  have HB1 : Hid (w0.heap[w.heap.size + 1]? = some (.cells #[.int .i64 yi, .slice yA yL.length yc] 24 (0, 0))) := by rw [hw0]; exact heap_at _ _ (by simp)
  obtain ⟨w1, hw1⟩ : ∃ w1, w1 = w0.alloc (.cells #[.int .i64 xi, .slice xA xL.length xc, .int .i64 yi, .slice yA yL.length yc] 24) := ⟨_, rfl⟩
  have HX1 : Hid (Ext w0 w1) := by rw [hw1]; exact ext_alloc _ _
  have HC1 : Hid (w1.heap[w0.heap.size]? = some (.cells #[.int .i64 xi, .slice xA xL.length xc, .int .i64 yi, .slice yA yL.length yc] 24 (0, 0))) := by rw [hw1]; exact heap_at _ _ rfl
  have HX01 : Hid (Ext w w1) := Ext.trans HX0.out HX1.out
  have hin : Bins w1 0 w1.heap.size (some ⟨w0.heap.size, 0, none⟩) [⟨xi, xA, xc, xL⟩, ⟨yi, yA, yc, yL⟩] :=
    Bins.two (x := ⟨xi, xA, xc, xL⟩) (y := ⟨yi, yA, yc, yL⟩) HC1.out (HX.out.below HX01.out (Nat.le_refl _)) (HY.out.below HX01.out (Nat.le_refl _)) HX01.out.size
  have HMU := Lib.hid (lmuch_any (c := 2) hin (Nat.le_refl _) (by simp) (by
    intro z hz
    simp only [List.mem_cons, List.not_mem_nil, or_false] at hz
    rcases hz with rfl | rfl
    · exact HK.out.1
    · exact HK.out.2))
  clear hin
  unfold Bx.val
  dsimp only
  have k0 := cell_of HB0.out (k := 0) rfl
  have k1 := cell_of HB0.out (k := 1) rfl
  have m0 := cell_of HB1.out (k := 0) rfl
  have m1 := cell_of HB1.out (k := 1) rfl
  go_enter Try.func6, Try.ntmps6
  go_upto_region 1 with (fail)
  rw [← hw0]
  clear hw0
  go_wp2_with fail
  rw [← hw1]
  clear hw1
  refine HMU.out.mono ?_
  rintro e w2 ⟨z, hz, rfl, hx2⟩
  have HZ := Lib.hid hz
  have HX2 : Hid (Ext w w2) := Ext.trans HX01.out hx2
  have HB02 := Lib.hid (ext_heap (Ext.trans HX1.out hx2) HB0.out)
  have HB12 := Lib.hid (ext_heap (Ext.trans HX1.out hx2) HB1.out)
  clear hz hx2 k0 k1 m0 m1 HMU
  cases z with
  | true =>
    go_wp2_with fail
    refine (wknown_any w2).mono ?_
    rintro e w3 ⟨rfl, hb⟩
    have HX3 : Hid (Ext w w3) := Ext.trans HX2.out hb
    clear hb
    go_wp2_with fail
    go_ret
    exact ⟨rfl, HX3.out⟩
  | false =>
    have hnm := HZ.out rfl
    have HBX : Hid (∀ u, Ext w2 u → Bm u 0 u.heap.size ⟨xi, xA, xc, xL⟩ ∧ Bm u 0 u.heap.size ⟨yi, yA, yc, yL⟩) := fun u hu => by
      have hx := Ext.trans HX2.out hu
      exact ⟨((HX.out.bm (hnm.2 _ (by simp)).1).ext hx (Nat.le_refl _)).wide (Nat.le_refl _) hx.size, ((HY.out.bm (hnm.2 _ (by simp)).1).ext hx (Nat.le_refl _)).wide (Nat.le_refl _) hx.size⟩
    obtain ⟨z, hz⟩ : ∃ z : Bool, z = true ↔ (⟨xi, xA, xc, xL⟩ : Bx).bat = (⟨yi, yA, yc, yL⟩ : Bx).bat := by
      by_cases h : (⟨xi, xA, xc, xL⟩ : Bx).bat = (⟨yi, yA, yc, yL⟩ : Bx).bat
      · exact ⟨true, by simp [h]⟩
      · exact ⟨false, by simp [h]⟩
    have HZ2 := Lib.hid hz
    have k0 := cell_of HB02.out (k := 0) rfl
    have k1 := cell_of HB02.out (k := 1) rfl
    have m0 := cell_of HB12.out (k := 0) rfl
    have m1 := cell_of HB12.out (k := 1) rfl
    clear hnm hz
    go_upto_region 3 with (fail)
    refine flow (by kernel_rfl) [Is (.agg #[.int .i64 xi, .slice xA xL.length xc]), Is (.agg #[.int .i64 yi, .slice yA yL.length yc]), Is (.bool z), Is (.agg #[.int .i64 xi, .slice xA xL.length xc]), LitB ⟨xi, xA, xc, xL⟩, Is (.agg #[.int .i64 yi, .slice yA yL.length yc]), LitB ⟨yi, yA, yc, yL⟩, Is (.bool z), Is (.bool true), Is (.bool true), Is (.agg #[.int .i64 xi, .slice xA xL.length xc]), Is (.agg #[.int .i64 xi, .slice xA xL.length xc]), Is (.bool true), Is (.bool true), Is (.bool true), Is (.bool true), Is (.bool true), Is (.bool true)] (by kernel_rfl) (by kernel_rfl) ?mono (fun f1 => ?obl) ?fin
    case mono =>
      simp only [List.forall_mem_cons, List.not_mem_nil, false_imp_iff, implies_true, and_true]
      exact ⟨.is _, .is _, .is _, .is _, .litB _, .is _, .litB _, .is _, .is _, .is _, .is _, .is _, .is _, .is _, .is _, .is _, .is _, .is _⟩
    case fin =>
      intro g1 u hu hg
      simp only [puts, Act.put, List.setIfInBounds_toArray, List.set_cons_zero, List.set_cons_succ]
      have h17 : g1 17 = .bool true := hg 17 (by decide)
      rw [h17]
      have HXU : Hid (Ext w u) := Ext.trans HX2.out (Ext.trans (Ext.drew w2) hu)
      clear h17 hg hu k0 k1 m0 m1
      go_wp2_with fail
      go_ret
      exact ⟨rfl, HXU.out⟩
    case obl =>
      refine ⟨fun u hu hd => ?_, ?_⟩
      · have hu2 := Ext.trans (Ext.drew w2) hu
        have q0 := ext_cell hu2 k0
        have q1 := ext_cell hu2 k1
        go_simp
        exact ⟨Ext.refl _, rfl⟩
      refine ⟨fun u hu hd => ?_, ?_⟩
      · simp only [Act.put, List.setIfInBounds_toArray, List.set_cons_zero, List.set_cons_succ]
        have hu2 := Ext.trans (Ext.drew w2) hu
        have q0 := ext_cell hu2 m0
        have q1 := ext_cell hu2 m1
        go_simp
        exact ⟨Ext.refl _, rfl⟩
      refine ⟨fun u hu hd => ?_, ?_⟩
      · simp only [Act.put, List.setIfInBounds_toArray, List.set_cons_zero, List.set_cons_succ]
        have e0 : f1 0 = .agg #[.int .i64 xi, .slice xA xL.length xc] := hd 0 (by kernel_rfl)
        have e1 : f1 1 = .agg #[.int .i64 yi, .slice yA yL.length yc] := hd 1 (by kernel_rfl)
        have hu2 := Ext.trans (Ext.drew w2) hu
        have hb := HBX.out u hu2
        have hm := wsame_any hb.1 hb.2 (Nat.le_refl _) (Nat.le_refl _)
        unfold Bx.val at hm
        have HM := Lib.hid hm
        clear hm hb
        go_simp
        refine HM.out.mono ?_
        rintro e9 w9 ⟨z9, hz9, rfl, hx9⟩
        obtain rfl : z9 = z := Bool.eq_iff_iff.2 (hz9.trans HZ2.out.symm)
        exact ⟨_, rfl, hx9, rfl⟩
      refine ⟨fun u hu hd => ?_, ?_⟩
      · simp only [Act.put, List.setIfInBounds_toArray, List.set_cons_zero, List.set_cons_succ]
        have hu2 := Ext.trans (Ext.drew w2) hu
        have q0 := ext_cell hu2 k0
        have q1 := ext_cell hu2 k1
        go_simp
        exact ⟨Ext.refl _, rfl⟩
      refine ⟨fun u hu hd => ?_, ?_⟩
      · simp only [Act.put, List.setIfInBounds_toArray, List.set_cons_zero, List.set_cons_succ]
        have e3 : f1 3 = .agg #[.int .i64 xi, .slice xA xL.length xc] := hd 3 (by kernel_rfl)
        clear hd
        go_simp
        exact ⟨ext_alloc _ _, _, rfl, heap_at _ _ rfl⟩
      refine ⟨fun u hu hd => ?_, ?_⟩
      · simp only [Act.put, List.setIfInBounds_toArray, List.set_cons_zero, List.set_cons_succ]
        have hu2 := Ext.trans (Ext.drew w2) hu
        have q0 := ext_cell hu2 m0
        have q1 := ext_cell hu2 m1
        go_simp
        exact ⟨Ext.refl _, rfl⟩
      refine ⟨fun u hu hd => ?_, ?_⟩
      · simp only [Act.put, List.setIfInBounds_toArray, List.set_cons_zero, List.set_cons_succ]
        have e5 : f1 5 = .agg #[.int .i64 yi, .slice yA yL.length yc] := hd 5 (by kernel_rfl)
        clear hd
        go_simp
        exact ⟨ext_alloc _ _, _, rfl, heap_at _ _ rfl⟩
      refine ⟨fun u hu hd => ?_, ?_⟩
      · simp only [Act.put, List.setIfInBounds_toArray, List.set_cons_zero, List.set_cons_succ]
        obtain ⟨g, e4, hg⟩ := (show LitB ⟨xi, xA, xc, xL⟩ (f1 4) u from hd 4 (by kernel_rfl))
        obtain ⟨g2, e6, hg2⟩ := (show LitB ⟨yi, yA, yc, yL⟩ (f1 6) u from hd 6 (by kernel_rfl))
        have hu2 := Ext.trans (Ext.drew w2) hu
        have hb := HBX.out u hu2
        have HM := Lib.hid (same13_any (c := 1) (c2 := 1) (Bts.one (x := ⟨xi, xA, xc, xL⟩) (cell_of hg (k := 0) rfl) (cell_of hg (k := 1) rfl) hb.1 (Nat.le_refl _)) (Bts.one (x := ⟨yi, yA, yc, yL⟩) (cell_of hg2 (k := 0) rfl) (cell_of hg2 (k := 1) rfl) hb.2 (Nat.le_refl _)) (Nat.le_refl _) (Nat.le_refl _) (by simp))
        clear hd hg hg2 hb
        go_simp
        refine HM.out.mono ?_
        rintro e9 w9 ⟨z9, hz9, rfl, hx9⟩
        obtain rfl : z9 = z := Bool.eq_iff_iff.2 ((hz9.trans (by simp)).trans HZ2.out.symm)
        exact ⟨_, rfl, hx9, rfl⟩
      refine ⟨fun u hu hd => ?_, ?_⟩
      · simp only [Act.put, List.setIfInBounds_toArray, List.set_cons_zero, List.set_cons_succ]
        have e2 : f1 2 = .bool z := hd 2 (by kernel_rfl)
        have e7 : f1 7 = .bool z := hd 7 (by kernel_rfl)
        clear hd
        go_simp
        exact ⟨Ext.refl _, by simp [Is, fact, kept]⟩
      refine ⟨fun u hu hd => ?_, ?_⟩
      · simp only [Act.put, List.setIfInBounds_toArray, List.set_cons_zero, List.set_cons_succ]
        have e8 : f1 8 = .bool true := hd 8 (by kernel_rfl)
        go_simp
        exact ⟨Ext.refl _, rfl⟩
      refine ⟨fun u hu hd => ?_, ?_⟩
      · simp only [Act.put, List.setIfInBounds_toArray, List.set_cons_zero, List.set_cons_succ]
        have e9 : f1 9 = .bool true := hd 9 (by kernel_rfl)
        have hu2 := Ext.trans (Ext.drew w2) hu
        have q0 := ext_cell hu2 k0
        have q1 := ext_cell hu2 k1
        go_simp
        exact ⟨Ext.refl _, rfl⟩
      refine ⟨fun u hu hd => ?_, ?_⟩
      · simp only [Act.put, List.setIfInBounds_toArray, List.set_cons_zero, List.set_cons_succ]
        have e9 : f1 9 = .bool true := hd 9 (by kernel_rfl)
        have hu2 := Ext.trans (Ext.drew w2) hu
        have q0 := ext_cell hu2 k0
        have q1 := ext_cell hu2 k1
        go_simp
        exact ⟨Ext.refl _, rfl⟩
      refine ⟨fun u hu hd => ?_, ?_⟩
      · simp only [Act.put, List.setIfInBounds_toArray, List.set_cons_zero, List.set_cons_succ]
        have e9 : f1 9 = .bool true := hd 9 (by kernel_rfl)
        have e10 : f1 10 = .agg #[.int .i64 xi, .slice xA xL.length xc] := hd 10 (by kernel_rfl)
        have e11 : f1 11 = .agg #[.int .i64 xi, .slice xA xL.length xc] := hd 11 (by kernel_rfl)
        have hu2 := Ext.trans (Ext.drew w2) hu
        have hb := HBX.out u hu2
        have hm := wsame_any hb.1 hb.1 (Nat.le_refl _) (Nat.le_refl _)
        unfold Bx.val at hm
        have HM := Lib.hid hm
        clear hm hb
        go_simp
        refine HM.out.mono ?_
        rintro e9 w9 ⟨z9, hz9, rfl, hx9⟩
        obtain rfl : z9 = true := hz9.2 rfl
        exact ⟨_, rfl, hx9, rfl⟩
      refine ⟨fun u hu hd => ?_, ?_⟩
      · simp only [Act.put, List.setIfInBounds_toArray, List.set_cons_zero, List.set_cons_succ]
        have e9 : f1 9 = .bool true := hd 9 (by kernel_rfl)
        have e12 : f1 12 = .bool true := hd 12 (by kernel_rfl)
        go_simp
        exact ⟨Ext.refl _, rfl⟩
      refine ⟨fun u hu hd => ?_, ?_⟩
      · simp only [Act.put, List.setIfInBounds_toArray, List.set_cons_zero, List.set_cons_succ]
        have e13 : f1 13 = .bool true := hd 13 (by kernel_rfl)
        go_simp
        exact ⟨Ext.refl _, rfl⟩
      refine ⟨fun u hu hd => ?_, ?_⟩
      · simp only [Act.put, List.setIfInBounds_toArray, List.set_cons_zero, List.set_cons_succ]
        have e14 : f1 14 = .bool true := hd 14 (by kernel_rfl)
        clear hd
        go_simp
        refine (wknown_any u).mono ?_
        rintro e9 w9 ⟨rfl, hx9⟩
        exact ⟨_, rfl, hx9, rfl⟩
      refine ⟨fun u hu hd => ?_, ?_⟩
      · simp only [Act.put, List.setIfInBounds_toArray, List.set_cons_zero, List.set_cons_succ]
        have e14 : f1 14 = .bool true := hd 14 (by kernel_rfl)
        have e15 : f1 15 = .bool true := hd 15 (by kernel_rfl)
        go_simp
        exact ⟨Ext.refl _, rfl⟩
      refine ⟨fun u hu hd => ?_, ?_⟩
      · simp only [Act.put, List.setIfInBounds_toArray, List.set_cons_zero, List.set_cons_succ]
        have e16 : f1 16 = .bool true := hd 16 (by kernel_rfl)
        go_simp
        exact ⟨Ext.refl _, rfl⟩
      trivial
end Go.Proofs.Ytndcblhkjhjcdaa

/- WalSame: from the walk to the statement. For every input the law answers true and leaves its arguments as they were. -/
namespace Go.Proofs.Ytndcblhkjhjcdaa.walSame
open Go.ChangeShapes Go.WideShapes Go.ChangeAt Go.RowKit
set_option linter.unusedVariables false

set_option maxRecDepth 100000 in
theorem lifted (os : Os) (started : os.Started) (H : Type) (enc : TypeId × Value → H) :
    ReturnsInHanded {} Try.checked os 6 .any (Rows.walSameSpec.pre6 enc Try.prog Try.f6 Rows.walSameRow.domain false) (Rows.walSameSpec.post enc Try.prog Try.f6 false true false false) := by
  refine returnsInHanded_of_change_sized (C := Try.checked) own started (by kernel_rfl) Try.func6
    (ChangeSpec.witness6 (enc := enc) (C := Try.checked) false ⟨#[], #[.agg #[.int .i64 0, .slice none 0 0], .agg #[.int .i64 0, .slice none 0 0]], []⟩ 8 (by kernel_rfl) (by kernel_rfl) (by kernel_rfl) (by kernel_rfl)) ?_
  intro W base args ds gs before hval0 hW hcnd hsz0 _
  have hsz : (DataW.weightsEach Try.prog (Try.f6.params.toList ++ Rows.walSameSpec.plain.varTypes Try.prog) (ds ++ gs)).all (· ≤ reachBytes) = true := hsz0
  have hval : ∀ (j : Nat) t v, Try.f6.params[j]? = some t → args[j]? = some v → Value.okWide Try.prog W .any base t v := hval0
  have hW' := hW
  obtain ⟨p, q, hA0, hV, rfl, hfz, hnd⟩ := hW
  have hA : DataW.TrodAll enc Try.prog W 0 (fun _ => true) true Try.f6.params.toList args.toList ds p := hA0
  rw [Try.params6] at hA hval hsz
  obtain ⟨v0, vs0, d0, ds0, p0, q0, hargs, rfl, rfl, h0, r0⟩ := trodAll_cons hA
  obtain ⟨v1, vs1, d1, ds1, p1, q1, rfl, rfl, rfl, h1, r1⟩ := trodAll_cons r0
  obtain ⟨rfl, rfl, rfl⟩ := trodAll_nil r1
  obtain rfl : args = #[v0, v1] := by cases args; simp_all
  obtain ⟨rfl, rfl⟩ := trodVars_none hV
  have k0 := h0
  have lt0 : ∀ x ∈ p0, x.block < W.heap.size := by obtain ⟨m, hm⟩ := k0; exact DataW.trod_lt m _ _ _ hm
  obtain ⟨x0, rfl, m0, z0⟩ := open_batch (hval 0 24 v0 rfl rfl) h0 hsz (jj := 0) rfl rfl
  have k1 := h1
  have lt1 : ∀ x ∈ p1, x.block < W.heap.size := by obtain ⟨m, hm⟩ := k1; exact DataW.trod_lt m _ _ _ hm
  obtain ⟨x1, rfl, m1, z1⟩ := open_batch (hval 1 24 v1 rfl rfl) h1 hsz (jj := 1) rfl rfl
  clear hA0 hval0 hsz0
  refine (wsame_walk W x0 m0 z0 x1 m1 z1).mono fun e W' ⟨he, bel⟩ => ?_
  subst he
  exact ⟨_, rfl, _, _, _, [], _, [], hW', trodAll_mk1 (shut_bool Try.underlying4 _), (trodAll_cons_mk (Below.trod laidOut (by kernel_rfl) (of_decide_eq_true (by kernel_rfl)) k0 bel lt0) (trodAll_cons_mk (Below.trod laidOut (by kernel_rfl) (of_decide_eq_true (by kernel_rfl)) k1 bel lt1) trodAll_mk0)), rfl, bel.frame _, fun h => by cases h⟩

theorem over : Rows.walSameRow.holds Try.pinned (OpenSpec.ofChange Rows.walSameSpec) :=
  OpenClaim.holds_of_wide 6 Try.f6 rfl rfl rfl rfl rfl rfl rfl ⟨rfl, rfl, rfl, rfl, rfl⟩ rfl rfl rfl rfl rfl (by kernel_rfl) Try.func6 (by kernel_rfl)
    (of_decide_eq_true (by kernel_rfl)) (by unfold Func.isWrapper; first | (rw [if_pos (by decide +kernel)]; kernel_rfl) | (rw [if_neg (by decide +kernel)]; exact ⟨rfl, rfl⟩))
    (fun os started H enc _ => lifted os started H enc)

theorem proved : Rows.WalSameSaid := over
end Go.Proofs.Ytndcblhkjhjcdaa.walSame
