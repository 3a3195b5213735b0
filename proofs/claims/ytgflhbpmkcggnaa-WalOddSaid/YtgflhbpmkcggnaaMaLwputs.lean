/- WalPuts: from the walk to the statement. For every input the law answers true and leaves its arguments as they were. -/
import Derived.Test.YtgflhbpmkcggnaaMa14
import Derived.Test.YtgflhbpmkcggnaaMa12
import Derived.Test.YtgflhbpmkcggnaaMa15

/- WalPuts: every batch has the bytes that the chapter writes, or is refused; it stays. -/
namespace Go.Proofs.Ytgflhbpmkcggnaa
open Go.ChangeShapes Go.WideShapes Go.ChangeAt Go.RowKit
attribute [local go_sem] Oper.semAt_some

/-- An entry's bytes in a list are not many more than its key's and its value's. -/
theorem bform_small {l : List Nat} (h : l.length < 2097152) : (bytesForm l).length ≤ l.length + 3 := by
  have h1 := Go.Proofs.Ytgflhbpmkcggnaa.form_len 2 l.length (Nat.lt_of_lt_of_le h (by decide))
  unfold bytesForm
  rw [List.length_append]
  omega
theorem Ent.form_small {e : Ent} (h : e.may = true) : (bytesForm e.form).length ≤ e.key.length + e.val.length + 15 := by
  have h0 := Ent.form_len h
  obtain ⟨h1, h2, h3, h4, h5⟩ := mayN_iff.1 h
  have hv : e.val.length ≤ 65536 := by rcases h5 with ⟨_, h6⟩ | ⟨_, h6⟩ <;> omega
  have a1 := bform_small (l := e.key) (by omega)
  have a2 := Go.Proofs.Ytgflhbpmkcggnaa.form_len 4 e.seq.toNat (Nat.lt_of_le_of_lt (m := 2147483647) (by omega) (by decide))
  have a3 := Go.Proofs.Ytgflhbpmkcggnaa.form_len 0 e.kind.toNat (by rcases h5 with ⟨h6, _⟩ | ⟨h6, _⟩ <;> rw [h6] <;> decide)
  have a4 := bform_small (l := e.val) (by omega)
  have a5 := bform_small (l := e.form) (by omega)
  have a6 : e.form.length ≤ e.key.length + e.val.length + 12 := by
    unfold Ent.form
    split <;> simp only [List.length_append, List.length_nil] <;> omega
  omega
theorem lf_small : ∀ {L : List (Ent × Hd)}, (∀ e ∈ L.map Prod.fst, e.may = true) → (lf (L.map Prod.fst)).length ≤ 16 * sumE L
  | [], _ => by simp [lf]
  | p :: L, h => by
    have ih := lf_small (L := L) fun e he => h e (by rw [List.map_cons]; exact List.mem_cons_of_mem _ he)
    have h1 := h p.1 (by simp)
    have h2 := Ent.form_small h1
    have h3 : sumE (p :: L) = 1 + p.1.key.length + p.1.val.length + sumE L := by simp [sumE]
    rw [List.map_cons, lf_cons, List.length_append]
    omega
/-- A batch of few bytes has a form that a frame may be around. -/
theorem Bx.form_small {x : Bx} (hm : x.bat.may) (h : sumE x.L ≤ 60000) : x.bat.form.length ≤ 1048576 := by
  have h1 := lf_small (L := x.L) hm.2.2.2
  have h2 := (bytesForm_len (lform_u64 hm.2.2.2 hm.2.2.1)).1
  have h3 := form_len64 (Bat.may_u64 hm)
  have h4 : (lform x.bat.es).length = (Go.Proofs.Ytgflhbpmkcggnaa.form x.bat.es.length).length + (lf (x.L.map Prod.fst)).length := by
    unfold lform; rw [List.length_append]; rfl
  have h5 := form_len64 (n := x.bat.es.length) ⟨by have := hm.2.2.1; omega⟩
  unfold Bat.form
  rw [List.length_append]
  omega
theorem sumE_len : ∀ (L : List (Ent × Hd)), L.length ≤ sumE L
  | [] => by simp
  | p :: L => by have := sumE_len L; simp [sumE] at *; omega
theorem sumE_each : ∀ {L : List (Ent × Hd)} {p : Ent × Hd}, p ∈ L → p.1.key.length + p.1.val.length < sumE L
  | q :: L, p, h => by
    have e : sumE (q :: L) = 1 + q.1.key.length + q.1.val.length + sumE L := by simp [sumE]
    rcases List.mem_cons.1 h with rfl | h
    · omega
    · have := sumE_each h
      omega

theorem Bins.single {w : World} {hi g : Nat} {x : Bx} (h : w.heap[g]? = some (.cells #[.int .i64 x.idx, .slice x.A x.L.length x.c] 24 (0, 0))) (hx : Bi w 0 hi x) (hhi : hi ≤ w.heap.size) : Bins w 0 w.heap.size (some ⟨g, 0, none⟩) [x] := by
  refine ⟨.inr ⟨g, 0, rfl, Nat.zero_le _, (Array.getElem?_eq_some_iff.1 h).1, fun i u hu => ?_⟩, fun z hz => ?_⟩
  · rw [Nat.zero_add]
    exact cell_of h (by simpa [brow, bcells] using hu)
  · rw [List.mem_singleton] at hz
    subst hz
    exact ⟨hx.es.wide (Nat.le_refl _) hhi, hx.i1, hx.i2, hx.ln⟩
/-- The copy of a list, in a slot. -/
def CpF (B : Nat) (L : List (Ent × Hd)) (v : Value) (u : World) : Prop := ∃ A c R, v = .slice A R.length c ∧ R.map Prod.fst = L.map Prod.fst ∧ Got B (.slice A R.length c) R u
def CbF (B : Nat) (i : Int) (L : List (Ent × Hd)) (v : Value) (u : World) : Prop := ∃ A c R, v = .agg #[.int .i64 i, .slice A R.length c] ∧ R.map Prod.fst = L.map Prod.fst ∧ Got B (.slice A R.length c) R u
def BoxB (B : Nat) (v : Value) (u : World) : Prop := ∃ g, v = .pointer (some ⟨g, 0, none⟩) ∧ B ≤ g ∧ u.heap[g]? = some (.cells #[.int .i64 0, .slice none 0 0] 24 (0, 0))
theorem Mono.cpF (B : Nat) (L : List (Ent × Hd)) : Mono (CpF B L) := fun _ _ _ ⟨A, c, R, h0, h1, h2⟩ hx => ⟨A, c, R, h0, h1, h2.below hx⟩
theorem Mono.cb (B : Nat) (i : Int) (L : List (Ent × Hd)) : Mono (CbF B i L) := fun _ _ _ ⟨A, c, R, h0, h1, h2⟩ hx => ⟨A, c, R, h0, h1, h2.below hx⟩
theorem Mono.boxb (B : Nat) : Mono (BoxB B) := fun _ _ _ ⟨g, h1, h2, h3⟩ hx => ⟨g, h1, h2, ext_heap hx h3⟩
/-- The box b is filled with a copy. -/
def FillB (B : Nat) (i : Int) (L : List (Ent × Hd)) (b : Value) (u u' : World) : Prop :=
  Below B u u' ∧ ∃ g A c R, b = .pointer (some ⟨g, 0, none⟩) ∧ R.map Prod.fst = L.map Prod.fst ∧ Got B (.slice A R.length c) R u' ∧ u'.heap[g]? = some (.cells #[.int .i64 i, .slice A R.length c] 24 (0, 0))
theorem fillB_of {B g : Nat} {i : Int} {L R : List (Ent × Hd)} {u u' : World} {A : Option Addr} {c : Nat} (hg : B ≤ g) (hh : u.heap[g]? = some (.cells #[.int .i64 0, .slice none 0 0] 24 (0, 0))) (h1 : R.map Prod.fst = L.map Prod.fst) (h2 : Got B (.slice A R.length c) R u)
    (he : u' = (u.setCell ⟨g, 0, none⟩ (.int .i64 i)).setCell ⟨g, 1, none⟩ (.slice A R.length c)) : FillB B i L (.pointer (some ⟨g, 0, none⟩)) u u' := by
  have hlt := (Array.getElem?_eq_some_iff.1 hh).1
  have hc1 : Chg (fun k => k = g) u (u.setCell ⟨g, 0, none⟩ (.int .i64 i)) := Chg.setCell _ _ _ rfl
  have hc2 : Chg (fun k => k = g) (u.setCell ⟨g, 0, none⟩ (.int .i64 i)) u' := by rw [he]; exact Chg.setCell _ _ _ rfl
  have hc := hc1.trans hc2
  refine ⟨hc.below (fun k hk => by rw [hk]; exact hg) (Nat.le_trans hg (Nat.le_of_lt hlt)), g, A, c, R, rfl, h1, h2.chg hc (fun k hk => .inr fun cur t ht => ?_), ?_⟩
  · rw [hk, hh] at ht
    injection ht with ht
    injection ht with _ ht
    rw [← ht]
    exact ⟨by decide, by decide⟩
  · rw [he]
    have h1 := heap_setCell_same u g 0 _ _ (.int .i64 i) hh
    have h2 := heap_setCell_same _ g 1 _ _ (.slice A R.length c) h1
    rw [h2]; rfl

set_option maxRecDepth 100000 in
set_option maxHeartbeats 8000000 in
theorem wputs_walk (w : World) (x : Bx) (hx : Bi w 0 w.heap.size x) (kx : BxKv x) :
    Calls Try.prog 3 #[x.val] w fun e w' => e = .returned (.bool true) ∧ Below w.heap.size w w' := by
  obtain ⟨xi, xA, xc, xL⟩ := x
  have HX := Lib.hid hx
  have HK := Lib.hid kx
  clear hx kx
  obtain ⟨w0, hw0⟩ : ∃ w0, w0 = w.alloc (.cells #[.int .i64 xi, .slice xA xL.length xc] 24) := ⟨_, rfl⟩
  have HX0 : Hid (Ext w w0) := by rw [hw0]; exact ext_alloc _ _
  have HB0 : Hid (w0.heap[w.heap.size]? = some (.cells #[.int .i64 xi, .slice xA xL.length xc] 24 (0, 0))) := by rw [hw0]; exact heap_at _ _ rfl
  obtain ⟨w1, hw1⟩ : ∃ w1, w1 = w0.alloc (.cells #[.int .i64 xi, .slice xA xL.length xc] 24) := ⟨_, rfl⟩
  have HX1 : Hid (Ext w0 w1) := by rw [hw1]; exact ext_alloc _ _
  have HC1 : Hid (w1.heap[w0.heap.size]? = some (.cells #[.int .i64 xi, .slice xA xL.length xc] 24 (0, 0))) := by rw [hw1]; exact heap_at _ _ rfl
  have HX01 : Hid (Ext w w1) := Ext.trans HX0.out HX1.out
  have hin : Bins w1 0 w1.heap.size (some ⟨w0.heap.size, 0, none⟩) [⟨xi, xA, xc, xL⟩] :=
    Bins.single (x := ⟨xi, xA, xc, xL⟩) HC1.out (HX.out.below HX01.out (Nat.le_refl _)) HX01.out.size
  have HMU := Lib.hid (smuch_any (c := 1) hin (Nat.le_refl _) (by simp) (by
    intro z hz
    simp only [List.mem_cons, List.not_mem_nil, or_false] at hz
    subst hz
    exact HK.out))
  clear hin
  unfold Bx.val
  dsimp only
  have k0 := cell_of HB0.out (k := 0) rfl
  have k1 := cell_of HB0.out (k := 1) rfl
  go_enter Try.func3, Try.ntmps3
  go_upto_region 1 with (fail)
  rw [← hw0]
  clear hw0
  go_wp2_with fail
  rw [← hw1]
  clear hw1
  refine HMU.out.mono ?_
  rintro e w2 ⟨z, hz, rfl, hx2⟩
  have HZ := Lib.hid hz
  have HX2 : Hid (Ext w w2) := Ext.trans HX01.out hx2
  have HB02 := Lib.hid (ext_heap (Ext.trans HX1.out hx2) HB0.out)
  clear hz hx2 k0 k1 HMU
  cases z with
  | true =>
    go_wp2_with fail
    refine (wknown_any w2).mono ?_
    rintro e w3 ⟨rfl, hb⟩
    have HX3 : Hid (Ext w w3) := Ext.trans HX2.out hb
    clear hb
    go_wp2_with fail
    go_ret
    exact ⟨rfl, HX3.out⟩
  | false =>
    have HSE : Hid (sumE xL ≤ 60000) := by have := (HZ.out rfl).2; unfold Hid; simpa [sumX] using this
    have HNL : Hid (xL.length ≤ 60000) := Nat.le_trans (sumE_len xL) HSE.out
    have HKV : Hid (∀ p ∈ xL, p.1.key.length + p.1.val.length < 100000) := fun p hp => by have := sumE_each hp; have := HSE.out; omega
    have HBX : Hid (∀ u, Ext w2 u → Bm u 0 u.heap.size ⟨xi, xA, xc, xL⟩) := fun u hu => by
      have hx := Ext.trans HX2.out hu
      exact ((HX.out.bm HNL.out).ext hx (Nat.le_refl _)).wide (Nat.le_refl _) hx.size
    have k0 := cell_of HB02.out (k := 0) rfl
    have k1 := cell_of HB02.out (k := 1) rfl
    go_upto_region 3 with (fail)
    refine St.flow (by kernel_rfl) [Is (.pointer (some ⟨w.heap.size, 0, none⟩)), Is (.int .i64 xi), Is (.pointer (some ⟨w.heap.size, 1, none⟩)), Is (.slice xA xL.length xc), CpF w2.heap.size xL, CbF w2.heap.size xi xL, BoxB w2.heap.size, (fun _ _ => True)] 7 [] (fun f u u' => FillB w2.heap.size xi xL (f 6) u u') (by kernel_rfl) (by kernel_rfl) (by kernel_rfl) (by kernel_rfl) (fun _ _ => trivial) ?mono3 ?hS3 (fun f1 => ?obl3) ?fin3
    case mono3 =>
      simp only [List.forall_mem_cons, List.not_mem_nil, false_imp_iff, implies_true, and_true]
      exact ⟨.is _, .is _, .is _, .is _, .cpF _ _, .cb _ _ _, .boxb _, (fun _ _ _ h _ => h)⟩
    case hS3 =>
      intro f v i u u' hi hs
      simp only [List.not_mem_nil, or_false] at hi
      subst hi
      exact hs
    case obl3 =>
      refine ⟨fun u hu hd => ?_, ?_⟩
      · go_simp
        exact ⟨Ext.refl _, rfl⟩
      refine ⟨fun u hu hd => ?_, ?_⟩
      · simp only [Act.put, List.setIfInBounds_toArray, List.set_cons_zero, List.set_cons_succ]
        have e0 : f1 0 = .pointer (some ⟨w.heap.size, 0, none⟩) := hd 0 (by kernel_rfl)
        have hu2 := Ext.trans (Ext.drew w2) hu
        have q0 := ext_cell hu2 k0
        go_simp
        exact ⟨Ext.refl _, rfl⟩
      refine ⟨fun u hu hd => ?_, ?_⟩
      · simp only [Act.put, List.setIfInBounds_toArray, List.set_cons_zero, List.set_cons_succ]
        go_simp
        exact ⟨Ext.refl _, rfl⟩
      refine ⟨fun u hu hd => ?_, ?_⟩
      · simp only [Act.put, List.setIfInBounds_toArray, List.set_cons_zero, List.set_cons_succ]
        have e2 : f1 2 = .pointer (some ⟨w.heap.size, 1, none⟩) := hd 2 (by kernel_rfl)
        have hu2 := Ext.trans (Ext.drew w2) hu
        have q1 := ext_cell hu2 k1
        go_simp
        exact ⟨Ext.refl _, rfl⟩
      refine ⟨fun u hu hd => ?_, ?_⟩
      · simp only [Act.put, List.setIfInBounds_toArray, List.set_cons_zero, List.set_cons_succ]
        have e3 : f1 3 = .slice xA xL.length xc := hd 3 (by kernel_rfl)
        have hu2 := Ext.trans (Ext.drew w2) hu
        have HU := Lib.hid hu2
        have HC := Lib.hid (copies_any (c := xc) (HBX.out u hu2).es (Nat.le_refl _) (show xL.length ≤ 1000000 by have := HNL.out; omega) HKV.out)
        clear hd hu hu2
        go_simp
        refine HC.out.mono ?_
        rintro e9 w9 ⟨R, v, h1, rfl, h2, h3⟩
        obtain ⟨A, c, rfl⟩ := h2.slice
        exact ⟨_, rfl, h3, A, c, R, rfl, h1, h2.base HU.out.size⟩
      refine ⟨fun u hu hd => ?_, ?_⟩
      · simp only [Act.put, List.setIfInBounds_toArray, List.set_cons_zero, List.set_cons_succ]
        have e1 : f1 1 = .int .i64 xi := hd 1 (by kernel_rfl)
        obtain ⟨A, c, R, e4, h1, h2⟩ := (show CpF w2.heap.size xL (f1 4) u from hd 4 (by kernel_rfl))
        have HN := Lib.hid (And.intro h1 h2)
        clear hd hu h1 h2
        go_simp
        exact ⟨Ext.refl _, A, c, R, rfl, HN.out.1, HN.out.2⟩
      refine ⟨fun u hu hd => ?_, ?_⟩
      · simp only [Act.put, List.setIfInBounds_toArray, List.set_cons_zero, List.set_cons_succ]
        have HB := Lib.hid (Ext.trans (Ext.drew w2) hu).size
        clear hd hu
        go_simp
        exact ⟨ext_alloc _ _, _, rfl, HB.out, heap_at _ _ rfl⟩
      refine ⟨fun u hu hd => ?_, trivial⟩
      simp only [Act.put, List.setIfInBounds_toArray, List.set_cons_zero, List.set_cons_succ]
      obtain ⟨A, c, R, e5, h1, h2⟩ := (show CbF w2.heap.size xi xL (f1 5) u from hd 5 (by decide) (by decide) (by decide))
      obtain ⟨g, e6, h3, h4⟩ := (show BoxB w2.heap.size (f1 6) u from hd 6 (by decide) (by decide) (by decide))
      have HF := Lib.hid (fillB_of (i := xi) h3 h4 h1 h2 rfl)
      have q0 := cell_of h4 (k := 0) rfl
      have q1 := cell_of h4 (k := 1) rfl
      have z0 := frozen_four h4 (j := 0)
      have z1 := frozen_four h4 (j := 1)
      clear hd hu h1 h2 h3 h4
      go_simp
      exact HF.out
    case fin3 =>
      intro g1 u u3 hu hg ⟨hb, g, A, c, R, h6, hmap, hgot, hcell⟩
      simp only [puts, Act.put, List.setIfInBounds_toArray, List.set_cons_zero, List.set_cons_succ]
      rw [h6]
      have HX3 : Hid (Ext w2 u3) := Below.trans (Ext.trans (Ext.drew w2) hu) hb
      have HM := Lib.hid hmap
      have HG := Lib.hid hgot
      have HCE := Lib.hid hcell
      have HRL : Hid (R.length ≤ 60000) := by have h := congrArg List.length hmap; rw [List.length_map, List.length_map] at h; have := HNL.out; unfold Hid; omega
      have HI : Hid (-9223372036854775808 ≤ xi ∧ xi ≤ 9223372036854775807) := ⟨HX.out.i1, HX.out.i2⟩
      have HOX : Hid (∀ u, Ext u3 u → Bm u 0 u.heap.size ⟨xi, A, c, R⟩) := fun u hu => ⟨(hgot.below hu).es, HI.out.1, HI.out.2, (show R.length ≤ 1000000000000 by have := HRL.out; omega)⟩
      have HBT : Hid ((⟨xi, A, c, R⟩ : Bx).bat = (⟨xi, xA, xc, xL⟩ : Bx).bat) := by unfold Bx.bat Hid; simp only [hmap]
      clear h6 hg hu hb hmap hgot hcell k0 k1
      have m0 := cell_of HCE.out (k := 0) rfl
      have m1 := cell_of HCE.out (k := 1) rfl
      have HP := Lib.hid (wput_any (HOX.out u3 (Ext.refl _)) (Nat.le_refl _))
      unfold Bx.val at HP
      rw [HBT.out] at HP
      go_wp2_with fail
      refine HP.out.mono ?_
      rintro e w4 ⟨hx4, hans⟩
      have HX4 : Hid (Ext u3 w4) := hx4
      have HANS := Lib.hid hans
      have HB04 := Lib.hid (ext_heap (Ext.trans HX3.out hx4) HB02.out)
      have HC4 := Lib.hid (ext_heap hx4 HCE.out)
      have HBX4 : Hid (∀ u, Ext w4 u → Bm u 0 u.heap.size ⟨xi, xA, xc, xL⟩ ∧ Bm u 0 u.heap.size ⟨xi, A, c, R⟩) := fun u hu => ⟨HBX.out u (Ext.trans (Ext.trans HX3.out HX4.out) hu), HOX.out u (Ext.trans HX4.out hu)⟩
      clear hx4 hans m0 m1 HP
      have HXA : Hid (Ext w w4) := Ext.trans HX2.out (Ext.trans HX3.out HX4.out)
      obtain ⟨z, hz⟩ : ∃ z : Bool, z = true ↔ (⟨xi, xA, xc, xL⟩ : Bx).bat.may := ⟨@decide (⟨xi, xA, xc, xL⟩ : Bx).bat.may (Classical.propDecidable _), by simp⟩
      have HZM := Lib.hid hz
      have HFS : Hid (z = true → (⟨xi, xA, xc, xL⟩ : Bx).bat.form.length ≤ 1048576) := fun h => Bx.form_small (hz.1 h) HSE.out
      have HFB : Hid (∀ y ∈ (⟨xi, xA, xc, xL⟩ : Bx).bat.form, y < 256) := Bat.form_lt (HBX.out w2 (Ext.refl _)).bytes
      have q0 := cell_of HB04.out (k := 0) rfl
      have q1 := cell_of HB04.out (k := 1) rfl
      have m0 := cell_of HC4.out (k := 0) rfl
      have m1 := cell_of HC4.out (k := 1) rfl
      clear hz HZ
      rcases HANS.out with ⟨hn, rfl⟩ | ⟨hm, hbig, rfl⟩ | ⟨hm, hsm, v, rfl, hown⟩
      · obtain rfl : z = false := by cases z with
          | false => rfl
          | true => exact absurd (HZM.out.1 rfl) hn
        go_upto_region 5 with (fail)
        refine flow (by kernel_rfl) [Is (.agg #[.int .i64 xi, .slice A R.length c]), Is (.bool false), Is (.agg #[.int .i64 xi, .slice xA xL.length xc]), Is (.bool false), Is (.bool false), Is (.bool false), Is (.agg #[.int .i64 xi, .slice A R.length c]), LitB ⟨xi, A, c, R⟩, Is (.agg #[.int .i64 xi, .slice xA xL.length xc]), LitB ⟨xi, xA, xc, xL⟩, Is (.bool true), Is (.bool false), Is (.bool false)] (by kernel_rfl) (by kernel_rfl) ?mono5 (fun f1 => ?obl5) ?fin5
        case mono5 =>
          simp only [List.forall_mem_cons, List.not_mem_nil, false_imp_iff, implies_true, and_true]
          exact ⟨.is _, .is _, .is _, .is _, .is _, .is _, .is _, .litB _, .is _, .litB _, .is _, .is _, .is _⟩
        case fin5 =>
          intro g1 u hu hg
          simp only [puts, Act.put, List.setIfInBounds_toArray, List.set_cons_zero, List.set_cons_succ]
          have h12 : g1 12 = .bool false := hg 12 (by decide)
          rw [h12]
          have HX5 : Hid (Ext w4 u) := Ext.trans (Ext.drew w4) hu
          have p0 := ext_cell HX5.out q0
          have p1 := ext_cell HX5.out q1
          have HB5 := Lib.hid (HBX4.out u HX5.out)
          clear h12 hg hu q0 q1 m0 m1
          have HMY := Lib.hid (rmay13_any HB5.out.1 (Nat.le_refl _))
          unfold Bx.val at HMY
          have HKN := Lib.hid HX5.out
          go_wp2_with fail
          refine HMY.out.mono ?_
          rintro e w6 ⟨z9, hz9, rfl, hx6⟩
          obtain rfl : z9 = false := by cases z9 with
            | false => rfl
            | true => exact absurd (hz9.1 rfl) hn
          have HX6 : Hid (Ext w w6) := Ext.trans HXA.out (Ext.trans HX5.out hx6)
          clear hz9 hx6 p0 p1 HMY
          go_wp2_with fail
          refine (wnum_any _ _).mono ?_
          rintro e w9 ⟨rfl, rfl⟩
          go_wp2_with fail
          refine (wknown_any w9).mono ?_
          rintro e w7 ⟨rfl, hb⟩
          have HX7 : Hid (Ext w w7) := Ext.trans HX6.out hb
          clear hb
          go_wp2_with fail
          go_ret
          exact ⟨rfl, HX7.out⟩
        case obl5 =>
          refine ⟨fun u hu hd => ?_, ?_⟩
          · have hu2 := Ext.trans (Ext.drew w4) hu
            have q0 := ext_cell hu2 m0
            have q1 := ext_cell hu2 m1
            go_simp
            exact ⟨Ext.refl _, rfl⟩
          refine ⟨fun u hu hd => ?_, ?_⟩
          · simp only [Act.put, List.setIfInBounds_toArray, List.set_cons_zero, List.set_cons_succ]
            have e0 : f1 0 = .agg #[.int .i64 xi, .slice A R.length c] := hd 0 (by kernel_rfl)
            have hu2 := Ext.trans (Ext.drew w4) hu
            have hm := wmay_any (HBX4.out u hu2).2 (Nat.le_refl _)
            unfold Bx.val at hm
            rw [HBT.out] at hm
            have HM := Lib.hid hm
            clear hd hm
            go_simp
            refine HM.out.mono ?_
            rintro e9 w9 ⟨z9, hz9, rfl, hx9⟩
            obtain rfl : z9 = false := Bool.eq_iff_iff.2 (hz9.trans HZM.out.symm)
            exact ⟨_, rfl, hx9, rfl⟩
          refine ⟨fun u hu hd => ?_, ?_⟩
          · simp only [Act.put, List.setIfInBounds_toArray, List.set_cons_zero, List.set_cons_succ]
            have hu2 := Ext.trans (Ext.drew w4) hu
            have q0 := ext_cell hu2 q0
            have q1 := ext_cell hu2 q1
            go_simp
            exact ⟨Ext.refl _, rfl⟩
          refine ⟨fun u hu hd => ?_, ?_⟩
          · simp only [Act.put, List.setIfInBounds_toArray, List.set_cons_zero, List.set_cons_succ]
            have e2 : f1 2 = .agg #[.int .i64 xi, .slice xA xL.length xc] := hd 2 (by kernel_rfl)
            have hu2 := Ext.trans (Ext.drew w4) hu
            have hm := rmay13_any (HBX4.out u hu2).1 (Nat.le_refl _)
            unfold Bx.val at hm
            have HM := Lib.hid hm
            clear hd hm
            go_simp
            refine HM.out.mono ?_
            rintro e9 w9 ⟨z9, hz9, rfl, hx9⟩
            obtain rfl : z9 = false := Bool.eq_iff_iff.2 (hz9.trans HZM.out.symm)
            exact ⟨_, rfl, hx9, rfl⟩
          refine ⟨fun u hu hd => ?_, ?_⟩
          · simp only [Act.put, List.setIfInBounds_toArray, List.set_cons_zero, List.set_cons_succ]
            have e1 : f1 1 = .bool false := hd 1 (by kernel_rfl)
            have e3 : f1 3 = .bool false := hd 3 (by kernel_rfl)
            clear hd
            have hzz : (false != false) = false := rfl
            go_simp
            exact ⟨Ext.refl _, rfl⟩
          refine ⟨fun u hu hd => ?_, ?_⟩
          · simp only [Act.put, List.setIfInBounds_toArray, List.set_cons_zero, List.set_cons_succ]
            have e4 : f1 4 = .bool false := hd 4 (by kernel_rfl)
            go_simp
            exact ⟨Ext.refl _, rfl⟩
          refine ⟨fun u hu hd => ?_, ?_⟩
          · simp only [Act.put, List.setIfInBounds_toArray, List.set_cons_zero, List.set_cons_succ]
            have e5 : f1 5 = .bool false := hd 5 (by kernel_rfl)
            have hu2 := Ext.trans (Ext.drew w4) hu
            have q0 := ext_cell hu2 m0
            have q1 := ext_cell hu2 m1
            go_simp
            exact ⟨Ext.refl _, rfl⟩
          refine ⟨fun u hu hd => ?_, ?_⟩
          · simp only [Act.put, List.setIfInBounds_toArray, List.set_cons_zero, List.set_cons_succ]
            have e5 : f1 5 = .bool false := hd 5 (by kernel_rfl)
            have e6 : f1 6 = .agg #[.int .i64 xi, .slice A R.length c] := hd 6 (by kernel_rfl)
            clear hd
            go_simp
            exact ⟨ext_alloc _ _, _, rfl, heap_at _ _ rfl⟩
          refine ⟨fun u hu hd => ?_, ?_⟩
          · simp only [Act.put, List.setIfInBounds_toArray, List.set_cons_zero, List.set_cons_succ]
            have e5 : f1 5 = .bool false := hd 5 (by kernel_rfl)
            have hu2 := Ext.trans (Ext.drew w4) hu
            have q0 := ext_cell hu2 q0
            have q1 := ext_cell hu2 q1
            go_simp
            exact ⟨Ext.refl _, rfl⟩
          refine ⟨fun u hu hd => ?_, ?_⟩
          · simp only [Act.put, List.setIfInBounds_toArray, List.set_cons_zero, List.set_cons_succ]
            have e5 : f1 5 = .bool false := hd 5 (by kernel_rfl)
            have e8 : f1 8 = .agg #[.int .i64 xi, .slice xA xL.length xc] := hd 8 (by kernel_rfl)
            clear hd
            go_simp
            exact ⟨ext_alloc _ _, _, rfl, heap_at _ _ rfl⟩
          refine ⟨fun u hu hd => ?_, ?_⟩
          · simp only [Act.put, List.setIfInBounds_toArray, List.set_cons_zero, List.set_cons_succ]
            have e5 : f1 5 = .bool false := hd 5 (by kernel_rfl)
            obtain ⟨ga, e7, hga⟩ := (show LitB ⟨xi, A, c, R⟩ (f1 7) u from hd 7 (by kernel_rfl))
            obtain ⟨gb, e9, hgb⟩ := (show LitB ⟨xi, xA, xc, xL⟩ (f1 9) u from hd 9 (by kernel_rfl))
            have hu2 := Ext.trans (Ext.drew w4) hu
            have hb := HBX4.out u hu2
            have HM := Lib.hid (same13_any (c := 1) (c2 := 1) (Bts.one (x := ⟨xi, A, c, R⟩) (cell_of hga (k := 0) rfl) (cell_of hga (k := 1) rfl) hb.2 (Nat.le_refl _)) (Bts.one (x := ⟨xi, xA, xc, xL⟩) (cell_of hgb (k := 0) rfl) (cell_of hgb (k := 1) rfl) hb.1 (Nat.le_refl _)) (Nat.le_refl _) (Nat.le_refl _) (by simp))
            clear hd hga hgb hb
            go_simp
            refine HM.out.mono ?_
            rintro e99 w9 ⟨z9, hz9, rfl, hx9⟩
            obtain rfl : z9 = true := hz9.2 (by simp only [List.map_cons, List.map_nil, HBT.out])
            exact ⟨_, rfl, hx9, rfl⟩
          refine ⟨fun u hu hd => ?_, ?_⟩
          · simp only [Act.put, List.setIfInBounds_toArray, List.set_cons_zero, List.set_cons_succ]
            have e5 : f1 5 = .bool false := hd 5 (by kernel_rfl)
            have e10 : f1 10 = .bool true := hd 10 (by kernel_rfl)
            clear hd
            go_simp
            exact ⟨Ext.refl _, by simp [Is, fact, kept]⟩
          refine ⟨fun u hu hd => ?_, ?_⟩
          · simp only [Act.put, List.setIfInBounds_toArray, List.set_cons_zero, List.set_cons_succ]
            have e5 : f1 5 = .bool false := hd 5 (by kernel_rfl)
            have e11 : f1 11 = .bool false := hd 11 (by kernel_rfl)
            go_simp
            exact ⟨Ext.refl _, rfl⟩
          trivial
      · exact absurd (HFS.out (HZM.out.2 hm)) (by omega)
      · obtain rfl : z = true := HZM.out.2 hm
        obtain ⟨V, C, hV⟩ := Own.slice hown
        subst hV
        have HOW := Lib.hid hown
        have HMAY := Lib.hid hm
        have HFS1 := Lib.hid (HFS.out rfl)
        clear HFS
        obtain ⟨F, hF⟩ : ∃ F, F = Fm.frame (⟨xi, xA, xc, xL⟩ : Bx).bat.form := ⟨_, rfl⟩
        rw [← hF] at HOW ⊢
        have HFE := Lib.hid hF
        clear hF hown hm hsm
        go_upto_region 5 with (fail)
        refine flow (by kernel_rfl) [Is (.agg #[.int .i64 xi, .slice A R.length c]), Is (.bool true), Is (.agg #[.int .i64 xi, .slice xA xL.length xc]), Is (.bool true), Is (.bool false), Is (.bool false), Is (.agg #[.int .i64 xi, .slice A R.length c]), LitB ⟨xi, A, c, R⟩, Is (.agg #[.int .i64 xi, .slice xA xL.length xc]), LitB ⟨xi, xA, xc, xL⟩, Is (.bool true), Is (.bool false), Is (.bool false)] (by kernel_rfl) (by kernel_rfl) ?mono5 (fun f1 => ?obl5) ?fin5
        case mono5 =>
          simp only [List.forall_mem_cons, List.not_mem_nil, false_imp_iff, implies_true, and_true]
          exact ⟨.is _, .is _, .is _, .is _, .is _, .is _, .is _, .litB _, .is _, .litB _, .is _, .is _, .is _⟩
        case fin5 =>
          intro g1 u hu hg
          simp only [puts, Act.put, List.setIfInBounds_toArray, List.set_cons_zero, List.set_cons_succ]
          have h12 : g1 12 = .bool false := hg 12 (by decide)
          rw [h12]
          have HX5 : Hid (Ext w4 u) := Ext.trans (Ext.drew w4) hu
          have p0 := ext_cell HX5.out q0
          have p1 := ext_cell HX5.out q1
          have HB5 := Lib.hid (HBX4.out u HX5.out)
          clear h12 hg hu q0 q1 m0 m1
          have HMY := Lib.hid (rmay13_any HB5.out.1 (Nat.le_refl _))
          unfold Bx.val at HMY
          go_wp2_with fail
          refine HMY.out.mono ?_
          rintro e w6 ⟨z9, hz9, rfl, hx6⟩
          obtain rfl : z9 = true := hz9.2 HMAY.out
          have HX6 : Hid (Ext w w6) := Ext.trans HXA.out (Ext.trans HX5.out hx6)
          have HO6 := Lib.hid (HOW.out.below (Ext.trans HX5.out hx6))
          have HB6 : Hid (∀ v, Ext w6 v → Bm v 0 v.heap.size ⟨xi, xA, xc, xL⟩) := fun v hv => (HBX4.out v (Ext.trans (Ext.trans HX5.out hx6) hv)).1
          replace p0 := ext_cell (show Ext u w6 from hx6) p0
          replace p1 := ext_cell (show Ext u w6 from hx6) p1
          clear hz9 hx6 HMY
          go_upto_region 9 with (fail)
          refine flow (by kernel_rfl) [Is (.slice V F.length C), Is (.string (tx F)), Is (.agg #[.int .i64 xi, .slice xA xL.length xc]), Own w6.heap.size (⟨xi, xA, xc, xL⟩ : Bx).bat.form, Own w6.heap.size F, Is (.string (tx F)), Is (.bool true), Is (.bool true), Is (.int .i64 0), Is (.int .i64 0), Is (.bool true), Is (.bool true), Is (.bool true), Is (.bool true), Is (.bool true), Is (.bool true)] (by kernel_rfl) (by kernel_rfl) ?mono (fun f1 => ?obl) ?fin
          case mono =>
            simp only [List.forall_mem_cons, List.not_mem_nil, false_imp_iff, implies_true, and_true]
            exact ⟨.is _, .is _, .is _, .own _ _, .own _ _, .is _, .is _, .is _, .is _, .is _, .is _, .is _, .is _, .is _, .is _, .is _⟩
          case fin =>
            intro g1 u hu hg
            simp only [puts, Act.put, List.setIfInBounds_toArray, List.set_cons_zero, List.set_cons_succ]
            have h15 : g1 15 = .bool true := hg 15 (by decide)
            rw [h15]
            have HXU : Hid (Ext w u) := Ext.trans HX6.out (Ext.trans (Ext.drew w6) hu)
            clear h15 hg hu p0 p1
            go_wp2_with fail
            go_ret
            exact ⟨rfl, HXU.out⟩
          case obl =>
            refine ⟨fun u hu hd => ?_, ?_⟩
            · go_simp
              exact ⟨Ext.refl _, rfl⟩
            refine ⟨fun u hu hd => ?_, ?_⟩
            · simp only [Act.put, List.setIfInBounds_toArray, List.set_cons_zero, List.set_cons_succ]
              have e0 : f1 0 = .slice V F.length C := hd 0 (by kernel_rfl)
              have hu2 := Ext.trans (Ext.drew w6) hu
              have cv1 := Fm.cv ((HO6.out.below hu2).bs)
              clear hd
              go_simp
              exact ⟨Ext.refl _, rfl⟩
            refine ⟨fun u hu hd => ?_, ?_⟩
            · simp only [Act.put, List.setIfInBounds_toArray, List.set_cons_zero, List.set_cons_succ]
              have hu2 := Ext.trans (Ext.drew w6) hu
              have q0 := ext_cell hu2 p0
              have q1 := ext_cell hu2 p1
              go_simp
              exact ⟨Ext.refl _, rfl⟩
            refine ⟨fun u hu hd => ?_, ?_⟩
            · simp only [Act.put, List.setIfInBounds_toArray, List.set_cons_zero, List.set_cons_succ]
              have e2 : f1 2 = .agg #[.int .i64 xi, .slice xA xL.length xc] := hd 2 (by kernel_rfl)
              have hu2 := Ext.trans (Ext.drew w6) hu
              have hm := pay13_any (HB6.out u hu2) (Nat.le_refl _) HMAY.out
              unfold Bx.val at hm
              have HM := Lib.hid hm
              have HS := Lib.hid hu2.size
              clear hd hm
              go_simp
              refine HM.out.mono ?_
              rintro e9 w9 ⟨A9, c9, rfl, ho9, hx9⟩
              exact ⟨_, rfl, hx9, ho9.base HS.out⟩
            refine ⟨fun u hu hd => ?_, ?_⟩
            · simp only [Act.put, List.setIfInBounds_toArray, List.set_cons_zero, List.set_cons_succ]
              have h3 := (show Own w6.heap.size (⟨xi, xA, xc, xL⟩ : Bx).bat.form (f1 3) u from hd 3 (by kernel_rfl))
              have HM := Lib.hid (Fm.rput_any h3.bs (Nat.le_refl _) HFB.out HFS1.out)
              have HS := Lib.hid (Ext.trans (Ext.drew w6) hu).size
              rw [← HFE.out] at HM
              clear hd h3
              go_simp
              refine HM.out.mono ?_
              rintro e9 w9 ⟨v9, rfl, ho9, hx9⟩
              exact ⟨_, rfl, hx9, Own.base (show Own u.heap.size F v9 w9 from ho9) HS.out⟩
            refine ⟨fun u hu hd => ?_, ?_⟩
            · simp only [Act.put, List.setIfInBounds_toArray, List.set_cons_zero, List.set_cons_succ]
              have h4 := (show Own w6.heap.size F (f1 4) u from hd 4 (by kernel_rfl))
              obtain ⟨A4, c4, e4⟩ := Own.slice h4
              rw [e4] at h4
              have cv1 := Fm.cv h4.bs
              clear hd h4
              go_simp
              exact ⟨Ext.refl _, rfl⟩
            refine ⟨fun u hu hd => ?_, ?_⟩
            · simp only [Act.put, List.setIfInBounds_toArray, List.set_cons_zero, List.set_cons_succ]
              have e1 : f1 1 = .string (tx F) := hd 1 (by kernel_rfl)
              have e5 : f1 5 = .string (tx F) := hd 5 (by kernel_rfl)
              clear hd
              have heq : ((tx F).toList == (tx F).toList) = true := by simp
              go_simp
              exact ⟨Ext.refl _, rfl⟩
            refine ⟨fun u hu hd => ?_, ?_⟩
            · simp only [Act.put, List.setIfInBounds_toArray, List.set_cons_zero, List.set_cons_succ]
              have e6 : f1 6 = .bool true := hd 6 (by kernel_rfl)
              go_simp
              exact ⟨Ext.refl _, rfl⟩
            refine ⟨fun u hu hd => ?_, ?_⟩
            · simp only [Act.put, List.setIfInBounds_toArray, List.set_cons_zero, List.set_cons_succ]
              have e7 : f1 7 = .bool true := hd 7 (by kernel_rfl)
              go_simp
              exact ⟨Ext.refl _, rfl⟩
            refine ⟨fun u hu hd => ?_, ?_⟩
            · simp only [Act.put, List.setIfInBounds_toArray, List.set_cons_zero, List.set_cons_succ]
              have e7 : f1 7 = .bool true := hd 7 (by kernel_rfl)
              have e8 : f1 8 = .int .i64 0 := hd 8 (by kernel_rfl)
              clear hd
              go_simp
              refine (wnum_any _ _).mono ?_
              rintro e9 w9 ⟨rfl, rfl⟩
              exact ⟨_, rfl, Ext.refl _, rfl⟩
            refine ⟨fun u hu hd => ?_, ?_⟩
            · simp only [Act.put, List.setIfInBounds_toArray, List.set_cons_zero, List.set_cons_succ]
              have e7 : f1 7 = .bool true := hd 7 (by kernel_rfl)
              have e9 : f1 9 = .int .i64 0 := hd 9 (by kernel_rfl)
              clear hd
              go_simp
              exact ⟨Ext.refl _, rfl⟩
            refine ⟨fun u hu hd => ?_, ?_⟩
            · simp only [Act.put, List.setIfInBounds_toArray, List.set_cons_zero, List.set_cons_succ]
              have e7 : f1 7 = .bool true := hd 7 (by kernel_rfl)
              have e10 : f1 10 = .bool true := hd 10 (by kernel_rfl)
              go_simp
              exact ⟨Ext.refl _, rfl⟩
            refine ⟨fun u hu hd => ?_, ?_⟩
            · simp only [Act.put, List.setIfInBounds_toArray, List.set_cons_zero, List.set_cons_succ]
              have e11 : f1 11 = .bool true := hd 11 (by kernel_rfl)
              go_simp
              exact ⟨Ext.refl _, rfl⟩
            refine ⟨fun u hu hd => ?_, ?_⟩
            · simp only [Act.put, List.setIfInBounds_toArray, List.set_cons_zero, List.set_cons_succ]
              have e12 : f1 12 = .bool true := hd 12 (by kernel_rfl)
              clear hd
              go_simp
              refine (wknown_any u).mono ?_
              rintro e9 w9 ⟨rfl, hx9⟩
              exact ⟨_, rfl, hx9, rfl⟩
            refine ⟨fun u hu hd => ?_, ?_⟩
            · simp only [Act.put, List.setIfInBounds_toArray, List.set_cons_zero, List.set_cons_succ]
              have e12 : f1 12 = .bool true := hd 12 (by kernel_rfl)
              have e13 : f1 13 = .bool true := hd 13 (by kernel_rfl)
              go_simp
              exact ⟨Ext.refl _, rfl⟩
            refine ⟨fun u hu hd => ?_, ?_⟩
            · simp only [Act.put, List.setIfInBounds_toArray, List.set_cons_zero, List.set_cons_succ]
              have e14 : f1 14 = .bool true := hd 14 (by kernel_rfl)
              go_simp
              exact ⟨Ext.refl _, rfl⟩
            trivial
        case obl5 =>
          refine ⟨fun u hu hd => ?_, ?_⟩
          · have hu2 := Ext.trans (Ext.drew w4) hu
            have q0 := ext_cell hu2 m0
            have q1 := ext_cell hu2 m1
            go_simp
            exact ⟨Ext.refl _, rfl⟩
          refine ⟨fun u hu hd => ?_, ?_⟩
          · simp only [Act.put, List.setIfInBounds_toArray, List.set_cons_zero, List.set_cons_succ]
            have e0 : f1 0 = .agg #[.int .i64 xi, .slice A R.length c] := hd 0 (by kernel_rfl)
            have hu2 := Ext.trans (Ext.drew w4) hu
            have hm := wmay_any (HBX4.out u hu2).2 (Nat.le_refl _)
            unfold Bx.val at hm
            rw [HBT.out] at hm
            have HM := Lib.hid hm
            clear hd hm
            go_simp
            refine HM.out.mono ?_
            rintro e9 w9 ⟨z9, hz9, rfl, hx9⟩
            obtain rfl : z9 = true := hz9.2 HMAY.out
            exact ⟨_, rfl, hx9, rfl⟩
          refine ⟨fun u hu hd => ?_, ?_⟩
          · simp only [Act.put, List.setIfInBounds_toArray, List.set_cons_zero, List.set_cons_succ]
            have hu2 := Ext.trans (Ext.drew w4) hu
            have q0 := ext_cell hu2 q0
            have q1 := ext_cell hu2 q1
            go_simp
            exact ⟨Ext.refl _, rfl⟩
          refine ⟨fun u hu hd => ?_, ?_⟩
          · simp only [Act.put, List.setIfInBounds_toArray, List.set_cons_zero, List.set_cons_succ]
            have e2 : f1 2 = .agg #[.int .i64 xi, .slice xA xL.length xc] := hd 2 (by kernel_rfl)
            have hu2 := Ext.trans (Ext.drew w4) hu
            have hm := rmay13_any (HBX4.out u hu2).1 (Nat.le_refl _)
            unfold Bx.val at hm
            have HM := Lib.hid hm
            clear hd hm
            go_simp
            refine HM.out.mono ?_
            rintro e9 w9 ⟨z9, hz9, rfl, hx9⟩
            obtain rfl : z9 = true := hz9.2 HMAY.out
            exact ⟨_, rfl, hx9, rfl⟩
          refine ⟨fun u hu hd => ?_, ?_⟩
          · simp only [Act.put, List.setIfInBounds_toArray, List.set_cons_zero, List.set_cons_succ]
            have e1 : f1 1 = .bool true := hd 1 (by kernel_rfl)
            have e3 : f1 3 = .bool true := hd 3 (by kernel_rfl)
            clear hd
            have hzz : (true != true) = false := rfl
            go_simp
            exact ⟨Ext.refl _, rfl⟩
          refine ⟨fun u hu hd => ?_, ?_⟩
          · simp only [Act.put, List.setIfInBounds_toArray, List.set_cons_zero, List.set_cons_succ]
            have e4 : f1 4 = .bool false := hd 4 (by kernel_rfl)
            go_simp
            exact ⟨Ext.refl _, rfl⟩
          refine ⟨fun u hu hd => ?_, ?_⟩
          · simp only [Act.put, List.setIfInBounds_toArray, List.set_cons_zero, List.set_cons_succ]
            have e5 : f1 5 = .bool false := hd 5 (by kernel_rfl)
            have hu2 := Ext.trans (Ext.drew w4) hu
            have q0 := ext_cell hu2 m0
            have q1 := ext_cell hu2 m1
            go_simp
            exact ⟨Ext.refl _, rfl⟩
          refine ⟨fun u hu hd => ?_, ?_⟩
          · simp only [Act.put, List.setIfInBounds_toArray, List.set_cons_zero, List.set_cons_succ]
            have e5 : f1 5 = .bool false := hd 5 (by kernel_rfl)
            have e6 : f1 6 = .agg #[.int .i64 xi, .slice A R.length c] := hd 6 (by kernel_rfl)
            clear hd
            go_simp
            exact ⟨ext_alloc _ _, _, rfl, heap_at _ _ rfl⟩
          refine ⟨fun u hu hd => ?_, ?_⟩
          · simp only [Act.put, List.setIfInBounds_toArray, List.set_cons_zero, List.set_cons_succ]
            have e5 : f1 5 = .bool false := hd 5 (by kernel_rfl)
            have hu2 := Ext.trans (Ext.drew w4) hu
            have q0 := ext_cell hu2 q0
            have q1 := ext_cell hu2 q1
            go_simp
            exact ⟨Ext.refl _, rfl⟩
          refine ⟨fun u hu hd => ?_, ?_⟩
          · simp only [Act.put, List.setIfInBounds_toArray, List.set_cons_zero, List.set_cons_succ]
            have e5 : f1 5 = .bool false := hd 5 (by kernel_rfl)
            have e8 : f1 8 = .agg #[.int .i64 xi, .slice xA xL.length xc] := hd 8 (by kernel_rfl)
            clear hd
            go_simp
            exact ⟨ext_alloc _ _, _, rfl, heap_at _ _ rfl⟩
          refine ⟨fun u hu hd => ?_, ?_⟩
          · simp only [Act.put, List.setIfInBounds_toArray, List.set_cons_zero, List.set_cons_succ]
            have e5 : f1 5 = .bool false := hd 5 (by kernel_rfl)
            obtain ⟨ga, e7, hga⟩ := (show LitB ⟨xi, A, c, R⟩ (f1 7) u from hd 7 (by kernel_rfl))
            obtain ⟨gb, e9, hgb⟩ := (show LitB ⟨xi, xA, xc, xL⟩ (f1 9) u from hd 9 (by kernel_rfl))
            have hu2 := Ext.trans (Ext.drew w4) hu
            have hb := HBX4.out u hu2
            have HM := Lib.hid (same13_any (c := 1) (c2 := 1) (Bts.one (x := ⟨xi, A, c, R⟩) (cell_of hga (k := 0) rfl) (cell_of hga (k := 1) rfl) hb.2 (Nat.le_refl _)) (Bts.one (x := ⟨xi, xA, xc, xL⟩) (cell_of hgb (k := 0) rfl) (cell_of hgb (k := 1) rfl) hb.1 (Nat.le_refl _)) (Nat.le_refl _) (Nat.le_refl _) (by simp))
            clear hd hga hgb hb
            go_simp
            refine HM.out.mono ?_
            rintro e99 w9 ⟨z9, hz9, rfl, hx9⟩
            obtain rfl : z9 = true := hz9.2 (by simp only [List.map_cons, List.map_nil, HBT.out])
            exact ⟨_, rfl, hx9, rfl⟩
          refine ⟨fun u hu hd => ?_, ?_⟩
          · simp only [Act.put, List.setIfInBounds_toArray, List.set_cons_zero, List.set_cons_succ]
            have e5 : f1 5 = .bool false := hd 5 (by kernel_rfl)
            have e10 : f1 10 = .bool true := hd 10 (by kernel_rfl)
            clear hd
            go_simp
            exact ⟨Ext.refl _, by simp [Is, fact, kept]⟩
          refine ⟨fun u hu hd => ?_, ?_⟩
          · simp only [Act.put, List.setIfInBounds_toArray, List.set_cons_zero, List.set_cons_succ]
            have e5 : f1 5 = .bool false := hd 5 (by kernel_rfl)
            have e11 : f1 11 = .bool false := hd 11 (by kernel_rfl)
            go_simp
            exact ⟨Ext.refl _, rfl⟩
          trivial
end Go.Proofs.Ytgflhbpmkcggnaa

/- WalPuts: from the walk to the statement. For every input the law answers true and leaves its arguments as they were. -/
namespace Go.Proofs.Ytgflhbpmkcggnaa.walPuts
open Go.ChangeShapes Go.WideShapes Go.ChangeAt Go.RowKit
set_option linter.unusedVariables false

set_option maxRecDepth 100000 in
theorem lifted (os : Os) (started : os.Started) (H : Type) (enc : TypeId × Value → H) :
    ReturnsInHanded {} Try.checked os 3 .any (Rows.walPutsSpec.pre6 enc Try.prog Try.f3 Rows.walPutsRow.domain false) (Rows.walPutsSpec.post enc Try.prog Try.f3 false true false false) := by
  refine returnsInHanded_of_change_sized (C := Try.checked) own started (by kernel_rfl) Try.func3
    (ChangeSpec.witness6 (enc := enc) (C := Try.checked) false ⟨#[], #[.agg #[.int .i64 0, .slice none 0 0]], []⟩ 8 (by kernel_rfl) (by kernel_rfl) (by kernel_rfl) (by kernel_rfl)) ?_
  intro W base args ds gs before hval0 hW hcnd hsz0 _
  have hsz : (DataW.weightsEach Try.prog (Try.f3.params.toList ++ Rows.walPutsSpec.plain.varTypes Try.prog) (ds ++ gs)).all (· ≤ reachBytes) = true := hsz0
  have hval : ∀ (j : Nat) t v, Try.f3.params[j]? = some t → args[j]? = some v → Value.okWide Try.prog W .any base t v := hval0
  have hW' := hW
  obtain ⟨p, q, hA0, hV, rfl, hfz, hnd⟩ := hW
  have hA : DataW.TrodAll enc Try.prog W 0 (fun _ => true) true Try.f3.params.toList args.toList ds p := hA0
  rw [Try.params3] at hA hval hsz
  obtain ⟨v0, vs0, d0, ds0, p0, q0, hargs, rfl, rfl, h0, r0⟩ := trodAll_cons hA
  obtain ⟨rfl, rfl, rfl⟩ := trodAll_nil r0
  obtain rfl : args = #[v0] := by cases args; simp_all
  obtain ⟨rfl, rfl⟩ := trodVars_none hV
  have k0 := h0
  have lt0 : ∀ x ∈ p0, x.block < W.heap.size := by obtain ⟨m, hm⟩ := k0; exact DataW.trod_lt m _ _ _ hm
  obtain ⟨x0, rfl, m0, z0⟩ := open_batch (hval 0 24 v0 rfl rfl) h0 hsz (jj := 0) rfl rfl
  clear hA0 hval0 hsz0
  refine (wputs_walk W x0 m0 z0).mono fun e W' ⟨he, bel⟩ => ?_
  subst he
  exact ⟨_, rfl, _, _, _, [], _, [], hW', trodAll_mk1 (shut_bool Try.underlying4 _), (trodAll_cons_mk (Below.trod laidOut (by kernel_rfl) (of_decide_eq_true (by kernel_rfl)) k0 bel lt0) trodAll_mk0), rfl, bel.frame _, fun h => by cases h⟩

theorem over : Rows.walPutsRow.holds Try.pinned (OpenSpec.ofChange Rows.walPutsSpec) :=
  OpenClaim.holds_of_wide 3 Try.f3 rfl rfl rfl rfl rfl rfl rfl ⟨rfl, rfl, rfl, rfl, rfl⟩ rfl rfl rfl rfl rfl (by kernel_rfl) Try.func3 (by kernel_rfl)
    (of_decide_eq_true (by kernel_rfl)) (by unfold Func.isWrapper; first | (rw [if_pos (by decide +kernel)]; kernel_rfl) | (rw [if_neg (by decide +kernel)]; exact ⟨rfl, rfl⟩))
    (fun os started H enc _ => lifted os started H enc)

theorem proved : Rows.WalPutsSaid := over
end Go.Proofs.Ytgflhbpmkcggnaa.walPuts
