import Derived.Test.YthhgjeeangepaaaGreatMw15
import Derived.Test.YthhgjeeangepaaaGreatMw16
import Derived.Laws.ResultCell
import Derived.Lib.SmallJoins
import Derived.Test.YthhgjeeangepaaaGreatMw0
namespace Go.Proofs.YthhgjeeangepaaaGreat
open Go.ChangeShapes Go.WideShapes Go.ChangeAt Go.RowKit Go.Shelf
attribute [local go_sem] Oper.semAt_some
theorem NoT.goes {w : World} {v : Value} (h : NoT w v) : GoT w v [] := by
  refine ⟨h.ptr, fun u bx hu hb => ?_⟩
  intro mm lab J Jx W hx hC hJ hJx h0 hY
  obtain ⟨p, rfl⟩ := h.ptr
  obtain ⟨W1, hW1⟩ : ∃ W1, W1 = W.alloc (.cells #[.func (.yield lab) #[] #[]] 105) := ⟨_, rfl⟩
  have HX1 : Hid (Ext W W1) := by rw [hW1]; exact ext_alloc _ _
  have HN := Lib.hid (nnone_any (h.ext (Ext.trans hu (Ext.trans hx HX1.out))))
  have HJ0 : Hid (J (fun _ => False) (fun _ => False) 0 W1) := h0 W1 _ _ HX1.out (fun _ h => h.elim) (fun _ h => h.elim)
  have b0 := Boxed.cell (ext_heap (Ext.trans hx HX1.out) hb)
  clear hC hJ hJx h0 hY hu hb hx h
  refine (callsIn_wide (n := 6)).1 ?_
  refine callsIn_of_wp_marks Tryz.func57 rfl trivial ?_
  simp only [Tryz.ntmps57, List.size_toArray, List.length_cons, List.length_nil, Nat.reduceAdd, Nat.reduceSub, Array.replicate_succ, Array.replicate_zero, List.push_toArray, List.append_toArray, List.nil_append, List.cons_append]
  refine wpIn_wide.2 ?_
  go_upto_region 1 with (fail)
  rw [← hW1]
  clear hW1
  go_wp2_with (refine HN.out.mono ?_; rintro x w0 ⟨rfl, hw0⟩; have hw0 := hw0.symm; subst hw0)
  exact ⟨_, results_none rfl _ _ _, ⟨⟨_, rfl⟩, .inl ⟨_, _, 0, HJ0.out, rfl⟩⟩⟩
theorem nfrom_any {w : World} {v : Value} (h : NoT w v) (A : Option Addr) (n c : Nat) : Calls Tryz.prog 36 #[v, .slice A n c] w fun x w' => x = .returned (.func (.func 57) #[] #[.pointer (some ⟨w.heap.size, 0, none⟩)]) ∧ w' = w.alloc (.cells #[.pointer none] 33) := by
  have HC := Lib.hid (nclip_any h A none n c 0 0 false)
  obtain ⟨p, rfl⟩ := h.ptr
  clear h
  go_enter Tryz.func36, Tryz.ntmps36
  go_wp2_with (refine HC.out.mono ?_; rintro x w2 ⟨rfl, hw2⟩; have hw2 := hw2.symm; subst hw2)
  go_wp2_with (refine (tall_any ⟨_, rfl⟩).mono ?_; rintro x w3 ⟨rfl, hw3⟩)
  refine bodyPost_ret (results_tmp rfl _ _ _) rfl ?_
  exact ⟨rfl, by first | exact hw3 | rfl⟩
theorem results_ent_tmp {fn : Func} {p u : Tmp} (h : fn.results = #[.cell p 55, .tmp u]) (tmps : Array Value) (w : World) (g : Nat) (c : Array Value) (v : Value) (hp : tmps.getD p undef = .pointer (some ⟨g, 0, none⟩)) (hu : tmps.getD u undef = v)
    (hc : c.size = 4) (hg : w.heap[g]? = some (.cells c 55 (0, 0))) : (results fn tmps).run Tryz.prog w = .ok (.tuple #[.agg c, v]) w := by
  have hi : (Tryz.prog.info? 55).map (·.size) = some 4 := by kernel_rfl
  have hl := run_loadVar_row (P := Tryz.prog) w g 55 55 c (0, 0) _ hg Tryz.underlying55 rfl (by rw [hc]; exact hi)
  have ha : (asAddr (.pointer (some ⟨g, 0, none⟩))).run Tryz.prog w = .ok ⟨g, 0, none⟩ w := rfl
  rw [results_cell_tmp h, hp, hu, ha, Result.andThen_ok, hl, Result.andThen_ok]
structure NLI (w u : World) (bx : Nat) (D K : Nat → Prop) (k : Nat) (A : World) : Prop where
  k : k = 0
  below : Ext w A
  res : A.heap[w.heap.size]? = some (.cells #[.slice none 0 0, .int .i64 0, .int .i64 0, .slice none 0 0] 55 (0, 0))
  cur : A.heap[w.heap.size + 1]? = some (.cells #[.slice none 0 0, .int .i64 0, .int .i64 0, .slice none 0 0] 55 (0, 0))
  is : Boxed A (w.heap.size + 2) 4 (.bool false)
  box : Boxed A bx 33 (.pointer none)
  z : u.heap.size ≤ A.heap.size
  dz : ∀ i, D i → u.heap.size ≤ i
  kz : ∀ i, K i → u.heap.size ≤ i
theorem NLI.chg {w u : World} {bx : Nat} (h1 : w.heap.size + 2 < bx) (h2 : bx < u.heap.size) {D K D' K' : Nat → Prop} {k : Nat} {A A' : World} (h : NLI w u bx D K k A) (hc : Chg D A A') (hD : ∀ i, D' i → D i ∨ A.heap.size ≤ i) (hK : ∀ i, K' i → K i ∨ A.heap.size ≤ i) : NLI w u bx D' K' k A' :=
  ⟨h.k, Below.trans h.below (hc.below (fun i hi => by have := h.dz i hi; omega) h.below.size), (hc.block _ (Array.getElem?_eq_some_iff.1 h.res).1 (fun hd => by have := h.dz _ hd; omega)).trans h.res, (hc.block _ (Array.getElem?_eq_some_iff.1 h.cur).1 (fun hd => by have := h.dz _ hd; omega)).trans h.cur, boxed_chg h.is hc (fun hd => by have := h.dz _ hd; omega), boxed_chg h.box hc (fun hd => by have := h.dz _ hd; omega), Nat.le_trans h.z hc.size, fun i hi => by
    rcases hD i hi with h3 | h3
    · exact h.dz i h3
    · exact Nat.le_trans h.z h3, fun i hi => by
    rcases hK i hi with h3 | h3
    · exact h.kz i h3
    · exact Nat.le_trans h.z h3⟩
set_option maxRecDepth 100000 in
set_option maxHeartbeats 8000000 in
theorem nlast_any {w : World} {v : Value} (h : NoT w v) : Calls Tryz.prog 35 #[v] w (EndAns w none) := by
  obtain ⟨p, rfl⟩ := h.ptr
  obtain ⟨w1, hw1⟩ : ∃ w1, w1 = ((w.alloc (.cells #[.slice none 0 0, .int .i64 0, .int .i64 0, .slice none 0 0] 55)).alloc (.cells #[.slice none 0 0, .int .i64 0, .int .i64 0, .slice none 0 0] 55)).alloc (.cells #[.bool false] 4) := ⟨_, rfl⟩
  have HX1 : Hid (Ext w w1) := by rw [hw1]; exact Ext.trans (Ext.trans (ext_alloc _ _) (ext_alloc _ _)) (ext_alloc _ _)
  have HR1 : Hid (w1.heap[w.heap.size]? = some (.cells #[.slice none 0 0, .int .i64 0, .int .i64 0, .slice none 0 0] 55 (0, 0))) := by rw [hw1]; exact ext_heap (Ext.trans (ext_alloc _ _) (ext_alloc _ _)) (heap_at _ _ rfl)
  have HL1 : Hid (w1.heap[w.heap.size + 1]? = some (.cells #[.slice none 0 0, .int .i64 0, .int .i64 0, .slice none 0 0] 55 (0, 0))) := by rw [hw1]; exact ext_heap (ext_alloc _ _) (heap_at _ _ (by simp))
  have HB1 : Hid (Boxed w1 (w.heap.size + 2) 4 (.bool false)) := by rw [hw1]; exact heap_at _ _ (by simp)
  have HN := Lib.hid (nnear_any (h.ext HX1.out))
  have HF := Lib.hid (nfrom_any (h.ext HX1.out) none 0 0)
  clear h
  refine (callsIn_wide (n := 6)).1 ?_
  refine callsIn_of_wp_marks Tryz.func35 rfl trivial ?_
  simp only [Tryz.ntmps35, List.size_toArray, List.length_cons, List.length_nil, Nat.reduceAdd, Nat.reduceSub, Array.replicate_succ, Array.replicate_zero, List.push_toArray, List.append_toArray, List.nil_append, List.cons_append]
  refine wpIn_wide.2 ?_
  go_upto_region 3 with (fail)
  rw [← hw1]
  clear hw1
  go_wp2_with fail
  refine HN.out.mono ?_
  rintro x w2 ⟨rfl, hw2⟩
  have hw2 := hw2.symm
  subst hw2
  go_wp2_with fail
  refine HF.out.mono ?_
  rintro x w3 ⟨rfl, hw3⟩
  have HX3 : Hid (Ext w1 w3) := by rw [hw3]; exact ext_alloc _ _
  have HB3 : Hid (Boxed w3 w1.heap.size 33 (.pointer none)) := by rw [hw3]; exact heap_at _ _ rfl
  clear hw3 HN HF
  go_wp2_with fail
  rename_i ak
  refine (wpIn_wide (n := 6)).1 ?_
  have HLT : Hid (w.heap.size + 2 < w1.heap.size ∧ w1.heap.size < w3.heap.size) := ⟨HB1.out.lt, HB3.out.lt⟩
  have hw13 : w.heap.size + 2 < w3.heap.size := by have := HLT.out; omega
  have HW13 := Lib.hid hw13
  clear hw13
  have HG := Lib.hid (NoT.goes (w := w) (.inl rfl))
  refine wpIn_overQ rfl enters_tall1 (HG.out.2 w3 _ (Ext.trans HX1.out HX3.out) HB3.out) (fun _ => rfl) (NLI w w3 w1.heap.size) (fun _ _ _ => False) (fun _ _ _ A h => ⟨h.below, h.box⟩) ?hI ?hIx ?h0 ?rnd ?hok ?done ?stop
  case hI => exact fun D K k A D' K' A' h hc hD hK => h.chg HLT.out.1 HLT.out.2 hc hD hK
  case hIx => exact fun D c A A' h hc => h
  case h0 => exact fun A D K hx hD hK => ⟨rfl, Ext.trans (Ext.trans HX1.out HX3.out) hx, ext_heap (Ext.trans HX3.out hx) HR1.out, ext_heap (Ext.trans HX3.out hx) HL1.out, ext_heap (Ext.trans HX3.out hx) HB1.out, ext_heap hx HB3.out, hx.size, hD, hK⟩
  case rnd =>
    rintro l2 D K k ⟨e, g⟩ A1 rfl hDl hKl hDm hKm hDb hKb hi ⟨hek, _, _, _⟩
    have h1 : ([] : List Ent)[k]? = some e := hek
    simp at h1
  case hok =>
    rintro D1 K1 D2 K2 j x A1 ⟨h1, h2, h3, h4⟩ ⟨od, hd⟩ ⟨ol, hl⟩ hD' _ _ _
    simp at h1
  case done =>
    rintro M' k W' D1 K1 hM _ _ hi hdn hD
    have HI := Lib.hid hi
    have HDD := Lib.hid hD
    have HM := Lib.hid hM
    have b0 := cell_of hi.res (k := 0) rfl
    have b1 := cell_of hi.res (k := 1) rfl
    have b2 := cell_of hi.res (k := 2) rfl
    have b3 := cell_of hi.res (k := 3) rfl
    have z0 := frozen_four (j := 0) hi.res
    have z1 := frozen_four (j := 1) hi.res
    have z2 := frozen_four (j := 2) hi.res
    have z3 := frozen_four (j := 3) hi.res
    have c0 := cell_of hi.cur (k := 0) rfl
    have c1 := cell_of hi.cur (k := 1) rfl
    have c2 := cell_of hi.cur (k := 2) rfl
    have c3 := cell_of hi.cur (k := 3) rfl
    have y0 := hi.is.cell
    have y1 := hi.is.frozen
    clear hM hi hdn hD
    refine ak _ _ ?_
    clear ak
    go_upto_region 6 with (fail)
    dsimp only
    go_region
    rename_i K1 ak1
    refine ak1 _ _ ?_
    clear ak1
    go_wp2_with fail
    have hi := HI.out
    have hS4 := chg_four w.heap.size W' (.slice none 0 0) (.int .i64 0) (.int .i64 0) (.slice none 0 0)
    have hR4 := set_four (x := .slice none 0 0) (y := .int .i64 0) (z := .int .i64 0) (t := .slice none 0 0) hi.res
    have hD4 := (hS4.block M' (Array.getElem?_eq_some_iff.1 HDD.out).1 (fun e => by have := HM.out; have := HW13.out; omega)).trans HDD.out
    generalize ((((W'.setCell ⟨w.heap.size, 0, none⟩ (.slice none 0 0)).setCell ⟨w.heap.size, 1, none⟩ (.int .i64 0)).setCell ⟨w.heap.size, 2, none⟩ (.int .i64 0)).setCell ⟨w.heap.size, 3, none⟩ (.slice none 0 0)) = A4 at hS4 hR4 hD4 ⊢
    have hP := putObj_chg A4.drew M' (.deferred none)
    have hne : M' ≠ w.heap.size := by have := HM.out; have := HW13.out; omega
    refine ⟨by simp, .inl ⟨_, _, rfl, run_takeDeferred (w := A4.drew) hD4, ?_⟩⟩
    refine ⟨_, results_ent_tmp Tryz.results35 _ _ w.heap.size _ (.bool false) rfl rfl rfl ((hP.block _ (Array.getElem?_eq_some_iff.1 hR4).1 (fun e => hne e.symm)).trans hR4), ?_, rfl⟩
    exact Below.trans (Below.trans hi.below (hS4.below (fun i hb => by omega) hi.below.size)) (Below.trans (Below.mono (Ext.drew A4) (Nat.le_trans hi.below.size hS4.size)) (hP.below (fun i e => by have := HM.out; have := HW13.out; omega) (Nat.le_trans hi.below.size hS4.size)))
  case stop =>
    rintro D0 M' cd W' hM hDm hx hD
    exact hx.elim
end Go.Proofs.YthhgjeeangepaaaGreat
namespace Go.Proofs.YthhgjeeangepaaaGreat
open Go.ChangeShapes Go.WideShapes Go.ChangeAt Go.RowKit Go.Shelf
theorem ncv_a (W : World) : (convert 26 26 (.slice (some ⟨W.heap.size, 0, none⟩) 1 1)).run Tryz.prog (W.alloc (.cells #[.int .u8 97] 5)) = .ok (.slice (some ⟨W.heap.size, 0, none⟩) 1 1) (W.alloc (.cells #[.int .u8 97] 5 (1, 2))) := Go.Joins.run_convert_bytes_const_at _ _ _ _ _ _ _ (rfl) Tryz.underlying26 Tryz.underlying5
theorem ngoes_any {w : World} {v : Value} (h : NoT w v) {u : World} {bx : Nat} (hu : Ext w u) (hb : Boxed u bx 33 v) :
    Calls Tryz.prog 19 #[.func (.func 57) #[] #[.pointer (some ⟨bx, 0, none⟩)], .slice none 0 0, .int .i64 0] u fun e w' => e = .returned (.bool true) ∧ Below u.heap.size u w' :=
  tgoes_any (L2 := []) (lo2 := 0) (hi2 := 0) (h.goes.2 u bx hu hb) (fun A hA => ⟨Ext.trans hu hA, ext_heap hA hb⟩) ⟨Sl.nil _ _ _ _, fun p hp => by cases hp⟩ (Nat.zero_le _) (Nat.zero_le _) rfl
set_option maxRecDepth 100000 in
set_option maxHeartbeats 8000000 in
theorem nothing_any {w : World} {v : Value} (h : NoT w v) : Calls Tryz.prog 38 #[v] w fun e w' => e = .returned (.bool true) ∧ Ext w w' := by
  have HN := Lib.hid h
  obtain ⟨p, rfl⟩ := h.ptr
  clear h
  have cva := ncv_a w
  go_enter Tryz.func38, Tryz.ntmps38
  go_wp2_with fail
  refine (nget_any (HN.out.ext (ext_alloc _ _)) _ _ _ _).mono ?_
  rintro x w2 ⟨rfl, hx2⟩
  have HX2 : Hid (Ext w w2) := Ext.trans (ext_alloc _ _) hx2
  clear hx2
  unfold noE
  go_wp2_with fail
  refine (tfst_any (NoT.goes (HN.out.ext (Ext.trans HX2.out (ext_alloc _ _))))).mono ?_
  rintro x w3 ⟨hx3, hx⟩
  obtain rfl := hx
  have HX3 : Hid (Ext w w3) := Ext.trans (Ext.trans HX2.out (ext_alloc _ _)) hx3
  clear hx3
  unfold noE
  go_wp2_with fail
  refine (nlast_any (HN.out.ext (Ext.trans HX3.out (ext_alloc _ _)))).mono ?_
  rintro x w4 ⟨hx4, hx⟩
  obtain rfl := hx
  have HX4 : Hid (Ext w w4) := Ext.trans (Ext.trans HX3.out (ext_alloc _ _)) hx4
  clear hx4
  unfold noE
  go_wp2_with fail
  refine (unum _ _).mono ?_
  rintro x _ ⟨rfl, rfl⟩
  go_wp2_with fail
  refine (nfrom_any (HN.out.ext (Ext.trans HX4.out (ext_alloc _ _))) _ _ _).mono ?_
  rintro x w5 ⟨rfl, hw5⟩
  obtain ⟨w4', hw4'⟩ : ∃ w4', w4' = w4.alloc (.cells #[.slice none 0 0, .int .i64 0, .int .i64 0, .slice none 0 0] 55) := ⟨_, rfl⟩
  rw [← hw4'] at hw5 ⊢
  have HX4' : Hid (Ext w w4') := by rw [hw4']; exact Ext.trans HX4.out (ext_alloc _ _)
  have HX5 : Hid (Ext w w5) := by rw [hw5]; exact Ext.trans HX4'.out (ext_alloc _ _)
  have HB5 : Hid (Boxed w5 w4'.heap.size 33 (.pointer none)) := by rw [hw5]; exact heap_at _ _ rfl
  clear hw4' hw5
  go_wp2_with fail
  refine (ngoes_any (w := w) (.inl rfl) HX5.out HB5.out).mono ?_
  rintro x w6 ⟨rfl, hx6⟩
  have HX6 : Hid (Ext w w6) := Ext.trans HX5.out hx6
  clear hx6
  go_wp2_with fail
  refine (tall_any ⟨_, rfl⟩).mono ?_
  rintro x w7 ⟨rfl, hw7⟩
  have HX7 : Hid (Ext w w7) := by rw [hw7]; exact Ext.trans HX6.out (ext_alloc _ _)
  have HB7 : Hid (Boxed w7 w6.heap.size 33 (.pointer p)) := by rw [hw7]; exact heap_at _ _ rfl
  clear hw7
  go_wp2_with fail
  refine (ngoes_any HN.out HX7.out HB7.out).mono ?_
  rintro x w8 ⟨rfl, hx8⟩
  have HX8 : Hid (Ext w w8) := Ext.trans HX7.out hx8
  clear hx8
  go_wp2_with fail
  refine (tlen_any (NoT.goes (HN.out.ext HX8.out)) (Nat.zero_le _)).mono ?_
  rintro x w9 ⟨rfl, hx9⟩
  have HX9 : Hid (Ext w w9) := Ext.trans HX8.out hx9
  clear hx9
  go_wp2_with fail
  refine (nblocks_any (HN.out.ext HX9.out)).mono ?_
  rintro x wz ⟨rfl, hwz⟩
  have hwz := hwz.symm
  subst hwz
  go_wp2_with fail
  refine (nclip_any (HN.out.ext HX9.out) _ _ _ _ _ _ _).mono ?_
  rintro x wz ⟨rfl, hwz⟩
  have hwz := hwz.symm
  subst hwz
  have cvb := ncv_a w9
  go_wp2_with fail
  refine (nmay_any (HN.out.ext (Ext.trans HX9.out (ext_alloc _ _))) _ _ _).mono ?_
  rintro x w10 ⟨rfl, hw10⟩
  have HX10 : Hid (Ext w w10) := by rw [hw10]; exact Ext.trans HX9.out (ext_alloc _ _)
  clear hw10
  go_wp2_with fail
  refine (nbytes_any (HN.out.ext HX10.out)).mono ?_
  rintro x wz ⟨rfl, hwz⟩
  have hwz := hwz.symm
  subst hwz
  go_wp2_with fail
  refine bodyPost_ret (results_tmp rfl _ _ _) rfl ?_
  exact ⟨rfl, HX10.out⟩
end Go.Proofs.YthhgjeeangepaaaGreat
