/- ikey's Copy; the law's put and del. -/
import Derived.Test.YtcofnbeemfhcpaaIread
import Derived.Test.YtcofnbeemfhcpaaTail
namespace Go.Proofs.Ytcofnbeemfhcpaa
open Go.ChangeShapes Go.WideShapes Go.ChangeAt Go.RowKit

theorem entry_ret1 {fn : Func} {tmps : Array Value} {w : World} {g : Nat} {p : Tmp} {c : Array Value} {R : Ending → World → Prop} (hr : fn.results = #[.cell p 25]) (h2 : tmps.getD p undef = .pointer (some ⟨g, 0, none⟩))
    (hc : c.size = 4) (hg : w.heap[g]? = some (.cells c 25 (0, 0))) (h : R (.returned (.agg c)) w) : bodyPost Try.prog fn R .ret { tmps := tmps, defers := [] } w := by
  have hi : (Try.prog.info? 25).map (·.size) = some 4 := by kernel_rfl
  exact ⟨rfl, .agg c, results_cell_row hr _ _ _ _ _ _ _ h2 hg Try.underlying25 rfl (by rw [hc]; exact hi), h⟩

theorem Own.far {B : Nat} {l : List Nat} {v x : Value} {u : World} {p : Addr} (h : Own B l v u) (hp : p.block < B) : Own B l v (u.setCell p x) :=
  row_kept h (fun g hg => Below.heap_setCell _ _ _ _ (by have := (row_lt h g hg).1; omega))
/-- What Copy answers. -/
def CopyAns (w : World) (e : Ent) (x : Ending) (w' : World) : Prop :=
  Ext w w' ∧ ∃ g : Hd, x = .returned (e.at_ g) ∧ Own w.heap.size e.key (.slice g.kA e.key.length g.kc) w' ∧ Own w.heap.size e.val (.slice g.vA e.val.length g.vc) w'

set_option maxRecDepth 100000 in
set_option maxHeartbeats 4000000 in
theorem copy_any {w : World} {lo hi : Nat} {e : Ent} {g : Hd} (hm : Em w lo hi e g) (hhi : hi ≤ w.heap.size) (hk : e.key.length ≤ 1099511627776) (hv : e.val.length ≤ 1099511627776) : Calls Try.prog 40 #[e.at_ g] w (CopyAns w e) := by
  obtain ⟨w1, hw1⟩ : ∃ w1, w1 = (w.alloc (.cells #[.slice g.kA e.key.length g.kc, .int .i64 e.seq, .int .i64 e.kind, .slice g.vA e.val.length g.vc] 25)).alloc (.cells #[.slice none 0 0, .int .i64 0, .int .i64 0, .slice none 0 0] 25) := ⟨_, rfl⟩
  have HX : Hid (Ext w w1) := by rw [hw1]; exact Ext.trans (ext_alloc _ _) (ext_alloc _ _)
  have HZ1 : Hid (w1.heap.size = w.heap.size + 2) := by rw [hw1]; simp [Hid]
  have HBX : Hid (w1.heap[w.heap.size]? = some (.cells #[.slice g.kA e.key.length g.kc, .int .i64 e.seq, .int .i64 e.kind, .slice g.vA e.val.length g.vc] 25 (0, 0))) := by rw [hw1]; exact ext_heap (ext_alloc _ _) (heap_at _ _ rfl)
  have HRX : Hid (w1.heap[w.heap.size + 1]? = some (.cells #[.slice none 0 0, .int .i64 0, .int .i64 0, .slice none 0 0] 25 (0, 0))) := by rw [hw1]; exact heap_at _ _ (by simp)
  have HM := Lib.hid hm
  have HHI := Lib.hid hhi
  have HK := Lib.hid hk
  have HV := Lib.hid hv
  clear hm hhi hk hv
  have c0 := cell_of HBX.out (k := 0) rfl
  have c3 := cell_of HBX.out (k := 3) rfl
  unfold Ent.at_
  go_enter Try.func40, Try.ntmps40
  go_upto_region 1 with (fail)
  rw [← hw1]
  clear hw1
  refine flow_tail (by kernel_rfl) [Is (.pointer (some ⟨w.heap.size, 0, none⟩)), Is (.slice g.kA e.key.length g.kc), Own w1.heap.size e.key, Is (.pointer (some ⟨w.heap.size, 3, none⟩)), Is (.slice g.vA e.val.length g.vc), Own w1.heap.size e.val, Is (.pointer (some ⟨w.heap.size, 0, none⟩))] 7 (by kernel_rfl) (by kernel_rfl) (by kernel_rfl) (by kernel_rfl) ?mono (fun f => ?obl) ?fin
  case mono =>
    simp only [List.forall_mem_cons, List.not_mem_nil, false_imp_iff, implies_true, and_true]
    exact ⟨.is _, .is _, .own _ _, .is _, .is _, .own _ _, .is _⟩
  case fin =>
    intro g1 u hu hg
    simp only [List.take_succ_cons, List.take_zero, List.drop_succ_cons, List.drop_zero, puts, Act.put, List.setIfInBounds_toArray, List.set_cons_zero, List.set_cons_succ]
    have h2 : Own w1.heap.size e.key (g1 2) u := hg 2 (by decide)
    have h5 : Own w1.heap.size e.val (g1 5) u := hg 5 (by decide)
    have h6 : g1 6 = .pointer (some ⟨w.heap.size, 0, none⟩) := hg 6 (by decide)
    obtain ⟨v2, e2⟩ : ∃ v, v = g1 2 := ⟨_, rfl⟩
    obtain ⟨v5, e5⟩ : ∃ v, v = g1 5 := ⟨_, rfl⟩
    rw [h6]
    rw [← e2] at h2 ⊢
    rw [← e5] at h5 ⊢
    have H2 := Lib.hid h2
    have H5 := Lib.hid h5
    obtain ⟨A2, c2, rfl⟩ := h2.slice
    obtain ⟨A5, c5, rfl⟩ := h5.slice
    have HU : Hid (Ext w1 u) := Ext.trans (Ext.drew w1) hu
    have hb1 := ext_heap HU.out HBX.out
    have hb2 := ext_heap HU.out HRX.out
    have q0 := cell_of hb1 (k := 0) rfl
    have q1 := cell_of hb1 (k := 1) rfl
    have q2 := cell_of hb1 (k := 2) rfl
    have q3 := cell_of hb1 (k := 3) rfl
    have z0 := frozen_four hb1 (j := 0)
    have z3 := frozen_four hb1 (j := 3)
    have r0 := cell_of hb2 (k := 0) rfl
    have r1 := cell_of hb2 (k := 1) rfl
    have r2 := cell_of hb2 (k := 2) rfl
    have r3 := cell_of hb2 (k := 3) rfl
    have y0 := frozen_four hb2 (j := 0)
    have y1 := frozen_four hb2 (j := 1)
    have y2 := frozen_four hb2 (j := 2)
    have y3 := frozen_four hb2 (j := 3)
    have HB2 := Lib.hid hb2
    clear h2 h5 h6 e2 e5 hb1 hb2 hg hu c0 c3
    go_wp2_with fail
    have n1 : w.heap.size < w1.heap.size := by have := HZ1.out; omega
    have n2 : w.heap.size + 1 < w1.heap.size := by have := HZ1.out; omega
    have n3 : w.heap.size ≤ w1.heap.size := Nat.le_of_lt n1
    have HUW := Ext.trans HX.out HU.out
    refine entry_ret1 (p := 2) (by kernel_rfl) rfl rfl (set_four (a := .slice none 0 0) (b := .int .i64 0) (c := .int .i64 0) (d := .slice none 0 0) ?_) ?_
    · rw [Below.heap_setCell _ _ _ _ (by simp), Below.heap_setCell _ _ _ _ (by simp)]; exact HB2.out
    · refine ⟨Below.setCell (Below.setCell (Below.setCell (Below.setCell (Below.setCell (Below.setCell HUW (Nat.le_refl _) _) (Nat.le_refl _) _) (Nat.le_succ _) _) (Nat.le_succ _) _) (Nat.le_succ _) _) (Nat.le_succ _) _, ⟨A2, c2, A5, c5⟩, rfl, ?_, ?_⟩
      · exact ((((((H2.out.far n1).far n1).far n2).far n2).far n2).far n2).base n3
      · exact ((((((H5.out.far n1).far n1).far n2).far n2).far n2).far n2).base n3
  case obl =>
    refine ⟨fun u hu hd => ?_, ?_⟩
    · go_simp
      exact ⟨Ext.refl _, rfl⟩
    refine ⟨fun u hu hd => ?_, ?_⟩
    · simp only [Act.put, List.setIfInBounds_toArray, List.set_cons_zero, List.set_cons_succ]
      have e0 : f 0 = (.pointer (some ⟨w.heap.size, 0, none⟩)) := hd 0 (by kernel_rfl)
      have q := ext_cell hu c0
      go_simp
      exact ⟨Ext.refl _, rfl⟩
    refine ⟨fun u hu hd => ?_, ?_⟩
    · simp only [Act.put, List.setIfInBounds_toArray, List.set_cons_zero, List.set_cons_succ]
      have e1 : f 1 = (.slice g.kA e.key.length g.kc) := hd 1 (by kernel_rfl)
      go_simp
      refine (clone_any _ lo hi e.key u (HM.out.k.below (Ext.trans HX.out (Ext.trans (Ext.drew w1) hu)) HHI.out) (Nat.le_trans HHI.out (Ext.trans HX.out (Ext.trans (Ext.drew w1) hu)).size) HK.out).mono ?_
      rintro x w9 ⟨v, rfl, hown, hb9⟩
      exact ⟨v, rfl, hb9, ownsRow_base hown (Ext.trans (Ext.drew w1) hu).size⟩
    refine ⟨fun u hu hd => ?_, ?_⟩
    · simp only [Act.put, List.setIfInBounds_toArray, List.set_cons_zero, List.set_cons_succ]
      go_simp
      exact ⟨Ext.refl _, rfl⟩
    refine ⟨fun u hu hd => ?_, ?_⟩
    · simp only [Act.put, List.setIfInBounds_toArray, List.set_cons_zero, List.set_cons_succ]
      have e3 : f 3 = (.pointer (some ⟨w.heap.size, 3, none⟩)) := hd 3 (by kernel_rfl)
      have q := ext_cell hu c3
      go_simp
      exact ⟨Ext.refl _, rfl⟩
    refine ⟨fun u hu hd => ?_, ?_⟩
    · simp only [Act.put, List.setIfInBounds_toArray, List.set_cons_zero, List.set_cons_succ]
      have e4 : f 4 = (.slice g.vA e.val.length g.vc) := hd 4 (by kernel_rfl)
      go_simp
      refine (clone_any _ lo hi e.val u (HM.out.v.below (Ext.trans HX.out (Ext.trans (Ext.drew w1) hu)) HHI.out) (Nat.le_trans HHI.out (Ext.trans HX.out (Ext.trans (Ext.drew w1) hu)).size) HV.out).mono ?_
      rintro x w9 ⟨v, rfl, hown, hb9⟩
      exact ⟨v, rfl, hb9, ownsRow_base hown (Ext.trans (Ext.drew w1) hu).size⟩
    refine ⟨fun u hu hd => ?_, ?_⟩
    · simp only [Act.put, List.setIfInBounds_toArray, List.set_cons_zero, List.set_cons_succ]
      go_simp
      exact ⟨Ext.refl _, rfl⟩
    trivial
end Go.Proofs.Ytcofnbeemfhcpaa
