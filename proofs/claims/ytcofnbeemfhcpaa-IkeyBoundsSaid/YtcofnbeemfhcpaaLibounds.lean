/- IkeyBounds: entries at their bounds, and just beyond. -/
import Derived.Test.YtcofnbeemfhcpaaItakes
import Derived.Test.YtcofnbeemfhcpaaIknown
import Derived.Test.YtcofnbeemfhcpaaBoxes
import Derived.Test.YtcofnbeemfhcpaaIrise
import Derived.Test.YtcofnbeemfhcpaaIsix
import Derived.Deep.DeepCutAuto
import Derived.BigRegion
import Derived.Laws.MakeOwn
namespace Go.Proofs.Ytcofnbeemfhcpaa.ikeyBounds
open Go.ChangeShapes Go.WideShapes Go.ChangeAt Go.RowKit

theorem make_bytes (w : World) (n : Nat) (hn : n ≤ 1099511627776) : ∃ w', (Instr.makeSlice 22 (.int .i64 (n : Int)) (.int .i64 (n : Int))).run Try.prog w = .ok (.slice (some ⟨w.heap.size, 0, none⟩) n n) w' ∧ Bs w' 0 w'.heap.size (.slice (some ⟨w.heap.size, 0, none⟩) n n) (List.replicate n 0) ∧ Ext w w' := by
  obtain ⟨i0, hi0, hz0, hz1, hz2⟩ := info_parts t5info
  obtain ⟨w', h1, h2, h3⟩ := run_make_full (P := Try.prog) w w.heap.size 22 5 i0 (.int .u8 0) 1 Try.underlying22 hi0 hz0 hz1 .i64 .i64 n (by rw [hz2]; omega) (by unfold maxLen; omega) (Nat.le_refl _)
  have e : (madeCells (Value.int .u8 0).cells (n * 1)).toList = bv (List.replicate n 0) := by
    rw [show (Value.int .u8 0).cells = #[.int .u8 0] from rfl, Nat.mul_one, toList_madeCells_one]
    simp [bv]
  rw [e] at h2
  have hl : (List.replicate n 0).length = n := List.length_replicate
  have hb : Bs w' 0 w'.heap.size (.slice (some ⟨w.heap.size, 0, none⟩) n n) (List.replicate n 0) := by
    have h4 : w'.ownsRow w.heap.size 5 1 (.slice (some ⟨w.heap.size, 0, none⟩) n n) (List.replicate n 0).length (bv (List.replicate n 0)) := by rw [hl]; exact h2
    exact (Bs.of_own h4).wide (Nat.zero_le _) (Nat.le_refl _)
  exact ⟨w', h1, hb, ⟨h3.os, h3.tape, h3.output, h3.size, fun k hk => h3.block k hk (by simp)⟩⟩

theorem cut0 (A : Option Addr) (n c j : Nat) (hjn : j ≤ n) (hc : n ≤ c) (w : World) : (Instr.slice 22 (.slice A n c) none (some (.int .i64 (j : Int))) none).run Try.prog w = .ok (.slice A j c) w := by
  obtain ⟨i0, hi, _, hz1, _⟩ := info_parts t5info
  have he : Try.prog.underlying 22 = some (.slice (Try.prog.elem 22)) := by kernel_rfl
  have hs : (sizeOf (Try.prog.elem 22)).run Try.prog w = .ok 1 w := by
    have e : Try.prog.elem 22 = 5 := by kernel_rfl
    rw [e]
    simp [Go.sizeOf, typeInfo, hi, hz1]
  rw [run_slice_h w 22 A n c he .i64 (j : Int) (by omega) (by omega), hs]
  by_cases h : c = 0
  · subst h; simp [Result.andThen, sliced]
  · have : ¬ c = 0 := h
    cases A <;> simp [Result.andThen, sliced, Addr.add]

/-- A row of zeros. -/
def Zr (n : Nat) (v : Value) (u : World) : Prop := ∃ A hi, v = .slice A n n ∧ hi ≤ u.heap.size ∧ Bs u 0 hi (.slice A n n) (List.replicate n 0)
theorem mono_zr (n : Nat) : Mono (Zr n) := fun v u u' h hu => by
  obtain ⟨A, hi, e, h1, h2⟩ := h
  exact ⟨A, hi, e, Nat.le_trans h1 hu.size, h2.below hu h1⟩
/-- A box that is new. -/
def Fresh (B : Nat) (v : Value) (u : World) : Prop := ∃ g, B ≤ g ∧ v = .pointer (some ⟨g, 0, none⟩) ∧ u.heap[g]? = some (.cells #[.slice none 0 0, .int .i64 0, .int .i64 0, .slice none 0 0] 25 (0, 0))
theorem mono_fresh (B : Nat) : Mono (Fresh B) := fun v u u' h hu => by
  obtain ⟨g, h1, e, h2⟩ := h
  exact ⟨g, h1, e, ext_heap hu h2⟩

theorem box_four {u : World} {g : Nat} {a b c d x y z t : Value} {ty : TypeId} (_ : u.heap[g]? = some (.cells #[a, b, c, d] ty (0, 0))) {B : Nat} (hg : B ≤ g) :
    Below B u ((((u.setCell ⟨g, 0, none⟩ x).setCell ⟨g, 1, none⟩ y).setCell ⟨g, 2, none⟩ z).setCell ⟨g, 3, none⟩ t) := Below.setCell (Below.setCell (Below.setCell (Below.setCell (Below.refl _ _) hg _) hg _) hg _) hg _
theorem box_far {u : World} {g : Nat} {x y z t : Value} (k : Nat) (h : k ≠ g) : ((((u.setCell ⟨g, 0, none⟩ x).setCell ⟨g, 1, none⟩ y).setCell ⟨g, 2, none⟩ z).setCell ⟨g, 3, none⟩ t).heap[k]? = u.heap[k]? := by
  rw [Below.heap_setCell _ _ _ _ h, Below.heap_setCell _ _ _ _ h, Below.heap_setCell _ _ _ _ h, Below.heap_setCell _ _ _ _ h]

set_option maxRecDepth 100000 in
set_option maxHeartbeats 20000000 in
theorem walk (W : World) :
    Calls Try.prog 3 #[] W fun e w' => e = .returned (.bool true) ∧ Below W.heap.size W w' := by
  go_enter Try.func3, Try.ntmps3
  go_upto_region 1 with (fail)
  refine flow (by kernel_rfl) [Zr 33, Zr 65537, Zr 33, Zr 65537] (by kernel_rfl) (by kernel_rfl) ?mono (fun f1 => ?obl) ?fin
  case mono =>
    simp only [List.forall_mem_cons, List.not_mem_nil, false_imp_iff, implies_true, and_true]
    exact ⟨mono_zr _, mono_zr _, mono_zr _, mono_zr _⟩
  case obl =>
    refine ⟨fun u hu hd => ?_, ?_⟩
    · obtain ⟨wm, hr, hbs, hx⟩ := make_bytes u 33 (by decide)
      have hr2 : (Instr.makeSlice 22 (.int .i64 33) (.int .i64 33)).run Try.prog u = .ok (.slice (some ⟨u.heap.size, 0, none⟩) 33 33) wm := hr
      have HB := Lib.hid hbs
      have HX := Lib.hid hx
      clear hr hbs hx
      go_simp
      exact ⟨HX.out, ⟨_, _, rfl, Nat.le_refl _, HB.out⟩⟩
    refine ⟨fun u hu hd => ?_, ?_⟩
    · simp only [Act.put, List.setIfInBounds_toArray, List.set_cons_zero, List.set_cons_succ]
      obtain ⟨wm, hr, hbs, hx⟩ := make_bytes u 65537 (by decide)
      have hr2 : (Instr.makeSlice 22 (.int .i64 65537) (.int .i64 65537)).run Try.prog u = .ok (.slice (some ⟨u.heap.size, 0, none⟩) 65537 65537) wm := hr
      have HB := Lib.hid hbs
      have HX := Lib.hid hx
      clear hr hbs hx
      go_simp
      exact ⟨HX.out, ⟨_, _, rfl, Nat.le_refl _, HB.out⟩⟩
    refine ⟨fun u hu hd => ?_, ?_⟩
    · simp only [Act.put, List.setIfInBounds_toArray, List.set_cons_zero, List.set_cons_succ]
      have h0 : Zr 33 (f1 0) u := hd 0 (by kernel_rfl)
      have H0 := Lib.hid h0
      clear h0
      go_simp
      exact ⟨Ext.refl _, H0.out⟩
    refine ⟨fun u hu hd => ?_, ?_⟩
    · simp only [Act.put, List.setIfInBounds_toArray, List.set_cons_zero, List.set_cons_succ]
      have h0 : Zr 65537 (f1 1) u := hd 1 (by kernel_rfl)
      have H0 := Lib.hid h0
      clear h0
      go_simp
      exact ⟨Ext.refl _, H0.out⟩
    trivial
  case fin =>
    intro g1 u hu hg
    simp only [puts, Act.put, List.setIfInBounds_toArray, List.set_cons_zero, List.set_cons_succ]
    obtain ⟨A1, h1, e1, l1, b1⟩ : Zr 33 (g1 2) u := hg 2 (by decide)
    obtain ⟨A2, h2, e2, l2, b2⟩ : Zr 65537 (g1 3) u := hg 3 (by decide)
    obtain ⟨v0, e0⟩ : ∃ v, v = g1 0 := ⟨_, rfl⟩
    obtain ⟨v1, e1'⟩ : ∃ v, v = g1 1 := ⟨_, rfl⟩
    rw [e1, e2, ← e0, ← e1']
    have HX1 : Hid (Ext W u) := Ext.trans (Ext.drew W) hu
    have HB1 := Lib.hid (b1.wide (Nat.le_refl _) l1)
    have HB2 := Lib.hid (b2.wide (Nat.le_refl _) l2)
    clear hg hu e0 e1' e1 e2 l1 l2 b1 b2
    have s1 : ∀ u, (Instr.slice 22 (.slice A1 33 33) none (some (.int .i64 32)) none).run Try.prog u = .ok (.slice A1 32 33) u := fun u => cut0 A1 33 33 32 (by decide) (by decide) u
    have s2 : ∀ u, (Instr.slice 22 (.slice A2 65537 65537) none (some (.int .i64 65536)) none).run Try.prog u = .ok (.slice A2 65536 65537) u := fun u => cut0 A2 65537 65537 65536 (by decide) (by decide) u
    go_upto_region 2 with (fail)
    refine flow_tail (by kernel_rfl) [Is (.slice A1 33 33), Is (.slice A1 32 33), Is (.slice A2 65537 65537), Is (.slice A2 65536 65537), Is (.agg #[.slice A1 32 33, .int .i64 2147483647, .int .i64 1, .slice A2 65536 65537]), Fresh u.heap.size] 6 (by kernel_rfl) (by kernel_rfl) (by kernel_rfl) (by kernel_rfl) ?mono (fun f1 => ?obl) ?fin
    case mono =>
      simp only [List.forall_mem_cons, List.not_mem_nil, false_imp_iff, implies_true, and_true]
      exact ⟨.is _, .is _, .is _, .is _, .is _, mono_fresh _⟩
    case obl =>
      refine ⟨fun u' hu hd => ?_, ?_⟩
      · go_simp
        exact ⟨Ext.refl _, rfl⟩
      refine ⟨fun u' hu hd => ?_, ?_⟩
      · simp only [Act.put, List.setIfInBounds_toArray, List.set_cons_zero, List.set_cons_succ]
        have e0 : f1 0 = .slice A1 33 33 := hd 0 (by kernel_rfl)
        go_simp
        exact ⟨Ext.refl _, rfl⟩
      refine ⟨fun u' hu hd => ?_, ?_⟩
      · simp only [Act.put, List.setIfInBounds_toArray, List.set_cons_zero, List.set_cons_succ]
        go_simp
        exact ⟨Ext.refl _, rfl⟩
      refine ⟨fun u' hu hd => ?_, ?_⟩
      · simp only [Act.put, List.setIfInBounds_toArray, List.set_cons_zero, List.set_cons_succ]
        have e2 : f1 2 = .slice A2 65537 65537 := hd 2 (by kernel_rfl)
        go_simp
        exact ⟨Ext.refl _, rfl⟩
      refine ⟨fun u' hu hd => ?_, ?_⟩
      · simp only [Act.put, List.setIfInBounds_toArray, List.set_cons_zero, List.set_cons_succ]
        have e1 : f1 1 = .slice A1 32 33 := hd 1 (by kernel_rfl)
        have e3 : f1 3 = .slice A2 65536 65537 := hd 3 (by kernel_rfl)
        go_simp
        exact ⟨Ext.refl _, rfl⟩
      refine ⟨fun u' hu hd => ?_, ?_⟩
      · simp only [Act.put, List.setIfInBounds_toArray, List.set_cons_zero, List.set_cons_succ]
        have hu2 := Ext.trans (Ext.drew u) hu
        go_simp
        refine ⟨ext_alloc _ _, ⟨_, hu2.size, rfl, heap_at _ _ rfl⟩⟩
      trivial
    case fin =>
      intro g1 u2 hu hg
      simp only [List.take_succ_cons, List.take_zero, List.drop_succ_cons, List.drop_zero, puts, Act.put, List.setIfInBounds_toArray, List.set_cons_zero, List.set_cons_succ]
      have h4 : g1 4 = .agg #[.slice A1 32 33, .int .i64 2147483647, .int .i64 1, .slice A2 65536 65537] := hg 4 (by decide)
      obtain ⟨ga, hga, e5, hbx⟩ : Fresh u.heap.size (g1 5) u2 := hg 5 (by decide)
      rw [h4, e5]
      have HX2 : Hid (Ext u u2) := Ext.trans (Ext.drew u) hu
      have HGA := Lib.hid hga
      have HBX := Lib.hid hbx
      have q0 := cell_of hbx (k := 0) rfl
      have q1 := cell_of hbx (k := 1) rfl
      have q2 := cell_of hbx (k := 2) rfl
      have q3 := cell_of hbx (k := 3) rfl
      have z0 := frozen_four hbx (j := 0)
      have z1 := frozen_four hbx (j := 1)
      have z2 := frozen_four hbx (j := 2)
      have z3 := frozen_four hbx (j := 3)
      clear hg hu h4 e5 hga hbx s1 s2
      go_upto_region 3 with (fail)
      obtain ⟨w3, hw3⟩ : ∃ w3, w3 = (((u2.setCell ⟨ga, 0, none⟩ (.slice A1 32 33)).setCell ⟨ga, 1, none⟩ (.int .i64 2147483647)).setCell ⟨ga, 2, none⟩ (.int .i64 1)).setCell ⟨ga, 3, none⟩ (.slice A2 65536 65537) := ⟨_, rfl⟩
      rw [← hw3]
      have HA3 : Hid (w3.heap[ga]? = some (.cells #[.slice A1 32 33, .int .i64 2147483647, .int .i64 1, .slice A2 65536 65537] 25 (0, 0))) := by rw [hw3]; exact set_four HBX.out
      have HX3 : Hid (Ext u w3) := by rw [hw3]; exact Below.setCell (Below.setCell (Below.setCell (Below.setCell HX2.out HGA.out _) HGA.out _) HGA.out _) HGA.out _
      clear hw3 q0 q1 q2 q3 z0 z1 z2 z3
      have HAL3 : Hid (ga < w3.heap.size) := (Array.getElem?_eq_some_iff.1 HA3.out).1
      refine Fi.flow (by kernel_rfl) (BoxI w3.heap.size w3 25 #[.slice none 0 0, .int .i64 0, .int .i64 0, .slice none 0 0] #[.slice A1 32 33, .int .i64 2147483647, .int .i64 1, .slice A2 65536 65537] [(4, 8), (5, 9), (6, 10), (7, 11)] 4 (.agg #[.slice A1 32 33, .int .i64 2147483647, .int .i64 1, .slice A2 65536 65537])) (by kernel_rfl) (by kernel_rfl) (fun f => BoxI.start _ _) (fun f1 => ?obl3) ?fin3
      case obl3 =>
        refine ⟨fun sn u' hI hn hd => ?_, ?_⟩
        · have hA := (hI.below.block _ HAL3.out).trans HA3.out
          have q0 := cell_of hA (k := 0) rfl
          have q1 := cell_of hA (k := 1) rfl
          have q2 := cell_of hA (k := 2) rfl
          have q3 := cell_of hA (k := 3) rfl
          have HI := Lib.hid hI
          clear hI hn hd
          go_simp
          exact HI.out.load rfl (by decide)
        refine ⟨fun sn u' hI hn hd => ?_, ?_⟩
        · simp only [Act.put, List.setIfInBounds_toArray, List.set_cons_zero, List.set_cons_succ]
          have hA := (hI.below.block _ HAL3.out).trans HA3.out
          have q0 := cell_of hA (k := 0) rfl
          have q1 := cell_of hA (k := 1) rfl
          have q2 := cell_of hA (k := 2) rfl
          have q3 := cell_of hA (k := 3) rfl
          have HI := Lib.hid hI
          clear hI hn hd
          go_simp
          exact HI.out.load rfl (by decide)
        refine ⟨fun sn u' hI hn hd => ?_, ?_⟩
        · simp only [Act.put, List.setIfInBounds_toArray, List.set_cons_zero, List.set_cons_succ]
          have hA := (hI.below.block _ HAL3.out).trans HA3.out
          have q0 := cell_of hA (k := 0) rfl
          have q1 := cell_of hA (k := 1) rfl
          have q2 := cell_of hA (k := 2) rfl
          have q3 := cell_of hA (k := 3) rfl
          have HI := Lib.hid hI
          clear hI hn hd
          go_simp
          exact HI.out.load rfl (by decide)
        refine ⟨fun sn u' hI hn hd => ?_, ?_⟩
        · simp only [Act.put, List.setIfInBounds_toArray, List.set_cons_zero, List.set_cons_succ]
          have hA := (hI.below.block _ HAL3.out).trans HA3.out
          have q0 := cell_of hA (k := 0) rfl
          have q1 := cell_of hA (k := 1) rfl
          have q2 := cell_of hA (k := 2) rfl
          have q3 := cell_of hA (k := 3) rfl
          have HI := Lib.hid hI
          clear hI hn hd
          go_simp
          exact HI.out.load rfl (by decide)
        refine ⟨fun sn u' hI hn hd => ?_, ?_⟩
        · simp only [Act.put, List.setIfInBounds_toArray, List.set_cons_zero, List.set_cons_succ]
          have HI := Lib.hid hI
          have HN := Lib.hid hn
          clear hI hn hd
          go_simp
          exact HI.out.alloc (q0 := (4, 8)) rfl (by decide) HN.out
        refine ⟨fun sn u' hI hn hd => ?_, ?_⟩
        · simp only [Act.put, List.setIfInBounds_toArray, List.set_cons_zero, List.set_cons_succ]
          have HI := Lib.hid hI
          have HN := Lib.hid hn
          clear hI hn hd
          go_simp
          exact HI.out.alloc (q0 := (5, 9)) rfl (by decide) HN.out
        refine ⟨fun sn u' hI hn hd => ?_, ?_⟩
        · simp only [Act.put, List.setIfInBounds_toArray, List.set_cons_zero, List.set_cons_succ]
          have HI := Lib.hid hI
          have HN := Lib.hid hn
          clear hI hn hd
          go_simp
          exact HI.out.alloc (q0 := (6, 10)) rfl (by decide) HN.out
        refine ⟨fun sn u' hI hn hd => ?_, ?_⟩
        · simp only [Act.put, List.setIfInBounds_toArray, List.set_cons_zero, List.set_cons_succ]
          have HI := Lib.hid hI
          have HN := Lib.hid hn
          clear hI hn hd
          go_simp
          exact HI.out.alloc (q0 := (7, 11)) rfl (by decide) HN.out
        refine ⟨fun sn u' hI hn hd => ?_, ?_⟩
        · simp only [Act.put, List.setIfInBounds_toArray, List.set_cons_zero, List.set_cons_succ]
          obtain ⟨g, e4, hg, hh, hk⟩ := hI.store (q0 := (4, 8)) rfl (by decide) (hd 4 (by kernel_rfl)) hn
          have e5 : f1 0 = .agg #[.slice A1 32 33, .int .i64 2147483647, .int .i64 1, .slice A2 65536 65537] := hI.loads 0 (by decide) (hd 0 (by kernel_rfl))
          have e6 : f1 4 = .pointer (some ⟨g, 0, none⟩) := e4
          have q0 := cell_of hh (k := 0) rfl
          have q1 := cell_of hh (k := 1) rfl
          have q2 := cell_of hh (k := 2) rfl
          have q3 := cell_of hh (k := 3) rfl
          have z0 := frozen_four hh (j := 0)
          have z1 := frozen_four hh (j := 1)
          have z2 := frozen_four hh (j := 2)
          have z3 := frozen_four hh (j := 3)
          have HK := Lib.hid hk
          have HH := Lib.hid hh
          have HG := Lib.hid hg
          clear hI hn hd hk hh e4 hg
          go_simp
          exact HK.out _ _ (box_four HH.out HG.out) (set_four HH.out) (fun k h => box_far k h)
        refine ⟨fun sn u' hI hn hd => ?_, ?_⟩
        · simp only [Act.put, List.setIfInBounds_toArray, List.set_cons_zero, List.set_cons_succ]
          obtain ⟨g, e4, hg, hh, hk⟩ := hI.store (q0 := (5, 9)) rfl (by decide) (hd 5 (by kernel_rfl)) hn
          have e5 : f1 1 = .agg #[.slice A1 32 33, .int .i64 2147483647, .int .i64 1, .slice A2 65536 65537] := hI.loads 1 (by decide) (hd 1 (by kernel_rfl))
          have e6 : f1 5 = .pointer (some ⟨g, 0, none⟩) := e4
          have q0 := cell_of hh (k := 0) rfl
          have q1 := cell_of hh (k := 1) rfl
          have q2 := cell_of hh (k := 2) rfl
          have q3 := cell_of hh (k := 3) rfl
          have z0 := frozen_four hh (j := 0)
          have z1 := frozen_four hh (j := 1)
          have z2 := frozen_four hh (j := 2)
          have z3 := frozen_four hh (j := 3)
          have HK := Lib.hid hk
          have HH := Lib.hid hh
          have HG := Lib.hid hg
          clear hI hn hd hk hh e4 hg
          go_simp
          exact HK.out _ _ (box_four HH.out HG.out) (set_four HH.out) (fun k h => box_far k h)
        refine ⟨fun sn u' hI hn hd => ?_, ?_⟩
        · simp only [Act.put, List.setIfInBounds_toArray, List.set_cons_zero, List.set_cons_succ]
          obtain ⟨g, e4, hg, hh, hk⟩ := hI.store (q0 := (6, 10)) rfl (by decide) (hd 6 (by kernel_rfl)) hn
          have e5 : f1 2 = .agg #[.slice A1 32 33, .int .i64 2147483647, .int .i64 1, .slice A2 65536 65537] := hI.loads 2 (by decide) (hd 2 (by kernel_rfl))
          have e6 : f1 6 = .pointer (some ⟨g, 0, none⟩) := e4
          have q0 := cell_of hh (k := 0) rfl
          have q1 := cell_of hh (k := 1) rfl
          have q2 := cell_of hh (k := 2) rfl
          have q3 := cell_of hh (k := 3) rfl
          have z0 := frozen_four hh (j := 0)
          have z1 := frozen_four hh (j := 1)
          have z2 := frozen_four hh (j := 2)
          have z3 := frozen_four hh (j := 3)
          have HK := Lib.hid hk
          have HH := Lib.hid hh
          have HG := Lib.hid hg
          clear hI hn hd hk hh e4 hg
          go_simp
          exact HK.out _ _ (box_four HH.out HG.out) (set_four HH.out) (fun k h => box_far k h)
        refine ⟨fun sn u' hI hn hd => ?_, ?_⟩
        · simp only [Act.put, List.setIfInBounds_toArray, List.set_cons_zero, List.set_cons_succ]
          obtain ⟨g, e4, hg, hh, hk⟩ := hI.store (q0 := (7, 11)) rfl (by decide) (hd 7 (by kernel_rfl)) hn
          have e5 : f1 3 = .agg #[.slice A1 32 33, .int .i64 2147483647, .int .i64 1, .slice A2 65536 65537] := hI.loads 3 (by decide) (hd 3 (by kernel_rfl))
          have e6 : f1 7 = .pointer (some ⟨g, 0, none⟩) := e4
          have q0 := cell_of hh (k := 0) rfl
          have q1 := cell_of hh (k := 1) rfl
          have q2 := cell_of hh (k := 2) rfl
          have q3 := cell_of hh (k := 3) rfl
          have z0 := frozen_four hh (j := 0)
          have z1 := frozen_four hh (j := 1)
          have z2 := frozen_four hh (j := 2)
          have z3 := frozen_four hh (j := 3)
          have HK := Lib.hid hk
          have HH := Lib.hid hh
          have HG := Lib.hid hg
          clear hI hn hd hk hh e4 hg
          go_simp
          exact HK.out _ _ (box_four HH.out HG.out) (set_four HH.out) (fun k h => box_far k h)
        trivial
      case fin3 =>
        intro g1 sn u4 hall hI
        simp only [puts, Act.put, List.setIfInBounds_toArray, List.set_cons_zero, List.set_cons_succ]
        obtain ⟨gb, eb, hgb, hbb⟩ := hI.box (4, 8) (by decide) (hall 4 (by show 4 < 12; decide))
        rw [if_pos (hall 8 (by show 8 < 12; decide))] at hbb
        have eb' : g1 4 = .pointer (some ⟨gb, 0, none⟩) := eb
        obtain ⟨gc, ec, hgc, hbc⟩ := hI.box (5, 9) (by decide) (hall 5 (by show 5 < 12; decide))
        rw [if_pos (hall 9 (by show 9 < 12; decide))] at hbc
        have ec' : g1 5 = .pointer (some ⟨gc, 0, none⟩) := ec
        obtain ⟨gd, ed, hgd, hbd⟩ := hI.box (6, 10) (by decide) (hall 6 (by show 6 < 12; decide))
        rw [if_pos (hall 10 (by show 10 < 12; decide))] at hbd
        have ed' : g1 6 = .pointer (some ⟨gd, 0, none⟩) := ed
        obtain ⟨ge, ee, hge, hbe⟩ := hI.box (7, 11) (by decide) (hall 7 (by show 7 < 12; decide))
        rw [if_pos (hall 11 (by show 11 < 12; decide))] at hbe
        have ee' : g1 7 = .pointer (some ⟨ge, 0, none⟩) := ee
        have nbc : gb ≠ gc := fun e => hI.apart (4, 8) (by decide) (5, 9) (by decide) (by decide) (hall 4 (by show 4 < 12; decide)) (hall 5 (by show 5 < 12; decide)) (by rw [eb, ec, e])
        have nbd : gb ≠ gd := fun e => hI.apart (4, 8) (by decide) (6, 10) (by decide) (by decide) (hall 4 (by show 4 < 12; decide)) (hall 6 (by show 6 < 12; decide)) (by rw [eb, ed, e])
        have nbe : gb ≠ ge := fun e => hI.apart (4, 8) (by decide) (7, 11) (by decide) (by decide) (hall 4 (by show 4 < 12; decide)) (hall 7 (by show 7 < 12; decide)) (by rw [eb, ee, e])
        have ncb : gc ≠ gb := fun e => hI.apart (5, 9) (by decide) (4, 8) (by decide) (by decide) (hall 5 (by show 5 < 12; decide)) (hall 4 (by show 4 < 12; decide)) (by rw [ec, eb, e])
        have ncd : gc ≠ gd := fun e => hI.apart (5, 9) (by decide) (6, 10) (by decide) (by decide) (hall 5 (by show 5 < 12; decide)) (hall 6 (by show 6 < 12; decide)) (by rw [ec, ed, e])
        have nce : gc ≠ ge := fun e => hI.apart (5, 9) (by decide) (7, 11) (by decide) (by decide) (hall 5 (by show 5 < 12; decide)) (hall 7 (by show 7 < 12; decide)) (by rw [ec, ee, e])
        have ndb : gd ≠ gb := fun e => hI.apart (6, 10) (by decide) (4, 8) (by decide) (by decide) (hall 6 (by show 6 < 12; decide)) (hall 4 (by show 4 < 12; decide)) (by rw [ed, eb, e])
        have ndc : gd ≠ gc := fun e => hI.apart (6, 10) (by decide) (5, 9) (by decide) (by decide) (hall 6 (by show 6 < 12; decide)) (hall 5 (by show 5 < 12; decide)) (by rw [ed, ec, e])
        have nde : gd ≠ ge := fun e => hI.apart (6, 10) (by decide) (7, 11) (by decide) (by decide) (hall 6 (by show 6 < 12; decide)) (hall 7 (by show 7 < 12; decide)) (by rw [ed, ee, e])
        have neb : ge ≠ gb := fun e => hI.apart (7, 11) (by decide) (4, 8) (by decide) (by decide) (hall 7 (by show 7 < 12; decide)) (hall 4 (by show 4 < 12; decide)) (by rw [ee, eb, e])
        have nec : ge ≠ gc := fun e => hI.apart (7, 11) (by decide) (5, 9) (by decide) (by decide) (hall 7 (by show 7 < 12; decide)) (hall 5 (by show 5 < 12; decide)) (by rw [ee, ec, e])
        have ned : ge ≠ gd := fun e => hI.apart (7, 11) (by decide) (6, 10) (by decide) (by decide) (hall 7 (by show 7 < 12; decide)) (hall 6 (by show 6 < 12; decide)) (by rw [ee, ed, e])
        have l0 : g1 0 = .agg #[.slice A1 32 33, .int .i64 2147483647, .int .i64 1, .slice A2 65536 65537] := hI.loads 0 (by decide) (hall 0 (by show 0 < 12; decide))
        have l1 : g1 1 = .agg #[.slice A1 32 33, .int .i64 2147483647, .int .i64 1, .slice A2 65536 65537] := hI.loads 1 (by decide) (hall 1 (by show 1 < 12; decide))
        have l2 : g1 2 = .agg #[.slice A1 32 33, .int .i64 2147483647, .int .i64 1, .slice A2 65536 65537] := hI.loads 2 (by decide) (hall 2 (by show 2 < 12; decide))
        have l3 : g1 3 = .agg #[.slice A1 32 33, .int .i64 2147483647, .int .i64 1, .slice A2 65536 65537] := hI.loads 3 (by decide) (hall 3 (by show 3 < 12; decide))
        have HXu4 : Hid (Ext w3 u4) := hI.below
        rw [l0, l1, l2, l3, eb', ec', ed', ee']
        clear hI hall l0 l1 l2 l3 eb ec ed ee eb' ec' ed' ee'
        have qb := cell_of hbb (k := 0) rfl
        have qc := cell_of hbc (k := 3) rfl
        have qd := cell_of hbd (k := 1) rfl
        have qe := cell_of hbe (k := 2) rfl
        have zb := frozen_four hbb (j := 0)
        have zc := frozen_four hbc (j := 3)
        have zd := frozen_four hbd (j := 1)
        have ze := frozen_four hbe (j := 2)
        have HBOX := Lib.hid (And.intro hbb (And.intro hbc (And.intro hbd hbe)))
        have HGS := Lib.hid (And.intro hgb (And.intro hgc (And.intro hgd hge)))
        clear hbb hbc hbd hbe hgb hgc hgd hge
        go_upto_region 5 with (fail)
        obtain ⟨w5, hw5⟩ : ∃ w5, w5 = (((u4.setCell ⟨gb, 0, none⟩ (.slice A1 33 33)).setCell ⟨gc, 3, none⟩ (.slice A2 65537 65537)).setCell ⟨gd, 1, none⟩ (.int .i64 2147483648)).setCell ⟨ge, 2, none⟩ (.int .i64 3) := ⟨_, rfl⟩
        rw [← hw5]
        obtain ⟨hbb, hbc, hbd, hbe⟩ := HBOX.out
        obtain ⟨hgb, hgc, hgd, hge⟩ := HGS.out
        have HBB : Hid (w5.heap[gb]? = some (.cells #[.slice A1 33 33, .int .i64 2147483647, .int .i64 1, .slice A2 65536 65537] 25 (0, 0))) := by rw [hw5, Below.heap_setCell _ _ _ _ nbe, Below.heap_setCell _ _ _ _ nbd, Below.heap_setCell _ _ _ _ nbc]; exact heap_setCell_same u4 gb 0 _ _ _ hbb
        have HBC : Hid (w5.heap[gc]? = some (.cells #[.slice A1 32 33, .int .i64 2147483647, .int .i64 1, .slice A2 65537 65537] 25 (0, 0))) := by rw [hw5, Below.heap_setCell _ _ _ _ nce, Below.heap_setCell _ _ _ _ ncd]; exact heap_setCell_same _ gc 3 _ _ _ ((Below.heap_setCell _ _ _ _ ncb).trans hbc)
        have HBD : Hid (w5.heap[gd]? = some (.cells #[.slice A1 32 33, .int .i64 2147483648, .int .i64 1, .slice A2 65536 65537] 25 (0, 0))) := by rw [hw5, Below.heap_setCell _ _ _ _ nde]; exact heap_setCell_same _ gd 1 _ _ _ ((Below.heap_setCell _ _ _ _ ndc).trans ((Below.heap_setCell _ _ _ _ ndb).trans hbd))
        have HBE : Hid (w5.heap[ge]? = some (.cells #[.slice A1 32 33, .int .i64 2147483647, .int .i64 3, .slice A2 65536 65537] 25 (0, 0))) := by rw [hw5]; exact heap_setCell_same _ ge 2 _ _ _ ((Below.heap_setCell _ _ _ _ ned).trans ((Below.heap_setCell _ _ _ _ nec).trans ((Below.heap_setCell _ _ _ _ neb).trans hbe)))
        have HX5 : Hid (Ext w3 w5) := by rw [hw5]; exact Below.setCell (Below.setCell (Below.setCell (Below.setCell HXu4.out hgb _) hgc _) hgd _) hge _
        have HA5 : Hid (w5.heap[ga]? = some (.cells #[.slice A1 32 33, .int .i64 2147483647, .int .i64 1, .slice A2 65536 65537] 25 (0, 0))) := (HX5.out.block _ HAL3.out).trans HA3.out
        clear hw5 qb qc qd qe zb zc zd ze nbc nbd nbe ncb ncd nce ndb ndc nde neb nec ned hbb hbc hbd hbe hgb hgc hgd hge HBOX HGS HXu4 HA3
        have HAL5 : Hid (ga < w5.heap.size) := (Array.getElem?_eq_some_iff.1 HA5.out).1
        refine Fi.flow (by kernel_rfl) (BoxI w5.heap.size w5 25 #[.slice none 0 0, .int .i64 0, .int .i64 0, .slice none 0 0] #[.slice A1 32 33, .int .i64 2147483647, .int .i64 1, .slice A2 65536 65537] [(2, 4), (3, 5)] 2 (.agg #[.slice A1 32 33, .int .i64 2147483647, .int .i64 1, .slice A2 65536 65537])) (by kernel_rfl) (by kernel_rfl) (fun f => BoxI.start _ _) (fun f1 => ?obl5) ?fin5
        case obl5 =>
          refine ⟨fun sn u' hI hn hd => ?_, ?_⟩
          · have hA := (hI.below.block _ HAL5.out).trans HA5.out
            have q0 := cell_of hA (k := 0) rfl
            have q1 := cell_of hA (k := 1) rfl
            have q2 := cell_of hA (k := 2) rfl
            have q3 := cell_of hA (k := 3) rfl
            have HI := Lib.hid hI
            clear hI hn hd
            go_simp
            exact HI.out.load rfl (by decide)
          refine ⟨fun sn u' hI hn hd => ?_, ?_⟩
          · simp only [Act.put, List.setIfInBounds_toArray, List.set_cons_zero, List.set_cons_succ]
            have hA := (hI.below.block _ HAL5.out).trans HA5.out
            have q0 := cell_of hA (k := 0) rfl
            have q1 := cell_of hA (k := 1) rfl
            have q2 := cell_of hA (k := 2) rfl
            have q3 := cell_of hA (k := 3) rfl
            have HI := Lib.hid hI
            clear hI hn hd
            go_simp
            exact HI.out.load rfl (by decide)
          refine ⟨fun sn u' hI hn hd => ?_, ?_⟩
          · simp only [Act.put, List.setIfInBounds_toArray, List.set_cons_zero, List.set_cons_succ]
            have HI := Lib.hid hI
            have HN := Lib.hid hn
            clear hI hn hd
            go_simp
            exact HI.out.alloc (q0 := (2, 4)) rfl (by decide) HN.out
          refine ⟨fun sn u' hI hn hd => ?_, ?_⟩
          · simp only [Act.put, List.setIfInBounds_toArray, List.set_cons_zero, List.set_cons_succ]
            have HI := Lib.hid hI
            have HN := Lib.hid hn
            clear hI hn hd
            go_simp
            exact HI.out.alloc (q0 := (3, 5)) rfl (by decide) HN.out
          refine ⟨fun sn u' hI hn hd => ?_, ?_⟩
          · simp only [Act.put, List.setIfInBounds_toArray, List.set_cons_zero, List.set_cons_succ]
            obtain ⟨g, e4, hg, hh, hk⟩ := hI.store (q0 := (2, 4)) rfl (by decide) (hd 2 (by kernel_rfl)) hn
            have e5 : f1 0 = .agg #[.slice A1 32 33, .int .i64 2147483647, .int .i64 1, .slice A2 65536 65537] := hI.loads 0 (by decide) (hd 0 (by kernel_rfl))
            have e6 : f1 2 = .pointer (some ⟨g, 0, none⟩) := e4
            have q0 := cell_of hh (k := 0) rfl
            have q1 := cell_of hh (k := 1) rfl
            have q2 := cell_of hh (k := 2) rfl
            have q3 := cell_of hh (k := 3) rfl
            have z0 := frozen_four hh (j := 0)
            have z1 := frozen_four hh (j := 1)
            have z2 := frozen_four hh (j := 2)
            have z3 := frozen_four hh (j := 3)
            have HK := Lib.hid hk
            have HH := Lib.hid hh
            have HG := Lib.hid hg
            clear hI hn hd hk hh e4 hg
            go_simp
            exact HK.out _ _ (box_four HH.out HG.out) (set_four HH.out) (fun k h => box_far k h)
          refine ⟨fun sn u' hI hn hd => ?_, ?_⟩
          · simp only [Act.put, List.setIfInBounds_toArray, List.set_cons_zero, List.set_cons_succ]
            obtain ⟨g, e4, hg, hh, hk⟩ := hI.store (q0 := (3, 5)) rfl (by decide) (hd 3 (by kernel_rfl)) hn
            have e5 : f1 1 = .agg #[.slice A1 32 33, .int .i64 2147483647, .int .i64 1, .slice A2 65536 65537] := hI.loads 1 (by decide) (hd 1 (by kernel_rfl))
            have e6 : f1 3 = .pointer (some ⟨g, 0, none⟩) := e4
            have q0 := cell_of hh (k := 0) rfl
            have q1 := cell_of hh (k := 1) rfl
            have q2 := cell_of hh (k := 2) rfl
            have q3 := cell_of hh (k := 3) rfl
            have z0 := frozen_four hh (j := 0)
            have z1 := frozen_four hh (j := 1)
            have z2 := frozen_four hh (j := 2)
            have z3 := frozen_four hh (j := 3)
            have HK := Lib.hid hk
            have HH := Lib.hid hh
            have HG := Lib.hid hg
            clear hI hn hd hk hh e4 hg
            go_simp
            exact HK.out _ _ (box_four HH.out HG.out) (set_four HH.out) (fun k h => box_far k h)
          trivial
        case fin5 =>
          intro g1 sn u6 hall hI
          simp only [puts, Act.put, List.setIfInBounds_toArray, List.set_cons_zero, List.set_cons_succ]
          obtain ⟨gf, ef, hgf, hbf⟩ := hI.box (2, 4) (by decide) (hall 2 (by show 2 < 6; decide))
          rw [if_pos (hall 4 (by show 4 < 6; decide))] at hbf
          have ef' : g1 2 = .pointer (some ⟨gf, 0, none⟩) := ef
          obtain ⟨gg, eg, hgg, hbg⟩ := hI.box (3, 5) (by decide) (hall 3 (by show 3 < 6; decide))
          rw [if_pos (hall 5 (by show 5 < 6; decide))] at hbg
          have eg' : g1 3 = .pointer (some ⟨gg, 0, none⟩) := eg
          have nfg : gf ≠ gg := fun e => hI.apart (2, 4) (by decide) (3, 5) (by decide) (by decide) (hall 2 (by show 2 < 6; decide)) (hall 3 (by show 3 < 6; decide)) (by rw [ef, eg, e])
          have ngf : gg ≠ gf := fun e => hI.apart (3, 5) (by decide) (2, 4) (by decide) (by decide) (hall 3 (by show 3 < 6; decide)) (hall 2 (by show 2 < 6; decide)) (by rw [eg, ef, e])
          have l0 : g1 0 = .agg #[.slice A1 32 33, .int .i64 2147483647, .int .i64 1, .slice A2 65536 65537] := hI.loads 0 (by decide) (hall 0 (by show 0 < 6; decide))
          have l1 : g1 1 = .agg #[.slice A1 32 33, .int .i64 2147483647, .int .i64 1, .slice A2 65536 65537] := hI.loads 1 (by decide) (hall 1 (by show 1 < 6; decide))
          have HXu6 : Hid (Ext w5 u6) := hI.below
          rw [l0, l1, ef', eg']
          clear hI hall l0 l1 ef eg ef' eg'
          have qf := cell_of hbf (k := 0) rfl
          have qg := cell_of hbg (k := 1) rfl
          have zf := frozen_four hbf (j := 0)
          have zg := frozen_four hbg (j := 1)
          have HBOX := Lib.hid (And.intro hbf hbg)
          have HGS := Lib.hid (And.intro hgf hgg)
          clear hbf hbg hgf hgg
          go_upto_region 7 with (fail)
          obtain ⟨w7, hw7⟩ : ∃ w7, w7 = (u6.setCell ⟨gf, 0, none⟩ (.slice none 0 0)).setCell ⟨gg, 1, none⟩ (.int .i64 0) := ⟨_, rfl⟩
          rw [← hw7]
          obtain ⟨hbf, hbg⟩ := HBOX.out
          obtain ⟨hgf, hgg⟩ := HGS.out
          have kf : w7.heap[gf]? = some (.cells #[.slice none 0 0, .int .i64 2147483647, .int .i64 1, .slice A2 65536 65537] 25 (0, 0)) := by rw [hw7, Below.heap_setCell _ _ _ _ nfg]; exact heap_setCell_same u6 gf 0 _ _ _ hbf
          have kg : w7.heap[gg]? = some (.cells #[.slice A1 32 33, .int .i64 0, .int .i64 1, .slice A2 65536 65537] 25 (0, 0)) := by rw [hw7]; exact heap_setCell_same _ gg 1 _ _ _ ((Below.heap_setCell _ _ _ _ ngf).trans hbg)
          have HX7 : Hid (Ext w5 w7) := by rw [hw7]; exact Below.setCell (Below.setCell HXu6.out hgf _) hgg _
          have kb := (HX7.out.block _ (Array.getElem?_eq_some_iff.1 HBB.out).1).trans HBB.out
          have kc := (HX7.out.block _ (Array.getElem?_eq_some_iff.1 HBC.out).1).trans HBC.out
          have kd := (HX7.out.block _ (Array.getElem?_eq_some_iff.1 HBD.out).1).trans HBD.out
          have ke := (HX7.out.block _ (Array.getElem?_eq_some_iff.1 HBE.out).1).trans HBE.out
          have HA7 : Hid (w7.heap[ga]? = some (.cells #[.slice A1 32 33, .int .i64 2147483647, .int .i64 1, .slice A2 65536 65537] 25 (0, 0))) := (HX7.out.block _ HAL5.out).trans HA5.out
          clear hw7 qf qg zf zg nfg ngf hbf hbg hgf hgg HBOX HGS HXu6
          have qb0 := cell_of kb (k := 0) rfl
          have qb1 := cell_of kb (k := 1) rfl
          have qb2 := cell_of kb (k := 2) rfl
          have qb3 := cell_of kb (k := 3) rfl
          have qc0 := cell_of kc (k := 0) rfl
          have qc1 := cell_of kc (k := 1) rfl
          have qc2 := cell_of kc (k := 2) rfl
          have qc3 := cell_of kc (k := 3) rfl
          have qd0 := cell_of kd (k := 0) rfl
          have qd1 := cell_of kd (k := 1) rfl
          have qd2 := cell_of kd (k := 2) rfl
          have qd3 := cell_of kd (k := 3) rfl
          have qe0 := cell_of ke (k := 0) rfl
          have qe1 := cell_of ke (k := 1) rfl
          have qe2 := cell_of ke (k := 2) rfl
          have qe3 := cell_of ke (k := 3) rfl
          have qf0 := cell_of kf (k := 0) rfl
          have qf1 := cell_of kf (k := 1) rfl
          have qf2 := cell_of kf (k := 2) rfl
          have qf3 := cell_of kf (k := 3) rfl
          have qg0 := cell_of kg (k := 0) rfl
          have qg1 := cell_of kg (k := 1) rfl
          have qg2 := cell_of kg (k := 2) rfl
          have qg3 := cell_of kg (k := 3) rfl
          clear kb kc kd ke kf kg HBB HBC HBD HBE
          go_upto_region 8 with (fail)
          obtain ⟨w8, hw8⟩ : ∃ w8, w8 = w7.alloc (.cells #[.slice A1 33 33, .int .i64 2147483647, .int .i64 1, .slice A2 65536 65537, .slice A1 32 33, .int .i64 2147483647, .int .i64 1, .slice A2 65537 65537, .slice A1 32 33, .int .i64 2147483648, .int .i64 1, .slice A2 65536 65537, .slice A1 32 33, .int .i64 2147483647, .int .i64 3, .slice A2 65536 65537, .slice none 0 0, .int .i64 2147483647, .int .i64 1, .slice A2 65536 65537, .slice A1 32 33, .int .i64 0, .int .i64 1, .slice A2 65536 65537] 25) := ⟨_, rfl⟩
          rw [← hw8]
          have hx8 : Ext w7 w8 := by rw [hw8]; exact ext_alloc _ _
          have hxu : Ext u w8 := Ext.trans HX3.out (Ext.trans HX5.out (Ext.trans HX7.out hx8))
          have HXW8 : Hid (Ext W w8) := Ext.trans HX1.out hxu
          obtain ⟨k33, hk, hl1, hc1⟩ : ∃ l, l = List.replicate 33 (0 : Nat) ∧ l.length = 33 ∧ ∀ x ∈ l, x < 256 := ⟨_, rfl, List.length_replicate, fun x hx => by rw [List.eq_of_mem_replicate hx]; decide⟩
          obtain ⟨v17, hv, hl3, hc3⟩ : ∃ l, l = List.replicate 65537 (0 : Nat) ∧ l.length = 65537 ∧ ∀ x ∈ l, x < 256 := ⟨_, rfl, List.length_replicate, fun x hx => by rw [List.eq_of_mem_replicate hx]; decide⟩
          have b1 := HB1.out
          have b3 := HB2.out
          rw [← hk] at b1
          rw [← hv] at b3
          have b2 := b1.cut 32 (by omega)
          have b4 := b3.cut 65536 (by omega)
          obtain ⟨k32, hk2⟩ : ∃ l, l = k33.take 32 := ⟨_, rfl⟩
          obtain ⟨v16, hv2⟩ : ∃ l, l = v17.take 65536 := ⟨_, rfl⟩
          rw [← hk2] at b2
          rw [← hv2] at b4
          have hl2 : k32.length = 32 := by rw [hk2, List.length_take]; omega
          have hl4 : v16.length = 65536 := by rw [hv2, List.length_take]; omega
          have hc2 : ∀ x ∈ k32, x < 256 := fun x hx => hc1 x (by rw [hk2] at hx; exact List.mem_of_mem_take hx)
          have hc4 : ∀ x ∈ v16, x < 256 := fun x hx => hc3 x (by rw [hv2] at hx; exact List.mem_of_mem_take hx)
          have HES0 := six_es (T := 25) (g := w7.heap.size) hl1 hl2 hl3 hl4 (b1.next hxu) (b2.next hxu) (b3.next hxu) (b4.next hxu) hc1 hc2 hc3 hc4 (by rw [hw8]; exact heap_at _ _ rfl)
          have hmay := six_may (A1 := A1) (A2 := A2) (k32 := k32) (v16 := v16) hl1 hl3
          obtain ⟨L, hL⟩ : ∃ L, L = sixL A1 A2 k33 k32 v17 v16 := ⟨_, rfl⟩
          have hLl : L.length = 6 := by rw [hL]; rfl
          rw [← hL] at HES0 hmay
          have HES := Lib.hid HES0
          have HMAY := Lib.hid hmay
          have HLL := Lib.hid hLl
          have HA8 := Lib.hid ((hx8.block _ (Array.getElem?_eq_some_iff.1 HA7.out).1).trans HA7.out)
          obtain ⟨eA, hEA⟩ : ∃ e : Ent, e = ⟨k32, 2147483647, 1, v16⟩ := ⟨_, rfl⟩
          obtain ⟨gA, hGA⟩ : ∃ g : Hd, g = ⟨A1, 33, A2, 65537⟩ := ⟨_, rfl⟩
          have HAT : Hid (eA.at_ gA = .agg #[.slice A1 32 33, .int .i64 2147483647, .int .i64 1, .slice A2 65536 65537]) := by unfold Hid; rw [hEA, hGA]; unfold Ent.at_; simp only [hl2, hl4]
          have HEA : Hid (Em w8 0 w8.heap.size eA gA) := by
            have c2 := b2.next hxu
            have c4 := b4.next hxu
            rw [hEA, hGA]
            refine ⟨?_, ?_, hc2, hc4, by simp only []; decide, by simp only []; decide, by simp only []; decide, by simp only []; decide⟩
            · simp only [hl2]; exact c2
            · simp only [hl4]; exact c4
          have HMA : Hid (eA.may = true) := by rw [hEA]; show mayN k32.length 2147483647 1 v16.length = true; rw [hl2, hl4]; decide
          clear hx8 hxu hk hv hl1 hl3 hc1 hc3 b1 b2 b3 b4 hk2 hv2 hl2 hl4 hc2 hc4 HES0 hmay hL hLl hEA hGA hw8 qb0 qb1 qb2 qb3 qc0 qc1 qc2 qc3 qd0 qd1 qd2 qd3 qe0 qe1 qe2 qe3 qf0 qf1 qf2 qf3 qg0 qg1 qg2 qg3 HB1 HB2
          clear HA5 HA7 HAL3 HAL5 HX5 HX7 HX3 HX2 HBX HGA
          go_wp2_with fail
          go_loopw [0, 11] (fun _ i wr => ∃ k : Nat, k ≤ 6 ∧ i = .int .i64 (k : Int) ∧ Hid (Ext w8 wr)) (fun _ i _ => 6 - (intOf i).toNat)
          case atStart => exact ⟨0, Nat.zero_le _, rfl, Lib.hid (Ext.refl _)⟩
          case round =>
            obtain ⟨k, hk, rfl, HXK⟩ := hrel
            by_cases hlt : k < 6
            · have d : decide ((k : Int) < 6) = true := decide_eq_true (by omega)
              have dn : decide (k < 6) = true := decide_eq_true hlt
              obtain ⟨p, hp⟩ : ∃ p, L[k]? = some p := ⟨_, List.getElem?_eq_getElem (by rw [HLL.out]; exact hlt)⟩
              have HP := Lib.hid hp
              have hpm := HMAY.out p (List.mem_of_getElem? hp)
              obtain ⟨c0, c1, c2, c3⟩ := (HES.out.below HXK.out (Nat.le_refl _)).get hp
              simp only [Nat.zero_add] at c0 c1 c2 c3
              have HM1 : Hid (∀ u, Calls Try.prog 4 #[.agg #[.slice p.2.kA p.1.key.length p.2.kc, .int .i64 p.1.seq, .int .i64 p.1.kind, .slice p.2.vA p.1.val.length p.2.vc]] u fun x w' => x = .returned (.bool false) ∧ Ext u w') := fun u => by
                have h := may_any p.2.kA p.2.vA p.1.key.length p.2.kc p.1.val.length p.2.vc p.1.seq p.1.kind u
                have e : mayN p.1.key.length p.1.seq p.1.kind p.1.val.length = false := hpm
                rw [e] at h
                exact h
              have HPM := Lib.hid hpm
              have n1 : (0 : Int) ≤ (k : Int) := by omega
              have n2 : (k : Int) < 6 := by omega
              have HLT := Lib.hid hlt
              clear hp hpm hk
              go_wp2_with fail
              refine Calls.mono (HM1.out wr) ?_
              rintro x w9 ⟨rfl, hx9⟩
              have HX9 : Hid (Ext w8 w9) := Ext.trans HXK.out hx9
              have HR1 := Lib.hid (rise_one (w := w9) HPM.out (((HES.out.each p (List.mem_of_getElem? HP.out)).below HX9.out (Nat.le_refl _)).wide (Nat.le_refl _) HX9.out.size))
              obtain ⟨c0, c1, c2, c3⟩ := (HES.out.below HX9.out (Nat.le_refl _)).get HP.out
              simp only [Nat.zero_add] at c0 c1 c2 c3
              clear hx9 HM1
              go_wp2_with fail
              refine Calls.mono HR1.out ?_
              rintro x w10 ⟨rfl, hx10⟩
              have HX10 : Hid (Ext w8 w10) := Ext.trans HX9.out hx10
              clear hx10 HR1 c0 c1 c2 c3
              go_wp2_with fail
              go_roundw
              case rel =>
                have hk1 : k + 1 ≤ 6 := HLT.out
                refine ⟨_, _, _, _, _, _, _, _, _, _, _, _, _, _, _, _, _, _, _, _, _, ⟨k + 1, hk1, ?_, HX10⟩, rfl⟩
                go_num
              case measure => have := HLT.out; simp [intOf]; omega
            · have d : decide ((k : Int) < 6) = false := decide_eq_false (by omega)
              have dn : decide (k < 6) = false := decide_eq_false hlt
              clear hlt hk
              have hA := (HXK.out.block _ (Array.getElem?_eq_some_iff.1 HA8.out).1).trans HA8.out
              have q0 := cell_of hA (k := 0) rfl
              have q1 := cell_of hA (k := 1) rfl
              have q2 := cell_of hA (k := 2) rfl
              have q3 := cell_of hA (k := 3) rfl
              have HXW : Hid (Ext W wr) := Ext.trans HXW8.out HXK.out
              have HBY : Hid (∀ u, Ext wr u → Calls Try.prog 6 #[.agg #[.slice A1 32 33, .int .i64 2147483647, .int .i64 1, .slice A2 65536 65537]] u fun x w' => ∃ A c, x = .returned (.tuple #[.slice A eA.form.length c, .int .i64 0]) ∧ Bs w' 0 w'.heap.size (.slice A eA.form.length c) eA.form ∧ Ext u w') := fun u hu => by
                rw [← HAT.out]
                exact bytes_yes (HEA.out.next (Ext.trans HXK.out hu)) HMA.out
              clear hA
              go_wp2_with fail
              refine Calls.mono (HBY.out wr (Ext.refl _)) ?_
              rintro x w9 ⟨X, cx, rfl, hbs, hx9⟩
              have HX9 : Hid (Ext wr w9) := hx9
              have hrd := read_yes hbs (Nat.le_refl _) HEA.out.good HMA.out
              simp only [Ent.at_] at hrd
              have HRD := Lib.hid hrd
              clear hrd
              clear hbs hx9 HBY
              go_wp2_with fail
              refine Calls.mono HRD.out ?_
              rintro x w10 ⟨gR, rfl, hmR, hx10⟩
              have HX10 : Hid (Ext wr w10) := Ext.trans HX9.out hx10
              have HMR := Lib.hid hmR
              clear hmR hx10 HRD
              go_upto_region 15 with (fail)
              obtain ⟨w11, hw11⟩ : ∃ w11, w11 = w10.alloc (.cells #[.slice gR.kA eA.key.length gR.kc, .int .i64 eA.seq, .int .i64 eA.kind, .slice gR.vA eA.val.length gR.vc] 25) := ⟨_, rfl⟩
              rw [← hw11]
              have HB11 : Hid (w11.heap[w10.heap.size]? = some (.cells #[.slice gR.kA eA.key.length gR.kc, .int .i64 eA.seq, .int .i64 eA.kind, .slice gR.vA eA.val.length gR.vc] 25 (0, 0))) := by rw [hw11]; exact heap_at _ _ rfl
              have hx11 : Ext w10 w11 := by rw [hw11]; exact ext_alloc _ _
              have HX11 : Hid (Ext wr w11) := Ext.trans HX10.out hx11
              have HMR11 := Lib.hid (HMR.out.next hx11)
              have hA := ((Ext.trans HXK.out HX11.out).block _ (Array.getElem?_eq_some_iff.1 HA8.out).1).trans HA8.out
              have q0 := cell_of hA (k := 0) rfl
              have q1 := cell_of hA (k := 1) rfl
              have q2 := cell_of hA (k := 2) rfl
              have q3 := cell_of hA (k := 3) rfl
              clear hw11 hA hx11
              have HMAYA : Hid (∀ u, Calls Try.prog 4 #[.agg #[.slice A1 32 33, .int .i64 2147483647, .int .i64 1, .slice A2 65536 65537]] u fun x w' => x = .returned (.bool true) ∧ Ext u w') := fun u => by
                have h := may_any A1 A2 32 33 65536 65537 2147483647 1 u
                have e : mayN 32 2147483647 1 65536 = true := by decide
                rw [e] at h
                exact h
              go_wp2_with fail
              refine Calls.mono (HMAYA.out w11) ?_
              rintro x w12 ⟨rfl, hx12⟩
              have HX12 : Hid (Ext wr w12) := Ext.trans HX11.out hx12
              have hA := ((Ext.trans HXK.out HX12.out).block _ (Array.getElem?_eq_some_iff.1 HA8.out).1).trans HA8.out
              have hB := (hx12.block _ (Array.getElem?_eq_some_iff.1 HB11.out).1).trans HB11.out
              clear q0 q1 q2 q3
              have q0 := cell_of hA (k := 0) rfl
              have q1 := cell_of hA (k := 1) rfl
              have q2 := cell_of hA (k := 2) rfl
              have q3 := cell_of hA (k := 3) rfl
              have r0 := cell_of hB (k := 0) rfl
              have r1 := cell_of hB (k := 1) rfl
              have r2 := cell_of hB (k := 2) rfl
              have r3 := cell_of hB (k := 3) rfl
              have HSM : Hid (Calls Try.prog 9 #[.agg #[.slice gR.kA eA.key.length gR.kc, .int .i64 eA.seq, .int .i64 eA.kind, .slice gR.vA eA.val.length gR.vc], .agg #[.slice A1 32 33, .int .i64 2147483647, .int .i64 1, .slice A2 65536 65537]] w12 fun x w' => x = .returned (.bool true) ∧ Ext w12 w') := by
                have h := rsame_any (HMR11.out.next hx12) (HEA.out.next (Ext.trans HXK.out HX12.out)) (Nat.le_refl _) (Nat.le_refl _)
                rw [HAT.out] at h
                refine h.mono ?_
                rintro x w' ⟨z, hz, rfl, hx⟩
                have e : z = true := hz.2 rfl
                rw [e]
                exact ⟨rfl, hx⟩
              clear hA hB hx12 HMAYA
              go_wp2_with fail
              refine (errnum 0 _).mono ?_
              rintro x w' ⟨rfl, rfl⟩
              go_wp2_with fail
              refine (errnum 0 _).mono ?_
              rintro x w' ⟨rfl, rfl⟩
              go_wp2_with fail
              refine Calls.mono HSM.out ?_
              rintro x w13 ⟨rfl, hx13⟩
              have HX13 : Hid (Ext wr w13) := Ext.trans HX12.out hx13
              clear hx13 HSM q0 q1 q2 q3 r0 r1 r2 r3
              go_wp2_with fail
              refine Calls.mono (rise_none w13) ?_
              rintro x w14 ⟨rfl, hx14⟩
              have HX14 : Hid (Ext wr w14) := Ext.trans HX13.out hx14
              clear hx14
              have HD : Hid (∀ (s : Int) (u : World), 0 ≤ s → s ≤ 1000 → Calls Try.prog 10 #[.string ⟨#[97]⟩, .int .i64 s] u fun x w' => ∃ g : Hd, x = .returned (.agg #[.slice g.kA 1 g.kc, .int .i64 s, .int .i64 2, .slice g.vA 0 g.vc]) ∧ Ext u w' ∧ Em w' 0 w'.heap.size ⟨[97], s, 2, []⟩ g) := fun s u h1 h2 =>
                (del_lit (e := ⟨[97], s, 2, []⟩) rfl rfl (by simp) (by simp) h1 h2 u).mono fun x w' h => lit_em h
              have HPT : Hid (∀ (u : World), Calls Try.prog 11 #[.string ⟨#[97]⟩, .int .i64 1, .string ⟨#[]⟩] u fun x w' => ∃ g : Hd, x = .returned (.agg #[.slice g.kA 1 g.kc, .int .i64 1, .int .i64 1, .slice g.vA 0 g.vc]) ∧ Ext u w' ∧ Em w' 0 w'.heap.size ⟨[97], 1, 1, []⟩ g) := fun u =>
                (put_lit (e := ⟨[97], 1, 1, []⟩) (k := [97]) (v := []) rfl rfl rfl (by simp) (by simp) (by simp) (by simp) (by omega) (by omega) u).mono fun x w' h => lit_em h
              go_wp2_with fail
              refine Calls.mono (HD.out 2 w14 (by omega) (by omega)) ?_
              rintro x w15 ⟨g2, rfl, hx15, hm2⟩
              have HX15 : Hid (Ext wr w15) := Ext.trans HX14.out hx15
              have HM2 := Lib.hid hm2
              clear hx15 hm2
              go_wp2_with fail
              refine Calls.mono (HD.out 1 w15 (by omega) (by omega)) ?_
              rintro x w16 ⟨g3, rfl, hx16, hm3⟩
              have HX16 : Hid (Ext wr w16) := Ext.trans HX15.out hx16
              have HT1 := Lib.hid (rise_two (p := (⟨[97], 2, 2, []⟩, g2)) (q := (⟨[97], 1, 2, []⟩, g3)) (HM2.out.next hx16) hm3 true ⟨fun _ => ⟨by simp only []; decide, by simp only []; decide, by simp only []; decide⟩, fun _ => rfl⟩)
              clear hx16 hm3
              go_wp2_with fail
              refine Calls.mono HT1.out ?_
              rintro x w17 ⟨rfl, hx17⟩
              have HX17 : Hid (Ext wr w17) := Ext.trans HX16.out hx17
              clear hx17 HT1
              go_wp2_with fail
              refine Calls.mono (HD.out 1 w17 (by omega) (by omega)) ?_
              rintro x w18 ⟨g4, rfl, hx18, hm4⟩
              have HX18 : Hid (Ext wr w18) := Ext.trans HX17.out hx18
              have HM4 := Lib.hid hm4
              clear hx18 hm4
              go_wp2_with fail
              refine Calls.mono (HPT.out w18) ?_
              rintro x w19 ⟨g5, rfl, hx19, hm5⟩
              have HX19 : Hid (Ext wr w19) := Ext.trans HX18.out hx19
              have HT2 := Lib.hid (rise_two (p := (⟨[97], 1, 2, []⟩, g4)) (q := (⟨[97], 1, 1, []⟩, g5)) (HM4.out.next hx19) hm5 false ⟨fun h => (by cases h), fun h => absurd h.1 (by simp only []; decide)⟩)
              clear hx19 hm5
              go_wp2_with fail
              refine Calls.mono HT2.out ?_
              rintro x w20 ⟨rfl, hx20⟩
              have HX20 : Hid (Ext wr w20) := Ext.trans HX19.out hx20
              clear hx20 HT2
              go_wp2_with fail
              refine Calls.mono (known_any w20) ?_
              rintro x w21 ⟨rfl, hx21⟩
              have HX21 : Hid (Ext W w21) := Ext.trans HXW.out (Ext.trans HX20.out hx21)
              clear hx21
              go_wp2_with fail
              go_ret
              exact ⟨rfl, HX21.out⟩
end Go.Proofs.Ytcofnbeemfhcpaa.ikeyBounds
