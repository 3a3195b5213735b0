/- The frame around a payload. -/
import Derived.Test.YtkaammdekalgnaaMclaim
import Derived.Test.YtkaammdekalgnaaMsum
import Derived.Test.YtkaammdekalgnaaMrow
import Derived.Test.YtkaammdekalgnaaCflow
import Derived.Test.YtkaammdekalgnaaIter
import Derived.RegionTactic
import Derived.Deep.DeepCutAuto
namespace Go.Proofs.Ytkaammdekalgnaa
open Go.ChangeShapes Go.WideShapes Go.ChangeAt Go.RowKit

/-- Bytes in a row of the call's own, from block B on. -/
def Own (B : Nat) (l : List Nat) (v : Value) (u : World) : Prop := u.ownsRow B 5 1 v l.length (bv l)
theorem Mono.own (B : Nat) (l : List Nat) : Mono (Own B l) := fun _ _ _ h hu => own_below h hu (Nat.le_refl _)

theorem word_cells (n : Nat) (hn : n < 4294967296) : ∃ x0 x1 x2 x3, be4 n = [x0, x1, x2, x3] ∧ ∀ w, Calls Try.prog 22 #[.int .u32 (n : Int)] w fun e w' => e = .returned (.agg #[.int .u8 (x0 : Int), .int .u8 (x1 : Int), .int .u8 (x2 : Int), .int .u8 (x3 : Int)]) ∧ Below w.heap.size w w' :=
  ⟨_, _, _, _, rfl, fun w => wordOf_any n hn w⟩

/-- What Put answers. -/
def PutAns (w : World) (p : List Nat) (e : Ending) (w' : World) : Prop :=
  Below w.heap.size w w' ∧ ∃ v, ((p.length = 0 ∧ v = .slice none 0 0 ∧ e = .returned (.tuple #[v, .int .i64 2])) ∨ (1048576 < p.length ∧ v = .slice none 0 0 ∧ e = .returned (.tuple #[v, .int .i64 3])) ∨
    (1 ≤ p.length ∧ p.length ≤ 1048576 ∧ e = .returned (.tuple #[v, .int .i64 0]) ∧ Own w.heap.size (frame p) v w'))

set_option maxRecDepth 100000 in
set_option maxHeartbeats 4000000 in
theorem put_any {w : World} {lo hi : Nat} {v : Value} {p : List Nat} (hv : Bs w lo hi v p) (hhi : hi ≤ w.heap.size) (hp : ∀ x ∈ p, x < 256) :
    Calls Try.prog 11 #[v] w (PutAns w p) := by
  have HV := Lib.hid hv
  have HP := Lib.hid hp
  obtain ⟨A, c, rfl, q1, q2, q3, _⟩ := hv
  have hlen : p.length ≤ 9223372036854775807 := by unfold maxLen at q2; omega
  by_cases h0 : p.length = 0
  · have hd : ((p.length : Int) == 0) = true := by simp [h0]
    have hz := h0
    clear h0 q1 q2 q3 hp
    go_enter Try.func11, Try.ntmps11
    go_wp2_with fail
    go_ret2
    exact ⟨Below.refl _ _, _, .inl ⟨hz, rfl, rfl⟩⟩
  · have hd : ((p.length : Int) == 0) = false := by simpa using h0
    by_cases hbig : 1048576 < p.length
    · have hd2 : decide ((1048576 : Int) < (p.length : Int)) = true := by simp; omega
      have hz := Lib.hid hbig
      clear h0 q1 q2 q3 hp hbig
      go_enter Try.func11, Try.ntmps11
      go_wp2_with fail
      go_ret2
      exact ⟨Below.refl _ _, _, .inr (.inl ⟨hz.out, rfl, rfl⟩)⟩
    · have hd2 : decide ((1048576 : Int) < (p.length : Int)) = false := by simp; omega
      have HMAY : Hid (mayP p) := ⟨by omega, by omega, hp⟩
      have hconv : (p.length : Int) % 4294967296 = (p.length : Int) := by omega
      obtain ⟨x0, x1, x2, x3, hx, hcx⟩ := word_cells p.length (by omega)
      obtain ⟨y0, y1, y2, y3, hy, hcy⟩ := word_cells (crc (be4 p.length ++ p)) HMAY.out.crc
      have HX := Lib.hid hx
      have HY := Lib.hid hy
      have HCX := Lib.hid hcx
      have HCY := Lib.hid hcy
      clear h0 q1 q2 q3 hp hbig hx hy hcx hcy
      go_enter Try.func11, Try.ntmps11
      go_wp2_with fail
      refine (HCX.out _).mono ?_
      rintro e w1 ⟨rfl, hb1⟩
      have HB1 := Lib.hid hb1
      clear hb1 hconv
      go_wp2_with fail
      obtain ⟨w2, hw2⟩ : ∃ w2, w2 = w1.alloc (.cells #[.int .u8 (x0 : Int), .int .u8 (x1 : Int), .int .u8 (x2 : Int), .int .u8 (x3 : Int)] 45) := ⟨_, rfl⟩
      have HX2 : Hid (Ext w1 w2) := by rw [hw2]; exact ext_alloc _ _
      have HAB : Hid (Ab w2 w1.heap.size 45 (be4 p.length)) := by rw [hw2]; unfold Hid Ab; rw [HX.out]; exact heap_at w1 _ rfl
      have HB2 : Hid (Below w.heap.size w w2) := HB1.out.trans (HX2.out.mono HB1.out.size)
      have hwz : w2.heap.size = w1.heap.size + 1 := by rw [hw2]; simp
      have HBA : Hid (Bs w2 0 w2.heap.size (.slice (some ⟨w1.heap.size, 0, none⟩) 4 4) (be4 p.length)) := HAB.out.bs (by simp [be4_length])
      have HPV : Hid (Bs w2 0 w2.heap.size (.slice A p.length c) p) := (HV.out.below HB2.out hhi).wide (Nat.zero_le _) (Nat.le_trans hhi HB2.out.size)
      have hsum := sum_any _ 2 _ _ _ [be4 p.length, p] _ (rows_lit w2 [.slice (some ⟨w1.heap.size, 0, none⟩) 4 4, .slice A p.length c] [be4 p.length, p] rfl (fun i v l hv hl => by
        match i with
        | 0 => simp at hv hl; subst hv hl; exact ⟨_, _, HBA.out, Nat.le_refl _⟩
        | 1 => simp at hv hl; subst hv hl; exact ⟨_, _, HPV.out, Nat.le_refl _⟩
        | i + 2 => simp at hv)) (by simp) (by simp [maxLen]) (by simp) (by intro l hl x hx; simp at hl; rcases hl with rfl | rfl; exact be4_lt _ x hx; exact HP.out x hx)
      have e1 : [be4 p.length, p].flatten = be4 p.length ++ p := by simp
      rw [e1, hwz] at hsum
      rw [← hw2]
      have HSUM := Lib.hid hsum
      have HW2 := Lib.hid hw2
      clear hsum e1
      refine Calls.mono HSUM.out ?_
      rintro e w3 ⟨rfl, hb3⟩
      have HB3 : Hid (Ext w2 w3) := (ext_alloc _ _).trans hb3
      clear hb3 hw2
      go_wp2_with fail
      refine (HCY.out _).mono ?_
      rintro e w4 ⟨rfl, hb4⟩
      have HB4 : Hid (Ext w2 w4) := HB3.out.trans hb4
      clear hb4
      go_wp2_with fail
      obtain ⟨w5, hw5⟩ : ∃ w5, w5 = w4.alloc (.cells #[.int .u8 (y0 : Int), .int .u8 (y1 : Int), .int .u8 (y2 : Int), .int .u8 (y3 : Int)] 45) := ⟨_, rfl⟩
      rw [← hw5]
      have HX45 : Hid (Ext w4 w5) := by rw [hw5]; exact ext_alloc _ _
      have HX25 : Hid (Ext w2 w5) := Ext.trans HB4.out HX45.out
      have HX5 : Hid (Below w.heap.size w w5) := HB2.out.trans (HX25.out.mono HB2.out.size)
      have HAC : Hid (Ab w5 w4.heap.size 45 (be4 (crc (be4 p.length ++ p)))) := by rw [hw5]; unfold Hid Ab; rw [HY.out]; exact heap_at w4 _ rfl
      have HBC5 : Hid (Bs w5 0 w5.heap.size (.slice (some ⟨w4.heap.size, 0, none⟩) 4 4) (be4 (crc (be4 p.length ++ p)))) := HAC.out.bs (by simp [be4_length])
      have HBA5 : Hid (Bs w5 0 w5.heap.size (.slice (some ⟨w1.heap.size, 0, none⟩) 4 4) (be4 p.length)) := (HBA.out.below HX25.out (Nat.le_refl _)).wide (Nat.le_refl _) HX25.out.size
      have HPV5 : Hid (Bs w5 0 w5.heap.size (.slice A p.length c) p) := (HPV.out.below HX25.out (Nat.le_refl _)).wide (Nat.le_refl _) HX25.out.size
      have HFE : Hid ([be4 p.length, be4 (crc (be4 p.length ++ p)), p].flatten = frame p) := by simp [Hid, frame]
      have HFL : Hid ([be4 p.length, be4 (crc (be4 p.length ++ p)), p].flatten.length ≤ 1099511627776) := by rw [HFE.out]; unfold Hid; rw [frame_length]; have := HMAY.out.2.1; omega
      clear hw5
      go_upto_region 7 with (fail)
      refine flow (by kernel_rfl) [Is (.slice (some ⟨w1.heap.size, 0, none⟩) 4 4), Is (.slice (some ⟨w4.heap.size, 0, none⟩) 4 4), Is (.slice A p.length c), Rws 3 [be4 p.length, be4 (crc (be4 p.length ++ p)), p], Own w.heap.size (frame p), Own w.heap.size (frame p), Is (.int .i64 0)] (by kernel_rfl) (by kernel_rfl) ?mono (fun f => ?obl) ?fin
      case mono =>
        simp only [List.forall_mem_cons, List.not_mem_nil, false_imp_iff, implies_true, and_true]
        exact ⟨.is _, .is _, .is _, .rws _ _, .own _ _, .own _ _, .is _⟩
      case fin =>
        intro g u hu hg
        simp only [puts, Act.put, List.setIfInBounds_toArray, List.set_cons_zero, List.set_cons_succ]
        have h5 : Own w.heap.size (frame p) (g 5) u := hg 5 (by decide)
        have h6 : g 6 = .int .i64 0 := hg 6 (by decide)
        obtain ⟨v, hv⟩ : ∃ v, v = g 5 := ⟨_, rfl⟩
        rw [← hv] at h5 ⊢
        rw [h6]
        obtain ⟨Av, cv, rfl, _, _, _, _⟩ := Sl.of_own h5
        have H5 := Lib.hid h5
        clear h5 hv
        go_wp2_with fail
        go_ret2
        exact ⟨HX5.out.trans (((Ext.drew w5).trans hu).mono HX5.out.size), _, .inr (.inr ⟨HMAY.out.1, HMAY.out.2.1, rfl, H5.out⟩)⟩
      case obl =>
        refine ⟨fun u hu hd => ?_, ?_⟩
        · try simp only [Act.put, List.setIfInBounds_toArray, List.set_cons_zero, List.set_cons_succ]
          go_simp
          exact ⟨Ext.refl _, rfl⟩
        refine ⟨fun u hu hd => ?_, ?_⟩
        · simp only [Act.put, List.setIfInBounds_toArray, List.set_cons_zero, List.set_cons_succ]
          go_simp
          exact ⟨Ext.refl _, rfl⟩
        refine ⟨fun u hu hd => ?_, ?_⟩
        · simp only [Act.put, List.setIfInBounds_toArray, List.set_cons_zero, List.set_cons_succ]
          go_simp
          exact ⟨Ext.refl _, rfl⟩
        refine ⟨fun u hu hd => ?_, ?_⟩
        · simp only [Act.put, List.setIfInBounds_toArray, List.set_cons_zero, List.set_cons_succ]
          have e0 : f 0 = (.slice (some ⟨w1.heap.size, 0, none⟩) 4 4) := hd 0 (by kernel_rfl)
          have e1 : f 1 = (.slice (some ⟨w4.heap.size, 0, none⟩) 4 4) := hd 1 (by kernel_rfl)
          have e2 : f 2 = (.slice A p.length c) := hd 2 (by kernel_rfl)
          have hx0 := Lib.hid (show Bs u 0 w5.heap.size (.slice (some ⟨w1.heap.size, 0, none⟩) 4 4) (be4 p.length) ∧ w5.heap.size ≤ u.heap.size from ⟨HBA5.out.below ((Ext.drew w5).trans hu) (Nat.le_refl _), hu.size⟩)
          have hx1 := Lib.hid (show Bs u 0 w5.heap.size (.slice (some ⟨w4.heap.size, 0, none⟩) 4 4) (be4 (crc (be4 p.length ++ p))) ∧ w5.heap.size ≤ u.heap.size from ⟨HBC5.out.below ((Ext.drew w5).trans hu) (Nat.le_refl _), hu.size⟩)
          have hx2 := Lib.hid (show Bs u 0 w5.heap.size (.slice A p.length c) p ∧ w5.heap.size ≤ u.heap.size from ⟨HPV5.out.below ((Ext.drew w5).trans hu) (Nat.le_refl _), hu.size⟩)
          have hr := Lib.hid (rws_lit u [.slice (some ⟨w1.heap.size, 0, none⟩) 4 4, .slice (some ⟨w4.heap.size, 0, none⟩) 4 4, .slice A p.length c] [be4 p.length, be4 (crc (be4 p.length ++ p)), p] 3 rfl rfl (fun i v l hv hl => by
            match i with
            | 0 => simp at hv hl; subst hv hl; exact ⟨_, _, hx0.out⟩
            | 1 => simp at hv hl; subst hv hl; exact ⟨_, _, hx1.out⟩
            | 2 => simp at hv hl; subst hv hl; exact ⟨_, _, hx2.out⟩
            | i + 3 => simp at hv))
          go_simp
          exact ⟨below_new _ _, hr.out⟩
        refine ⟨fun u hu hd => ?_, ?_⟩
        · simp only [Act.put, List.setIfInBounds_toArray, List.set_cons_zero, List.set_cons_succ]
          obtain ⟨hn, g, h, e3, hh, x, hr⟩ := (show Rws 3 [be4 p.length, be4 (crc (be4 p.length ++ p)), p] (f 3) u from hd 3 (by kernel_rfl))
          have HR := Lib.hid hr
          clear hr hn
          go_simp
          refine (concat_any _ 3 _ _ _ [be4 p.length, be4 (crc (be4 p.length ++ p)), p] u HR.out hh (by simp [maxLen]) (by simp) HFL.out).mono ?_
          rintro e w9 ⟨v9, rfl, hown, hb9⟩
          refine ⟨_, rfl, hb9, ?_⟩
          rw [HFE.out] at hown
          exact ownsRow_base hown (Nat.le_trans HX5.out.size hu.size)
        refine ⟨fun u hu hd => ?_, ?_⟩
        · simp only [Act.put, List.setIfInBounds_toArray, List.set_cons_zero, List.set_cons_succ]
          have h4 : Own w.heap.size (frame p) (f 4) u := hd 4 (by kernel_rfl)
          go_simp
          exact ⟨Ext.refl _, h4⟩
        refine ⟨fun u hu hd => ?_, ?_⟩
        · simp only [Act.put, List.setIfInBounds_toArray, List.set_cons_zero, List.set_cons_succ]
          go_simp
          exact ⟨Ext.refl _, rfl⟩
        trivial
end Go.Proofs.Ytkaammdekalgnaa
