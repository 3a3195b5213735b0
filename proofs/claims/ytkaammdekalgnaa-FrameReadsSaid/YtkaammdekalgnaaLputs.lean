/- FramePuts: every payload has the frame that the chapter writes, or is refused. -/
import Derived.Test.YtkaammdekalgnaaMknown
import Derived.Test.YtkaammdekalgnaaFlow
import Derived.Deep.DeepCutAuto
namespace Go.Proofs.Ytkaammdekalgnaa.framePuts
open Go.ChangeShapes Go.WideShapes Go.ChangeAt Go.RowKit

theorem tx_size (l : List Nat) : (tx l).size = l.length := by unfold tx; rw [strOfNums_size, List.length_map]
theorem tx_snoc (l : List Nat) : ((tx (l ++ [119])).toList == (tx l ++ ({ data := #[119] } : ByteArray)).toList) = true := by
  rw [ByteArray.toList_eq, ByteArray.toList_eq, beq_iff_eq]
  unfold tx
  rw [strOfNums_data, List.map_append, List.map_append, ByteArray.data_append, Array.toList_append, strOfNums_data]
  rfl

set_option maxRecDepth 100000 in
set_option maxHeartbeats 4000000 in
theorem walk (w : World) (v : Value) (l : List Nat) (hl : ∀ b ∈ l, b < 256) (hv : Bs w 0 w.heap.size v l) :
    Calls Try.prog 3 #[v] w fun e w' => e = .returned (.bool true) ∧ Below w.heap.size w w' := by
  have HV := Lib.hid hv
  have HL := Lib.hid hl
  obtain ⟨A, c, rfl, q1, q2, q3, _⟩ := hv
  by_cases hbig : 100000 < l.length
  · have hd : decide ((100000 : Int) < (l.length : Int)) = true := by simp; omega
    have hd2 : decide (100000 < l.length) = true := by simp; omega
    clear hbig q1 q2 q3 hl
    go_enter Try.func3, Try.ntmps3
    go_wp2_with fail
    refine (known_any w).mono ?_
    rintro e w3 ⟨rfl, hb⟩
    go_wp2_with fail
    go_ret
    exact ⟨rfl, hb⟩
  · have hd : decide ((100000 : Int) < (l.length : Int)) = false := by simp; omega
    have hd2 : decide (100000 < l.length) = false := by simp; omega
    have HLEN := Lib.hid (show l.length ≤ 100000 by omega)
    have hl5 : (l.length : Int) ≤ 100000 := by omega
    obtain ⟨L, hL⟩ : ∃ L, L = l ++ [119] := ⟨_, rfl⟩
    have HLL : Hid (L.length = l.length + 1) := by rw [hL]; simp [Hid]
    have HLT : Hid (L.take l.length = l) := by rw [hL]; unfold Hid; rw [List.take_left]
    have HE := Lib.hid hL
    clear hbig q1 q2 q3 hl hL
    go_enter Try.func3, Try.ntmps3
    go_wp2_with (at_builtin; refine wpList_addn rfl (.const (.slice none 0 0)) (.tmp 10) rfl w.heap.size _ [] rfl (Own.nil _ w) _ _ _ l rfl HV.out l l.length rfl rfl ?l1 (Nat.le_refl _) ?_)
    case l1 => have := HLEN.out; omega
    intro A1 c1 w1 ho hb
    have HX1 : Hid (Ext w w1) := hb w (Below.refl _ _)
    have HO1 := Lib.hid ho
    have HLIT : Hid (Bs (w1.alloc (.cells #[.int .u8 119] 5)) w1.heap.size (w1.alloc (.cells #[.int .u8 119] 5)).heap.size (.slice (some ⟨w1.heap.size, 0, none⟩) 1 1) [119]) := (own_lit w1 [119] (by simp)).bs
    clear ho hb
    go_wp2_with (at_builtin; refine wpList_addn rfl (.tmp 11) (.tmp 12) rfl w.heap.size _ l rfl (HO1.out.below (ext_alloc _ _)) _ _ _ [119] rfl HLIT.out L (l.length + 1) HE.out.symm HLL.out ?l2 (Nat.le_trans HX1.out.size (by simp)) ?_)
    case l2 => have := HLEN.out; omega
    intro A2 c2 w2 ho hb
    have HX2 : Hid (Ext w w2) := hb w (Below.alloc HX1.out HX1.out.size _)
    have HO2 := Lib.hid ho
    have hc2 : l.length + 1 ≤ c2 := by have := HO2.out.bs; obtain ⟨_, _, he, h1, _⟩ := this; injection he with _ x y; have := HLL.out; omega
    clear ho hb
    have hpb : Bs w2 w.heap.size w2.heap.size (.slice A2 l.length c2) l := by have := (show Bs w2 w.heap.size w2.heap.size (.slice A2 (l.length + 1) c2) L from HO2.out.bs).head (k := l.length) (by omega); rwa [HLT.out] at this
    have HPUT := Lib.hid (put_any hpb (Nat.le_refl _) HL.out)
    clear hpb
    go_wp2_with fail
    refine HPUT.out.mono ?_
    rintro e w3 ⟨hb, v3, hcases⟩
    have HX3 : Hid (Ext w w3) := Ext.trans HX2.out hb
    have HO3 := Lib.hid (HO2.out.below hb)
    clear hb
    have cvo := cv (show Bs w3 w.heap.size w3.heap.size (.slice A2 (l.length + 1) c2) L from HO3.out.bs)
    have cvl := cv (HV.out.below HX3.out (Nat.le_refl _))
    have hts : ((tx l).size : Int) ≤ 100000 := by rw [tx_size]; exact hl5
    have hts2 : (tx l).size ≤ 100000 := by rw [tx_size]; exact HLEN.out
    have heq : ((tx L).toList == (tx l ++ ({ data := #[119] } : ByteArray)).toList) = true := by rw [HE.out]; exact tx_snoc l
    rcases hcases with ⟨h0, rfl, rfl⟩ | ⟨h0, _⟩ | ⟨h1, _, rfl, ho3⟩
    · have hz : ((l.length : Int) == 0) = true := by simp [h0]
      have HZ := Lib.hid h0
      clear h0
      go_wp2_with fail
      refine (num_any _ _).mono ?_
      rintro e w4 ⟨rfl, rfl⟩
      go_wp2_with fail
      refine (known_any _).mono ?_
      rintro e w4 ⟨rfl, hb⟩
      have HX4 := Lib.hid (Ext.trans HX3.out hb)
      clear hb
      go_wp2_with fail
      go_ret
      exact ⟨rfl, HX4.out⟩
    · have := HLEN.out; omega
    · have hz : ((l.length : Int) == 0) = false := by rw [beq_eq_false_iff_ne]; omega
      have ho4 := ho3
      obtain ⟨A3, c3, rfl, _, _, _, _⟩ := Sl.of_own ho3
      have HO4 := Lib.hid ho4
      have HNZ := Lib.hid h1
      clear ho3 ho4 h1
      obtain ⟨F, hF⟩ : ∃ F, F = frame l := ⟨_, rfl⟩
      rw [← hF] at HO4
      rw [← hF]
      have HF := Lib.hid hF
      clear hF
      go_upto_region 9 with (fail)
      refine flow (by kernel_rfl) [Is (.slice A3 F.length c3), Is (.string (tx F)), Is (.slice A l.length c), Own w3.heap.size F, Is (.string (tx F)), Is (.bool true), Is (.bool true), Is (.int .i64 0), Is (.int .i64 0), Is (.bool true), Is (.bool true), Is (.bool true), Is (.bool true), Is (.bool true), Is (.bool true)] (by kernel_rfl) (by kernel_rfl) ?mono (fun f => ?obl) ?fin
      case mono =>
        simp only [List.forall_mem_cons, List.not_mem_nil, false_imp_iff, implies_true, and_true]
        exact ⟨.is _, .is _, .is _, .own _ _, .is _, .is _, .is _, .is _, .is _, .is _, .is _, .is _, .is _, .is _, .is _⟩
      case fin =>
        intro g u hu hg
        simp only [puts, Act.put, List.setIfInBounds_toArray, List.set_cons_zero, List.set_cons_succ]
        have h14 : g 14 = .bool true := hg 14 (by decide)
        rw [h14]
        go_wp2_with fail
        go_ret
        exact ⟨rfl, Ext.trans HX3.out ((Ext.drew w3).trans hu)⟩
      case obl =>
        refine ⟨fun u hu hd => ?_, ?_⟩
        · try simp only [Act.put, List.setIfInBounds_toArray, List.set_cons_zero, List.set_cons_succ]
          go_simp
          exact ⟨Ext.refl _, rfl⟩
        refine ⟨fun u hu hd => ?_, ?_⟩
        · simp only [Act.put, List.setIfInBounds_toArray, List.set_cons_zero, List.set_cons_succ]
          have e0 : f 0 = (.slice A3 F.length c3) := hd 0 (by kernel_rfl)
          have hc := cv (HO4.out.below ((Ext.drew w3).trans hu)).bs
          go_simp
          exact ⟨Ext.refl _, rfl⟩
        refine ⟨fun u hu hd => ?_, ?_⟩
        · simp only [Act.put, List.setIfInBounds_toArray, List.set_cons_zero, List.set_cons_succ]
          go_simp
          exact ⟨Ext.refl _, rfl⟩
        refine ⟨fun u hu hd => ?_, ?_⟩
        · simp only [Act.put, List.setIfInBounds_toArray, List.set_cons_zero, List.set_cons_succ]
          have e2 : f 2 = (.slice A l.length c) := hd 2 (by kernel_rfl)
          go_simp
          refine (rput_any (HV.out.below (Ext.trans HX3.out ((Ext.drew w3).trans hu)) (Nat.le_refl _)) (Ext.trans HX3.out ((Ext.drew w3).trans hu)).size HL.out (by have := HLEN.out; omega)).mono ?_
          rintro e w9 ⟨v9, rfl, hown, hb9⟩
          rw [← HF.out] at hown
          exact ⟨_, rfl, hb9, ownsRow_base hown hu.size⟩
        refine ⟨fun u hu hd => ?_, ?_⟩
        · simp only [Act.put, List.setIfInBounds_toArray, List.set_cons_zero, List.set_cons_succ]
          have h3 : Own w3.heap.size F (f 3) u := hd 3 (by kernel_rfl)
          obtain ⟨v, hv⟩ : ∃ v, v = f 3 := ⟨_, rfl⟩
          rw [← hv] at h3 ⊢
          have h3b := h3
          obtain ⟨A9, c9, rfl, _, _, _, _⟩ := Sl.of_own h3
          have hc := cv (Own.bs h3b)
          clear hv
          go_simp
          exact ⟨Ext.refl _, rfl⟩
        refine ⟨fun u hu hd => ?_, ?_⟩
        · simp only [Act.put, List.setIfInBounds_toArray, List.set_cons_zero, List.set_cons_succ]
          have e1 : f 1 = (.string (tx F)) := hd 1 (by kernel_rfl)
          have e4 : f 4 = (.string (tx F)) := hd 4 (by kernel_rfl)
          have hq : ((tx F).toList == (tx F).toList) = true := by simp
          go_simp
          exact ⟨Ext.refl _, rfl⟩
        refine ⟨fun u hu hd => ?_, ?_⟩
        · simp only [Act.put, List.setIfInBounds_toArray, List.set_cons_zero, List.set_cons_succ]
          have e5 : f 5 = (.bool true) := hd 5 (by kernel_rfl)
          go_simp
          exact ⟨Ext.refl _, rfl⟩
        refine ⟨fun u hu hd => ?_, ?_⟩
        · simp only [Act.put, List.setIfInBounds_toArray, List.set_cons_zero, List.set_cons_succ]
          have e6 : f 6 = (.bool true) := hd 6 (by kernel_rfl)
          go_simp
          exact ⟨Ext.refl _, rfl⟩
        refine ⟨fun u hu hd => ?_, ?_⟩
        · simp only [Act.put, List.setIfInBounds_toArray, List.set_cons_zero, List.set_cons_succ]
          have e6 : f 6 = (.bool true) := hd 6 (by kernel_rfl)
          have e7 : f 7 = (.int .i64 0) := hd 7 (by kernel_rfl)
          go_simp
          refine (num_any _ _).mono ?_
          rintro e w9 ⟨rfl, rfl⟩
          exact ⟨_, rfl, Ext.refl _, rfl⟩
        refine ⟨fun u hu hd => ?_, ?_⟩
        · simp only [Act.put, List.setIfInBounds_toArray, List.set_cons_zero, List.set_cons_succ]
          have e6 : f 6 = (.bool true) := hd 6 (by kernel_rfl)
          have e8 : f 8 = (.int .i64 0) := hd 8 (by kernel_rfl)
          go_simp
          exact ⟨Ext.refl _, rfl⟩
        refine ⟨fun u hu hd => ?_, ?_⟩
        · simp only [Act.put, List.setIfInBounds_toArray, List.set_cons_zero, List.set_cons_succ]
          have e6 : f 6 = (.bool true) := hd 6 (by kernel_rfl)
          have e9 : f 9 = (.bool true) := hd 9 (by kernel_rfl)
          go_simp
          exact ⟨Ext.refl _, rfl⟩
        refine ⟨fun u hu hd => ?_, ?_⟩
        · simp only [Act.put, List.setIfInBounds_toArray, List.set_cons_zero, List.set_cons_succ]
          have e10 : f 10 = (.bool true) := hd 10 (by kernel_rfl)
          go_simp
          exact ⟨Ext.refl _, rfl⟩
        refine ⟨fun u hu hd => ?_, ?_⟩
        · simp only [Act.put, List.setIfInBounds_toArray, List.set_cons_zero, List.set_cons_succ]
          have e11 : f 11 = (.bool true) := hd 11 (by kernel_rfl)
          go_simp
          refine (known_any _).mono ?_
          rintro e w9 ⟨rfl, hb9⟩
          exact ⟨_, rfl, hb9, rfl⟩
        refine ⟨fun u hu hd => ?_, ?_⟩
        · simp only [Act.put, List.setIfInBounds_toArray, List.set_cons_zero, List.set_cons_succ]
          have e11 : f 11 = (.bool true) := hd 11 (by kernel_rfl)
          have e12 : f 12 = (.bool true) := hd 12 (by kernel_rfl)
          go_simp
          exact ⟨Ext.refl _, rfl⟩
        refine ⟨fun u hu hd => ?_, ?_⟩
        · simp only [Act.put, List.setIfInBounds_toArray, List.set_cons_zero, List.set_cons_succ]
          have e13 : f 13 = (.bool true) := hd 13 (by kernel_rfl)
          go_simp
          exact ⟨Ext.refl _, rfl⟩
        trivial
end Go.Proofs.Ytkaammdekalgnaa.framePuts
