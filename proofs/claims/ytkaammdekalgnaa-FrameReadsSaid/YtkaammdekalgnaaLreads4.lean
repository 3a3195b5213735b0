/- FrameReads: any bytes begin with just the whole frames that the chapter says. -/
import Derived.Test.YtkaammdekalgnaaMonce
import Derived.Test.YtkaammdekalgnaaLputs
namespace Go.Proofs.Ytkaammdekalgnaa.frameReads
open Go.ChangeShapes Go.WideShapes Go.ChangeAt Go.RowKit Go.Proofs.Ytkaammdekalgnaa.framePuts

set_option maxRecDepth 100000 in
set_option maxHeartbeats 4000000 in
theorem walk (w : World) (v : Value) (l : List Nat) (hl : ∀ b ∈ l, b < 256) (hv : Bs w 0 w.heap.size v l) (leave : Int) (hle : (Lit.int .i64 leave).wf = true) :
    Calls Try.prog 5 #[v, .int .i64 leave] w fun e w' => e = .returned (.bool true) ∧ Below w.heap.size w w' := by
  have HV := Lib.hid hv
  have HL := Lib.hid hl
  obtain ⟨A, c, rfl, q1, q2, q3, _⟩ := hv
  clear hle
  by_cases hbig : 100000 < l.length
  · have hd : decide ((100000 : Int) < (l.length : Int)) = true := by simp; omega
    have hd2 : decide (100000 < l.length) = true := by simp; omega
    clear hbig q1 q2 q3 hl
    go_enter Try.func5, Try.ntmps5
    go_wp2_with fail
    refine (known_any w).mono ?_
    rintro e w3 ⟨rfl, hb⟩
    go_wp2_with fail
    go_ret
    exact ⟨rfl, hb⟩
  · have hd : decide ((100000 : Int) < (l.length : Int)) = false := by simp; omega
    have hd2 : decide (100000 < l.length) = false := by simp; omega
    have HLEN := Lib.hid (show l.length ≤ 100000 by omega)
    have hl5 : (l.length : Int) ≤ 100000 := by omega
    obtain ⟨L, hL⟩ : ∃ L, L = l ++ [119] := ⟨_, rfl⟩
    have HLL : Hid (L.length = l.length + 1) := by rw [hL]; simp [Hid]
    have HLT : Hid (L.take l.length = l) := by rw [hL]; unfold Hid; rw [List.take_left]
    have HE := Lib.hid hL
    clear hbig q1 q2 q3 hl hL
    go_enter Try.func5, Try.ntmps5
    go_wp2_with (at_builtin; refine wpList_addn rfl (.const (.slice none 0 0)) (.tmp 15) rfl w.heap.size _ [] rfl (Own.nil _ w) _ _ _ l rfl HV.out l l.length rfl rfl ?l1 (Nat.le_refl _) ?_)
    case l1 => have := HLEN.out; omega
    intro A1 c1 w1 ho hb
    have HX1 : Hid (Ext w w1) := hb w (Below.refl _ _)
    have HO1 := Lib.hid ho
    have HLIT : Hid (Bs (w1.alloc (.cells #[.int .u8 119] 5)) w1.heap.size (w1.alloc (.cells #[.int .u8 119] 5)).heap.size (.slice (some ⟨w1.heap.size, 0, none⟩) 1 1) [119]) := (own_lit w1 [119] (by simp)).bs
    clear ho hb
    go_wp2_with (at_builtin; refine wpList_addn rfl (.tmp 16) (.tmp 17) rfl w.heap.size _ l rfl (HO1.out.below (ext_alloc _ _)) _ _ _ [119] rfl HLIT.out L (l.length + 1) HE.out.symm HLL.out ?l2 (Nat.le_trans HX1.out.size (by simp)) ?_)
    case l2 => have := HLEN.out; omega
    intro A2 c2 w2 ho hb
    have HX2 : Hid (Ext w w2) := hb w (Below.alloc HX1.out HX1.out.size _)
    have HO2 := Lib.hid ho
    have hc2 : l.length + 1 ≤ c2 := by have := HO2.out.bs; obtain ⟨_, _, he, h1, _⟩ := this; injection he with _ x y; have := HLL.out; omega
    clear ho hb
    have HFRS := Lib.hid (frames_any (HV.out.below HX2.out (Nat.le_refl _)) HX2.out.size HL.out (by have := HLEN.out; omega))
    go_wp2_with fail
    refine HFRS.out.mono ?_
    rintro e w3 ⟨Aa, ca, Al, cl, rfl, hfr, hb⟩
    have HX3 : Hid (Ext w2 w3) := hb
    have HFR := Lib.hid hfr
    have HPB : Hid (∀ u, Ext w2 u → Bs u w.heap.size u.heap.size (.slice A2 l.length c2) l) := by
      intro u hu
      have h := (show Bs u w.heap.size u.heap.size (.slice A2 (l.length + 1) c2) L from Own.bs (HO2.out.below hu)).head (k := l.length) (by omega)
      rwa [HLT.out] at h
    have HCNT := Lib.hid (count_any (HPB.out w3 HX3.out) (Nat.le_refl _) HL.out)
    obtain ⟨k, hk⟩ : ∃ k, k = fend l 0 := ⟨_, rfl⟩
    unfold CountAns at HCNT
    rw [← hk] at HCNT ⊢
    have eK : ((k : Int) == (k : Int)) = true := by simp
    have eN : (((frs l 0).length : Int) == ((frs l 0).length : Int)) = true := by simp
    clear hfr hb hk
    go_wp2_with fail
    refine HCNT.out.mono ?_
    rintro e w4 ⟨rfl, hb⟩
    have HX4 : Hid (Ext w2 w4) := Ext.trans HX3.out hb
    have HFR4 := Lib.hid (HFR.out.below hb)
    clear hb
    go_wp2_with fail
    refine (once_any (HPB.out w4 HX4.out) (Nat.le_refl _) HL.out HLEN.out leave HFR4.out).mono ?_
    rintro e w5 ⟨rfl, hb⟩
    have HX5 : Hid (Ext w2 w5) := Ext.trans HX4.out hb
    have HFR5 := Lib.hid (HFR4.out.below hb)
    clear hb
    go_wp2_with fail
    refine (once_any (HPB.out w5 HX5.out) (Nat.le_refl _) HL.out HLEN.out 0 HFR5.out).mono ?_
    rintro e w6 ⟨rfl, hb⟩
    have HX6 : Hid (Ext w2 w6) := Ext.trans HX5.out hb
    clear hb
    have cvo := cv (show Bs w6 w.heap.size w6.heap.size (.slice A2 (l.length + 1) c2) L from Own.bs (HO2.out.below HX6.out))
    have cvl := cv (HV.out.below (Ext.trans HX2.out HX6.out) (Nat.le_refl _))
    have hts : ((tx l).size : Int) ≤ 100000 := by rw [tx_size]; exact hl5
    have hts2 : (tx l).size ≤ 100000 := by rw [tx_size]; exact HLEN.out
    have heq : ((tx L).toList == (tx l ++ ({ data := #[119] } : ByteArray)).toList) = true := by rw [HE.out]; exact tx_snoc l
    go_wp2_with fail
    refine (known_any w6).mono ?_
    rintro e w7 ⟨rfl, hb⟩
    have HX7 : Hid (Ext w w7) := Ext.trans HX2.out (Ext.trans HX6.out hb)
    clear hb
    go_wp2_with fail
    go_ret
    exact ⟨rfl, HX7.out⟩
end Go.Proofs.Ytkaammdekalgnaa.frameReads
