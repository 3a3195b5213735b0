/- FrameOdd: which bytes no crash leaves. -/
import Derived.Test.YtkaammdekalgnaaMknown
namespace Go.Proofs.Ytkaammdekalgnaa.frameOdd
open Go.ChangeShapes Go.WideShapes Go.ChangeAt Go.RowKit

theorem walk (w : World) (v : Value) (l : List Nat) (hl : ∀ b ∈ l, b < 256) (hv : Bs w 0 w.heap.size v l) :
    Calls Try.prog 6 #[v] w fun e w' => e = .returned (.bool true) ∧ Below w.heap.size w w' := by
  have HV := Lib.hid hv
  have HL := Lib.hid hl
  obtain ⟨A, c, rfl, q1, q2, q3, _⟩ := hv
  by_cases hbig : 100000 < l.length
  · have hd : decide ((100000 : Int) < (l.length : Int)) = true := by simp; omega
    have hd2 : decide (100000 < l.length) = true := by simp; omega
    clear hbig q1 q2 q3 hl
    go_enter Try.func6, Try.ntmps6
    go_wp2_with fail
    go_ret
    exact ⟨rfl, Below.refl _ _⟩
  · have hd : decide ((100000 : Int) < (l.length : Int)) = false := by simp; omega
    have hd2 : decide (100000 < l.length) = false := by simp; omega
    have HLEN := Lib.hid (show l.length ≤ 1099511627776 by omega)
    obtain ⟨z, hz⟩ : ∃ z, odd l = z := ⟨_, rfl⟩
    have HO := Lib.hid (odd_is HV.out (Nat.le_refl _) hl z hz)
    have HZ := Lib.hid hz
    have hzz : (z == z) = true := by simp
    clear hbig q1 q2 q3 hl hz
    go_enter Try.func6, Try.ntmps6
    go_wp2_with fail
    refine HO.out.mono ?_
    rintro e w1 ⟨rfl, hb⟩
    have HB1 := Lib.hid hb
    clear hb
    go_wp2_with fail
    refine (rodd_any (HV.out.below HB1.out (Nat.le_refl _)) HB1.out.size HL.out HLEN.out).mono ?_
    rintro e w2 ⟨rfl, hb⟩
    have HB2 := Lib.hid (Ext.trans HB1.out hb)
    clear hb
    rw [HZ.out]
    go_wp2_with fail
    refine (known_any w2).mono ?_
    rintro e w3 ⟨rfl, hb⟩
    have HB3 := Lib.hid (Ext.trans HB2.out hb)
    clear hb
    go_wp2_with fail
    go_ret
    exact ⟨rfl, HB3.out⟩
end Go.Proofs.Ytkaammdekalgnaa.frameOdd
