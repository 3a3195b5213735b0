/- FrameOne: which bytes are just one frame, and its payload. -/
import Derived.Test.YtkaammdekalgnaaMknown
namespace Go.Proofs.Ytkaammdekalgnaa.frameOne
open Go.ChangeShapes Go.WideShapes Go.ChangeAt Go.RowKit

set_option maxRecDepth 100000 in
theorem walk (w : World) (v : Value) (l : List Nat) (hl : ∀ b ∈ l, b < 256) (hv : Bs w 0 w.heap.size v l) :
    Calls Try.prog 7 #[v] w fun e w' => e = .returned (.bool true) ∧ Below w.heap.size w w' := by
  have HV := Lib.hid hv
  have HL := Lib.hid hl
  obtain ⟨A, c, rfl, q1, q2, q3, _⟩ := hv
  by_cases hbig : 100000 < l.length
  · have hd : decide ((100000 : Int) < (l.length : Int)) = true := by simp; omega
    have hd2 : decide (100000 < l.length) = true := by simp; omega
    clear hbig q1 q2 q3 hl
    go_enter Try.func7, Try.ntmps7
    go_wp2_with fail
    refine (known_any w).mono ?_
    rintro e w3 ⟨rfl, hb⟩
    go_wp2_with fail
    go_ret
    exact ⟨rfl, hb⟩
  · have hd : decide ((100000 : Int) < (l.length : Int)) = false := by simp; omega
    have hd2 : decide (100000 < l.length) = false := by simp; omega
    have HLEN := Lib.hid (show l.length ≤ 1099511627776 by omega)
    have HO := Lib.hid (one_any HV.out (Nat.le_refl _) hl)
    clear hbig q1 q2 q3 hl
    cases ho : one l with
    | none =>
      have HN := Lib.hid ho
      clear ho
      have heq : ((tx []).toList == (tx []).toList) = true := by simp
      go_enter Try.func7, Try.ntmps7
      go_wp2_with fail
      refine HO.out.mono ?_
      rintro e w1 ⟨hb, ⟨p, v1, hp, _⟩ | ⟨_, rfl⟩⟩
      · rw [HN.out] at hp; cases hp
      have HB1 := Lib.hid hb
      clear hb
      go_wp2_with fail
      refine (rone_any (HV.out.below HB1.out (Nat.le_refl _)) HB1.out.size HL.out HLEN.out).mono ?_
      rintro e w2 ⟨hb, ⟨p, v1, hp, _⟩ | ⟨_, rfl⟩⟩
      · rw [HN.out] at hp; cases hp
      have HB2 := Lib.hid (Ext.trans HB1.out hb)
      have cvn := cv (Bs.nil w2 0 0)
      clear hb
      go_wp2_with fail
      refine (known_any w2).mono ?_
      rintro e w3 ⟨rfl, hb⟩
      have HB3 := Lib.hid (Ext.trans HB2.out hb)
      clear hb
      go_wp2_with fail
      go_ret
      exact ⟨rfl, HB3.out⟩
    | some p =>
      have HN := Lib.hid ho
      clear ho
      have heq : ((tx p).toList == (tx p).toList) = true := by simp
      go_enter Try.func7, Try.ntmps7
      go_wp2_with fail
      refine HO.out.mono ?_
      rintro e w1 ⟨hb, ⟨q, v1, hp, rfl, ho1⟩ | ⟨hp, _⟩⟩
      · rw [HN.out] at hp
        injection hp with hp
        subst hp
        have ho2 := ho1
        obtain ⟨A1, c1, rfl, _, _, _, _⟩ := Sl.of_own ho1
        have HB1 := Lib.hid hb
        have HO1 := Lib.hid ho2
        clear hb ho2 ho1
        go_wp2_with fail
        refine (rone_any (HV.out.below HB1.out (Nat.le_refl _)) HB1.out.size HL.out HLEN.out).mono ?_
        rintro e w2 ⟨hb, ⟨q, v2, hp, rfl, ho1⟩ | ⟨hp, _⟩⟩
        · rw [HN.out] at hp
          injection hp with hp
          subst hp
          have ho2 := ho1
          obtain ⟨A2, c2, rfl, _, _, _, _⟩ := Sl.of_own ho1
          have HB2 := Lib.hid (Ext.trans HB1.out hb)
          have cva := cv (HO1.out.below hb).bs
          have cvb := cv (Own.bs ho2)
          clear hb ho2 ho1
          go_wp2_with fail
          refine (known_any w2).mono ?_
          rintro e w3 ⟨rfl, hb⟩
          have HB3 := Lib.hid (Ext.trans HB2.out hb)
          clear hb
          go_wp2_with fail
          go_ret
          exact ⟨rfl, HB3.out⟩
        · rw [HN.out] at hp; cases hp
      · rw [HN.out] at hp; cases hp
end Go.Proofs.Ytkaammdekalgnaa.frameOne
