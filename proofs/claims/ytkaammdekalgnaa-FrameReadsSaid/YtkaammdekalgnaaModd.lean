/- Whether a rest is odd; whether bytes are one frame. -/
import Derived.Test.YtkaammdekalgnaaMcount
namespace Go.Proofs.Ytkaammdekalgnaa
open Go.ChangeShapes Go.WideShapes Go.ChangeAt Go.RowKit

theorem fend_le (b : List Nat) : fend b 0 ≤ b.length := by
  have : ∀ (f k : Nat), k ≤ b.length → feF f b k ≤ b.length := by
    intro f
    induction f with
    | zero => intro k h; exact h
    | succ f ih =>
      intro k h
      simp only [feF]
      split
      · exact h
      · rename_i p hp
        have h2 := (whole1_spec hp).2.2.2.1
        simp only [List.length_drop] at h2
        exact ih _ (by omega)
  exact this _ 0 (Nat.zero_le _)

set_option maxHeartbeats 1000000 in
theorem odd_any {w : World} {lo hi : Nat} {v : Value} {b : List Nat} (hv : Bs w lo hi v b) (hhi : hi ≤ w.heap.size) (hb : ∀ x ∈ b, x < 256) :
    Calls Try.prog 18 #[v] w fun e w' => e = .returned (.bool (odd b)) ∧ Below w.heap.size w w' := by
  have HC := Lib.hid (count_any hv hhi hb)
  have HV := Lib.hid hv
  have HBB := Lib.hid hb
  obtain ⟨A, c, rfl, q1, q2, q3, _⟩ := hv
  have hfe := fend_le b
  obtain ⟨k, hk⟩ : ∃ k, k = fend b 0 := ⟨_, rfl⟩
  rw [← hk] at hfe
  obtain ⟨A2, hA2, hrun⟩ := drop_run A b.length c k hfe q1
  obtain ⟨l, hl⟩ : ∃ l, l = b.drop k := ⟨_, rfl⟩
  have hll : b.length - k = l.length := by rw [hl]; simp
  have hlb : ∀ x ∈ l, x < 256 := fun x hx => hb x (List.mem_of_mem_drop (by rw [← hl]; exact hx))
  have HL := Lib.hid hlb
  rw [hll] at hrun
  have HR : Hid (∀ W lo hi, Bs W lo hi (.slice A b.length c) b → Bs W lo hi (.slice A2 l.length (c - k)) l) := by
    intro W lo hi h
    have h2 := hA2 W lo hi b h
    rw [← hl, hll] at h2
    exact h2
  have HO : Hid (odd b = (decide (8 ≤ l.length) && (decide (claimed l = 0) || decide (claimed l ≤ l.length)))) := by unfold Hid odd; rw [← hk, ← hl]
  unfold CountAns at HC
  rw [← hk] at HC
  clear hb hlb hA2 hk hl q1 q2 q3 hfe
  by_cases h8 : l.length < 8
  · have hd : decide ((l.length : Int) < 8) = true := by simp; omega
    have ho : odd b = false := by rw [HO.out, decide_eq_false (p := 8 ≤ l.length) (by omega)]; rfl
    rw [ho]
    clear h8
    go_enter Try.func18, Try.ntmps18
    go_wp2_with fail
    refine HC.out.mono ?_
    rintro e w1 ⟨rfl, hb1⟩
    have HB := Lib.hid hb1
    clear hb1
    go_wp2_with fail
    go_ret
    exact ⟨rfl, HB.out⟩
  · have hd : decide ((l.length : Int) < 8) = false := by simp; omega
    obtain ⟨s, hs⟩ : ∃ s, s = claimed l := ⟨_, rfl⟩
    have ho : odd b = (decide (s = 0) || decide (s ≤ l.length)) := by rw [HO.out, decide_eq_true (p := 8 ≤ l.length) (by omega), hs]; rfl
    have HCL : Hid (∀ w1 : World, Bs w1 lo hi (.slice A2 l.length (c - k)) l → Calls Try.prog 31 #[.slice A2 l.length (c - k)] w1 fun e w' => e = .returned (.int .i64 (s : Int)) ∧ Below w1.heap.size w1 w') := fun w1 h => by rw [hs]; exact claimed_any _ _ _ l w1 h HL.out
    clear h8 hs HO
    by_cases h0 : s = 0
    · have ht : ((s : Int) == 0) = true := by simp [h0]
      have hr : odd b = true := by rw [ho]; simp [h0]
      rw [hr]
      clear h0 ho
      go_enter Try.func18, Try.ntmps18
      go_wp2_with fail
      refine HC.out.mono ?_
      rintro e w1 ⟨rfl, hb1⟩
      have HB := Lib.hid hb1
      have HR1 := Lib.hid (HR.out _ _ _ (HV.out.below hb1 hhi))
      clear hb1
      go_wp2_with fail
      refine (HCL.out w1 HR1.out).mono ?_
      rintro e w2 ⟨rfl, hb2⟩
      have HB2 := Lib.hid (HB.out.trans (hb2.mono HB.out.size))
      clear hb2
      go_wp2_with fail
      go_ret
      exact ⟨rfl, HB2.out⟩
    · have ht : ((s : Int) == 0) = false := by simp [h0]
      have hr : odd b = decide ((s : Int) ≤ (l.length : Int)) := by rw [ho]; simp [h0]
      rw [hr]
      obtain ⟨z, hz⟩ : ∃ z, decide ((s : Int) ≤ (l.length : Int)) = z := ⟨_, rfl⟩
      rw [hz]
      clear h0 ho hr
      go_enter Try.func18, Try.ntmps18
      go_wp2_with fail
      refine HC.out.mono ?_
      rintro e w1 ⟨rfl, hb1⟩
      have HB := Lib.hid hb1
      have HR1 := Lib.hid (HR.out _ _ _ (HV.out.below hb1 hhi))
      clear hb1
      go_wp2_with fail
      refine (HCL.out w1 HR1.out).mono ?_
      rintro e w2 ⟨rfl, hb2⟩
      have HB2 := Lib.hid (HB.out.trans (hb2.mono HB.out.size))
      clear hb2
      go_wp2_with fail
      go_ret
      exact ⟨by first | rfl | (rw [← hz]; simp), HB2.out⟩

/-- What One answers. -/
def OneAns (w : World) (b : List Nat) (e : Ending) (w' : World) : Prop :=
  Below w.heap.size w w' ∧ ((∃ p v, one b = some p ∧ e = .returned (.tuple #[v, .bool true]) ∧ Own w.heap.size p v w') ∨ (one b = none ∧ e = .returned (.tuple #[.slice none 0 0, .bool false])))

set_option maxHeartbeats 1000000 in
theorem one_any {w : World} {lo hi : Nat} {v : Value} {b : List Nat} (hv : Bs w lo hi v b) (hhi : hi ≤ w.heap.size) (hb : ∀ x ∈ b, x < 256) :
    Calls Try.prog 20 #[v] w (OneAns w b) := by
  obtain ⟨A, c, hvv, q1, q2, q3, _⟩ := id hv
  subst hvv
  obtain ⟨w1, hw1⟩ : ∃ w1, w1 = w.alloc (.cells #[.slice A b.length c] 22) := ⟨_, rfl⟩
  have HX1 : Hid (Ext w w1) := by rw [hw1]; exact ext_alloc _ _
  have hbd : w1.cell? ⟨w.heap.size, 0, none⟩ = some (.slice A b.length c) := by rw [hw1]; exact cell_of (heap_at _ _ rfl) rfl
  have hwh := whole_any (k := 0) (hv.below HX1.out hhi) (Nat.le_trans hhi HX1.out.size) hb hbd (Nat.zero_le _)
  rw [List.drop_zero] at hwh
  have HWH := Lib.hid hwh
  have HW1 := Lib.hid hw1
  have HHI := Lib.hid hhi
  have hlen : b.length ≤ 9223372036854775807 := by unfold maxLen at q2; omega
  have hz0 : ((0 : Nat) : Int) = 0 := rfl
  clear hwh hw1 hv hb q1 q2 q3 hbd
  cases hw : whole1 b with
  | none =>
    have HN : Hid (one b = none) := by unfold Hid one; rw [hw]
    have HW := Lib.hid hw
    clear hw
    go_enter Try.func20, Try.ntmps20
    go_wp2_with fail
    refine (wholeIn_any A b.length c w).mono ?_
    rintro e w2 ⟨rfl, rfl⟩
    rw [← HW1.out]
    go_wp2_with fail
    refine Calls.mono HWH.out ?_
    rintro e w3 hans
    obtain ⟨A', n', c', rfl, hb⟩ := hans.no HW.out
    have HB := Lib.hid hb
    clear hb hans
    go_wp2_with fail
    go_ret2
    exact ⟨HX1.out.trans HB.out, .inr ⟨HN.out, rfl⟩⟩
  | some p =>
    have HPS := Lib.hid (whole1_spec hw)
    have HSIZE : Hid (∀ w, Calls Try.prog 14 #[.int .i64 (p.length : Int)] w fun e w' => e = .returned (.int .i64 ((p.length + 8 : Nat) : Int)) ∧ w = w') := fun w => by
      have h1 := HPS.out
      have h := size_any (p.length : Int) w
      rw [isize_nat, show fsize p.length = p.length + 8 by unfold fsize; rw [if_pos ⟨h1.2.1, h1.2.2.1⟩]] at h
      exact h
    have HW := Lib.hid hw
    have HO : Hid (one b = if b.length ≤ p.length + 8 then some p else none) := by unfold Hid one; rw [hw]
    obtain ⟨s, hs⟩ : ∃ s, s = p.length + 8 := ⟨_, rfl⟩
    rw [← hs] at HSIZE HO
    have HP1 : Hid (p.length ≤ 1099511627776) := by have := HPS.out.2.2.1; unfold Hid; omega
    clear hw hs
    by_cases hlt : s < b.length
    · have hd : decide ((s : Int) < (b.length : Int)) = true := by simp; omega
      have hd2 : decide (s < b.length) = true := by simp; omega
      have HN : Hid (one b = none) := by unfold Hid; rw [HO.out, if_neg (by omega)]
      clear hlt
      go_enter Try.func20, Try.ntmps20
      go_wp2_with fail
      refine (wholeIn_any A b.length c w).mono ?_
      rintro e w2 ⟨rfl, rfl⟩
      rw [← HW1.out]
      go_wp2_with fail
      refine Calls.mono HWH.out ?_
      rintro e w3 hans
      obtain ⟨A', c', rfl, hb, hs⟩ := hans.yes HW.out
      have HB := Lib.hid hb
      clear hb hans hs
      go_wp2_with fail
      refine (HSIZE.out _).mono ?_
      rintro e w4 ⟨rfl, rfl⟩
      go_wp2_with fail
      go_ret2
      exact ⟨HX1.out.trans HB.out, .inr ⟨HN.out, rfl⟩⟩
    · have hd : decide ((s : Int) < (b.length : Int)) = false := by simp; omega
      have hd2 : decide (s < b.length) = false := by simp; omega
      have HN : Hid (one b = some p) := by unfold Hid; rw [HO.out, if_pos (by omega)]
      clear hlt
      go_enter Try.func20, Try.ntmps20
      go_wp2_with fail
      refine (wholeIn_any A b.length c w).mono ?_
      rintro e w2 ⟨rfl, rfl⟩
      rw [← HW1.out]
      go_wp2_with fail
      refine Calls.mono HWH.out ?_
      rintro e w3 hans
      obtain ⟨A', c', rfl, hb, hs⟩ := hans.yes HW.out
      have HB := Lib.hid hb
      have HS := Lib.hid hs
      clear hb hans hs
      go_wp2_with fail
      refine (HSIZE.out _).mono ?_
      rintro e w4 ⟨rfl, rfl⟩
      go_wp2_with fail
      refine (clone_any _ _ _ p w3 (HS.out.below HB.out (Nat.le_trans HHI.out HX1.out.size)) (Nat.le_trans HHI.out (Nat.le_trans HX1.out.size HB.out.size)) HP1.out).mono ?_
      rintro e w5 ⟨v5, rfl, hown, hb5⟩
      obtain ⟨A5, c5, rfl, _, _, _, _⟩ := Sl.of_own hown
      have HOWN : Hid (Own w.heap.size p (.slice A5 p.length c5) w5) := ownsRow_base hown (Nat.le_trans HX1.out.size HB.out.size)
      have HB5 := Lib.hid hb5
      clear hown hb5
      go_wp2_with fail
      go_ret2
      exact ⟨Ext.trans (HX1.out.trans HB.out) HB5.out, .inl ⟨_, _, HN.out, rfl, HOWN.out⟩⟩
end Go.Proofs.Ytkaammdekalgnaa
