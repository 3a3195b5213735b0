/- BloomAsks: what a filter says of a key is what the chapter says, for any bytes of at most 30000, any key of at most 9000. -/
import Derived.Test.YtdoieknjhdehmaaBknown
namespace Go.Proofs.Ytdoieknjhdehmaa.bloomAsks
open Go.ChangeShapes Go.WideShapes Go.ChangeAt Go.RowKit

set_option maxRecDepth 100000 in
set_option maxHeartbeats 8000000 in
theorem walk (w : World) (u : Value) (F : List Nat) (hF : ∀ b ∈ F, b < 256) (hu : Bs w 0 w.heap.size u F) (v : Value) (l : List Nat) (hl : ∀ b ∈ l, b < 256) (hv : Bs w 0 w.heap.size v l) :
    Calls Try.prog 6 #[u, v] w fun e w' => e = .returned (.bool true) ∧ Below w.heap.size w w' := by
  have HU := Lib.hid hu
  have HV := Lib.hid hv
  have HF := Lib.hid hF
  have HL := Lib.hid hl
  obtain ⟨A, c, rfl, q1, q2, q3, _⟩ := hu
  obtain ⟨A2, c2, rfl, p1, p2, p3, _⟩ := hv
  have hFl : (F.length : Int) ≤ 9223372036854775807 := by unfold maxLen at q2; omega
  have hll : (l.length : Int) ≤ 9223372036854775807 := by unfold maxLen at p2; omega
  clear q1 q2 q3 p1 p2 p3 hl hF
  by_cases hb1 : 30000 < F.length
  · have hd : decide ((30000 : Int) < (F.length : Int)) = true := by simp; omega
    have hd2 : decide (30000 < F.length) = true := by simp; omega
    clear hb1
    go_enter Try.func6, Try.ntmps6
    go_wp2_with fail
    refine (known_any w).mono ?_
    rintro e w3 ⟨rfl, hb⟩
    go_wp2_with fail
    go_ret
    exact ⟨rfl, hb⟩
  · have hd : decide ((30000 : Int) < (F.length : Int)) = false := by simp; omega
    have hd2 : decide (30000 < F.length) = false := by simp; omega
    have HF1 := Lib.hid (show F.length ≤ 30000 by omega)
    clear hb1
    by_cases hb2 : 9000 < l.length
    · have he : decide ((9000 : Int) < (l.length : Int)) = true := by simp; omega
      have he2 : decide (9000 < l.length) = true := by simp; omega
      clear hb2
      go_enter Try.func6, Try.ntmps6
      go_wp2_with fail
      refine (known_any w).mono ?_
      rintro e w3 ⟨rfl, hb⟩
      go_wp2_with fail
      go_ret
      exact ⟨rfl, hb⟩
    · have he : decide ((9000 : Int) < (l.length : Int)) = false := by simp; omega
      have he2 : decide (9000 < l.length) = false := by simp; omega
      have HL1 := Lib.hid (show l.length ≤ 1000000 by omega)
      clear hb2
      obtain ⟨z, hz⟩ : ∃ z, z = (!okF F.length || mayB F l) := ⟨_, rfl⟩
      obtain ⟨k, hk⟩ : ∃ k, k = chk F.length := ⟨_, rfl⟩
      obtain ⟨n, hn⟩ : ∃ n, n = cnt F := ⟨_, rfl⟩
      have HM : Hid (∀ W, Ext w W → Calls Try.prog 22 #[.slice A F.length c, .slice A2 l.length c2] W fun e w' => e = .returned (.bool z) ∧ Ext W w') := fun W hW => by
        rw [hz]; exact may_any (HU.out.below hW (Nat.le_refl _)) hW.size HF.out (HV.out.below hW (Nat.le_refl _)) hW.size HL.out
      have HRM : Hid (∀ W, Ext w W → Calls Try.prog 23 #[.slice A F.length c, .slice A2 l.length c2] W fun e w' => e = .returned (.bool z) ∧ Ext W w') := fun W hW => by
        rw [hz]; exact rmay_any (HU.out.below hW (Nat.le_refl _)) hW.size HF.out (HV.out.below hW (Nat.le_refl _)) hW.size HL.out HL1.out
      have HC : Hid (∀ W, Calls Try.prog 19 #[.slice A F.length c] W fun e w' => e = .returned (.int .i64 k) ∧ W = w') := fun W => by
        rw [hk]; exact check_any (by omega)
      have HRC : Hid (∀ W, Calls Try.prog 24 #[.slice A F.length c] W fun e w' => e = .returned (.int .i64 k) ∧ W = w') := fun W => by
        rw [hk]; exact rcheck_any (by omega)
      have HN : Hid (∀ W, Ext w W → Calls Try.prog 20 #[.slice A F.length c] W fun e w' => e = .returned (.int .i64 (n : Int)) ∧ W = w') := fun W hW => by
        rw [hn]; exact count_any (HU.out.below hW (Nat.le_refl _)) HF.out (by have := HF1.out; omega)
      have HRN : Hid (∀ W, Ext w W → Calls Try.prog 21 #[.slice A F.length c] W fun e w' => e = .returned (.int .i64 (n : Int)) ∧ W = w') := fun W hW => by
        rw [hn]; exact rcount_any (HU.out.below hW (Nat.le_refl _)) HF.out (by have := HF1.out; omega)
      clear hz hk hn
      go_enter Try.func6, Try.ntmps6
      go_wp2_with fail
      refine Calls.mono (HM.out w (Ext.refl _)) ?_
      rintro e w1 ⟨rfl, hx⟩
      have HX1 : Hid (Ext w w1) := hx
      clear hx
      go_wp2_with fail
      refine Calls.mono (HRM.out w1 HX1.out) ?_
      rintro e w2 ⟨rfl, hx⟩
      have HX2 : Hid (Ext w w2) := Ext.trans HX1.out hx
      clear hx
      have hzz : (z == z) = true := by simp
      have hkk : (k == k) = true := by simp
      have hnn : ((n : Int) == (n : Int)) = true := by simp
      go_wp2_with fail
      refine Calls.mono (HC.out w2) ?_
      rintro e w3 ⟨rfl, rfl⟩
      go_wp2_with fail
      refine (num_any _ _).mono ?_
      rintro e w3 ⟨rfl, rfl⟩
      go_wp2_with fail
      refine Calls.mono (HRC.out w2) ?_
      rintro e w3 ⟨rfl, rfl⟩
      go_wp2_with fail
      refine Calls.mono (HN.out w2 HX2.out) ?_
      rintro e w3 ⟨rfl, rfl⟩
      go_wp2_with fail
      refine Calls.mono (HRN.out w2 HX2.out) ?_
      rintro e w3 ⟨rfl, rfl⟩
      go_wp2_with fail
      refine (known_any w2).mono ?_
      rintro e w3 ⟨rfl, hb⟩
      go_wp2_with fail
      go_ret
      exact ⟨rfl, Ext.trans HX2.out hb⟩
end Go.Proofs.Ytdoieknjhdehmaa.bloomAsks
