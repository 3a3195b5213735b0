/- The document's own: what is odd; one frame. -/
import Derived.Test.YtkaammdekalgnaaMframes
import Derived.Test.YtkaammdekalgnaaModd
namespace Go.Proofs.Ytkaammdekalgnaa
open Go.ChangeShapes Go.WideShapes Go.ChangeAt Go.RowKit

set_option maxRecDepth 100000 in
set_option maxHeartbeats 4000000 in
theorem rodd_any {w : World} {lo hi : Nat} {v : Value} {b : List Nat} (hv : Bs w lo hi v b) (hhi : hi ≤ w.heap.size) (hb : ∀ x ∈ b, x < 256) (hlen : b.length ≤ 1099511627776) :
    Calls Try.prog 19 #[v] w fun e w' => e = .returned (.bool (odd b)) ∧ Below w.heap.size w w' := by
  have HC := Lib.hid (frames_any hv hhi hb hlen)
  have HV := Lib.hid hv
  obtain ⟨A, c, rfl, q1, q2, q3, _⟩ := hv
  have hfe := fend_le b
  obtain ⟨k, hk⟩ : ∃ k, k = fend b 0 := ⟨_, rfl⟩
  rw [← hk] at hfe
  obtain ⟨A2, hA2, hrun⟩ := drop_run A b.length c k hfe q1
  obtain ⟨l, hl⟩ : ∃ l, l = b.drop k := ⟨_, rfl⟩
  have hll : b.length - k = l.length := by rw [hl]; simp
  have hlb : ∀ x ∈ l, x < 256 := fun x hx => hb x (List.mem_of_mem_drop (by rw [← hl]; exact hx))
  have HL := Lib.hid hlb
  have HLL := Lib.hid (show l.length ≤ 1099511627776 by omega)
  rw [hll] at hrun
  have HR : Hid (∀ W lo hi, Bs W lo hi (.slice A b.length c) b → Bs W lo hi (.slice A2 l.length (c - k)) l) := by
    intro W lo hi h
    have h2 := hA2 W lo hi b h
    rw [← hl, hll] at h2
    exact h2
  have HO : Hid (odd b = (decide (8 ≤ l.length) && (decide (claimed l = 0) || decide (claimed l ≤ l.length)))) := by unfold Hid odd; rw [← hk, ← hl]
  have HCK : Hid (∃ N, Calls Try.prog 15 #[.slice A b.length c] w fun e w' => (∃ A1 c1 A2 c2, e = .returned (.tuple #[.slice A1 N c1, .slice A2 N c2, .int .i64 (k : Int)])) ∧ Below w.heap.size w w') := ⟨_, HC.out.mono fun e w' ⟨A1, c1, A2, c2, he, _, hb⟩ => ⟨⟨A1, c1, A2, c2, by rw [hk]; exact he⟩, hb⟩⟩
  clear hb hlb hA2 hk hl q1 q2 q3 hfe HC hlen hll
  obtain ⟨N, hck⟩ := HCK.out
  have HCN := Lib.hid hck
  clear hck HCK
  by_cases h8 : l.length < 8
  · have hd : decide ((l.length : Int) < 8) = true := by simp; omega
    have ho : odd b = false := by rw [HO.out, decide_eq_false (p := 8 ≤ l.length) (by omega)]; rfl
    rw [ho]
    clear h8
    go_enter Try.func19, Try.ntmps19
    go_wp2_with fail
    refine HCN.out.mono ?_
    rintro e w1 ⟨⟨A1, c1, A3, c3, rfl⟩, hb1⟩
    have HB := Lib.hid hb1
    clear hb1
    go_wp2_with fail
    go_ret
    exact ⟨rfl, HB.out⟩
  · have hd : decide ((l.length : Int) < 8) = false := by simp; omega
    obtain ⟨n, hn⟩ : ∃ n, n = num4 (l.take 4) := ⟨_, rfl⟩
    have ho : odd b = (decide (claimed l = 0) || decide (claimed l ≤ l.length)) := by rw [HO.out, decide_eq_true (p := 8 ≤ l.length) (by omega)]; rfl
    have hcl : claimed l = fsize n := by rw [hn]; exact claimed_may (by omega)
    obtain ⟨g, hg⟩ : ∃ g, (decide (1 ≤ (n : Int)) && decide ((n : Int) ≤ 1048576)) = g := ⟨_, rfl⟩
    have HMAY : Hid (∀ w, Calls Try.prog 28 #[.int .i64 (n : Int)] w fun e w' => e = .returned (.bool g) ∧ w = w') := fun w => by
      have h := rmay_any (n : Int) w
      rw [hg] at h
      exact h
    have HLN : Hid (∀ w1 : World, Bs w1 lo hi (.slice A2 l.length (c - k)) l → Calls Try.prog 27 #[.slice A2 l.length (c - k)] w1 fun e w' => e = .returned (.int .i64 (n : Int)) ∧ Below w1.heap.size w1 w') := fun w1 h => by rw [hn]; exact rlength_any _ _ _ l w1 h HL.out (by omega)
    have hn32 : n < 4294967296 := by rw [hn]; exact num4_lt (by simp; omega) (fun x hx => HL.out x (List.mem_of_mem_take hx))
    clear h8 hn HO
    cases g with
    | false =>
      have hr : odd b = true := by
        rw [ho, hcl, show fsize n = 0 by unfold fsize; rw [if_neg (by simp at hg; omega)]]; simp
      rw [hr]
      clear hg ho hcl hr
      go_enter Try.func19, Try.ntmps19
      go_wp2_with fail
      refine HCN.out.mono ?_
      rintro e w1 ⟨⟨A1, c1, A3, c3, rfl⟩, hb1⟩
      have HB := Lib.hid hb1
      have HR1 := Lib.hid (HR.out _ _ _ (HV.out.below hb1 hhi))
      clear hb1
      go_wp2_with fail
      refine (HLN.out w1 HR1.out).mono ?_
      rintro e w2 ⟨rfl, hb2⟩
      have HB2 := Lib.hid (HB.out.trans (hb2.mono HB.out.size))
      clear hb2
      go_wp2_with fail
      refine (HMAY.out _).mono ?_
      rintro e w3 ⟨rfl, rfl⟩
      go_wp2_with fail
      go_ret
      exact ⟨rfl, HB2.out⟩
    | true =>
      obtain ⟨z, hz⟩ : ∃ z, decide (8 + (n : Int) ≤ (l.length : Int)) = z := ⟨_, rfl⟩
      have hr : odd b = z := by
        rw [ho, hcl, show fsize n = n + 8 by unfold fsize; rw [if_pos (by simp at hg; omega)], ← hz, Bool.eq_iff_iff]
        simp; omega
      rw [hr]
      clear hg ho hcl hr
      go_enter Try.func19, Try.ntmps19
      go_wp2_with fail
      refine HCN.out.mono ?_
      rintro e w1 ⟨⟨A1, c1, A3, c3, rfl⟩, hb1⟩
      have HB := Lib.hid hb1
      have HR1 := Lib.hid (HR.out _ _ _ (HV.out.below hb1 hhi))
      clear hb1
      go_wp2_with fail
      refine (HLN.out w1 HR1.out).mono ?_
      rintro e w2 ⟨rfl, hb2⟩
      have HB2 := Lib.hid (HB.out.trans (hb2.mono HB.out.size))
      clear hb2
      go_wp2_with fail
      refine (HMAY.out _).mono ?_
      rintro e w3 ⟨rfl, rfl⟩
      go_wp2_with fail
      go_ret
      exact ⟨by first | rfl | (rw [← hz]; simp), HB2.out⟩
end Go.Proofs.Ytkaammdekalgnaa
