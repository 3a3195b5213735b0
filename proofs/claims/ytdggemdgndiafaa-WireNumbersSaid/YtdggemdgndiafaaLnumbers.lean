/- WireNumbers: a number's form is the chapter's, no form begins another one, and it is read as the number. -/
import Derived.Test.YtdggemdgndiafaaFrame
import Derived.Test.YtdggemdgndiafaaRmore
import Derived.Test.YtdggemdgndiafaaOrd
import Derived.Deep.DeepCutAuto
namespace Go.Proofs.Ytdggemdgndiafaa.wireNumbers
open Go.ChangeShapes Go.WideShapes Go.ChangeAt Go.RowKit

theorem tx_ne {l r : List Nat} (hl : ∀ n ∈ l, n < 256) (hr : ∀ n ∈ r, n < 256) (h : l ≠ r) : ((tx l).toList == (tx r).toList) = false := by
  rw [beq_eq_false_iff_ne]
  intro he
  apply h
  apply tx_inj hl hr
  rw [ByteArray.toList_eq, ByteArray.toList_eq] at he
  cases hx : tx l with
  | mk d =>
    cases hy : tx r with
    | mk e =>
      rw [hx, hy] at he
      have := Array.toList_inj.1 he
      simp at this
      rw [this]

/-- The first bytes of a row of the call's own. -/
theorem prefix_bs {w : World} {lo hi d n : Nat} {B B2 : Option Addr} {G : List Nat} (h : Bs w lo hi (.slice B G.length d) G) (h2 : ∀ l : List Nat, l.length = G.length → ∀ (W : World) (lo hi : Nat), By W lo hi B l → By W lo hi B2 (l.take n))
    (hn : B2 = none → B = none) (hle : n ≤ G.length) : Bs w lo hi (.slice B2 n d) (G.take n) := by
  obtain ⟨A', c', he, a1, a2, a3, a4⟩ := h
  have h5 : B = A' ∧ d = c' := by injection he with x y z; exact ⟨x, z⟩
  obtain ⟨rfl, rfl⟩ := h5
  have hl : (G.take n).length = n := by simp; omega
  exact ⟨B2, d, by rw [hl], by rw [hl]; omega, a2, fun h => a3 (hn h), h2 G rfl _ _ _ a4⟩

/-- What the program asks of two numbers' forms. -/
theorem tests (n m : Nat) :
    (n = m ∧ decide (n < m) = false ∧ (n != m) = false) ∨
    (decide (n < m) = true ∧ (n != m) = true ∧ decide ((form m).length < (form n).length) = false ∧ decide ((form n).length ≤ (form m).length) = true) ∨
    (decide (n < m) = false ∧ (n != m) = true) := by
  rcases Nat.lt_trichotomy n m with h | h | h
  · have := form_mono n m (Nat.le_of_lt h)
    refine .inr (.inl ⟨by simp [h], ?_, by simp; omega, by simp [this]⟩)
    simp; omega
  · exact .inl ⟨h, by simp [h], by simp [h]⟩
  · refine .inr (.inr ⟨by simp; omega, ?_⟩)
    simp; omega

set_option maxRecDepth 100000 in
set_option maxHeartbeats 8000000 in
theorem walk (w : World) (a0 : Int) (hwf0 : (Lit.int .u64 a0).wf = true) (a1 : Int) (hwf1 : (Lit.int .u64 a1).wf = true) (v : Value) (R : List Nat) (hRb : ∀ b ∈ R, b < 256) (hR : Bs w 0 w.heap.size v R) :
    Calls Try.prog 3 #[.int .u64 a0, .int .u64 a1, v] w fun e w' => e = .returned (.bool true) ∧ Below w.heap.size w w' := by
  obtain ⟨n, rfl, hn⟩ := u64_wf hwf0
  obtain ⟨m, rfl, hm⟩ := u64_wf hwf1
  clear hwf0 hwf1
  have HRv := Lib.hid hR
  obtain ⟨AR, cR, rfl, x1, x2, x3, x4⟩ := hR
  clear x1 x2 x3 x4
  by_cases hbig : 300 < R.length
  · have hd : decide ((300 : Int) < (R.length : Int)) = true := by simp; omega
    have hd2 : decide (300 < R.length) = true := by simp [hbig]
    have HK := Lib.hid (known_any w)
    go_enter Try.func3, Try.ntmps3
    go_wp2_with fail
    refine Calls.mono HK.out ?_
    rintro e w1 ⟨rfl, hb1⟩
    go_wp2_with fail
    go_ret
    exact ⟨rfl, hb1⟩
  · have hd : decide ((300 : Int) < (R.length : Int)) = false := by simp; omega
    have hd2 : decide (300 < R.length) = false := by simp; omega
    obtain ⟨F, hF⟩ : ∃ F, F = form n := ⟨_, rfl⟩
    obtain ⟨G, hG⟩ : ∃ G, G = form m := ⟨_, rfl⟩
    have hT0 := tests n m
    have HNP := Lib.hid (fun h => form_no_prefix hn hm h)
    have HA := Lib.hid (number_any n hn w)
    have HB := Lib.hid (number_any m hm)
    have HRN := Lib.hid (rnumber_any n hn)
    have HRM := Lib.hid (rnumber_any m hm)
    have HF10 := Lib.hid (form_len64 hn)
    have HFB := Lib.hid (form_bytes n)
    have HGB := Lib.hid (form_bytes m)
    have HLR := Lib.hid (show R.length ≤ 300 by omega)
    rw [← hF, ← hG] at hT0 HNP
    rw [← hF] at HA HRN HF10 HFB
    rw [← hG] at HB HRM HGB
    have HT := Lib.hid hT0
    clear hT0
    have HFe := Lib.hid hF
    clear hF hG
    go_enter Try.func3, Try.ntmps3
    go_wp2_with fail
    refine Calls.mono HA.out ?_
    rintro e w1 ⟨v1, rfl, hown1, hb1⟩
    have HS1 := Lib.hid (Bs.of_own hown1)
    obtain ⟨A, c, rfl, x1, x2, x3, x4⟩ := Bs.of_own hown1
    clear x1 x2 x3 x4
    have HB1 := Lib.hid hb1
    have hz1 := hb1.size
    clear hown1 hb1
    go_wp2_with fail
    refine Calls.mono (HB.out _) ?_
    rintro e w2 ⟨v2, rfl, hown2, hb2⟩
    have HS2 := Lib.hid (HS1.out.below hb2 (Nat.le_refl _))
    have HT2 := Lib.hid (Bs.of_own hown2)
    obtain ⟨B, d, rfl, hle, x2, x3, x4⟩ := Bs.of_own hown2
    clear x2 x3 x4
    have HB2 := Lib.hid (HB1.out.trans (hb2.mono hz1))
    have hz2 := hb2.size
    have HLE := Lib.hid hle
    clear hown2 hb2 hle
    go_upto_region 4 with (fail)
    go_cut [67] (fun v wx => v = .bool false ∧ Below w2.heap.size w2 wx)
    case first =>
      have hcva : ∀ u, Ext w2 u → (convert 23 9 (.slice A F.length c)).run Try.prog u = .ok (.string (tx F)) u := fun u hu => cv (HS2.out.below hu hz2)
      have hcvb : ∀ u, Ext w2 u → (convert 23 9 (.slice B G.length d)).run Try.prog u = .ok (.string (tx G)) u := fun u hu => cv (HT2.out.below hu (Nat.le_refl _))
      have HCA := Lib.hid hcva
      have HCB := Lib.hid hcvb
      clear hcva hcvb
      clear hRb hn hm hbig hd hd2 HA HB
      rcases HT.out with ⟨hnm, t1, t2⟩ | ⟨t1, t2, t3, t4⟩ | ⟨t1, t2⟩
      · have t2i : ((n : Int) != (m : Int)) = false := by simp [hnm]
        clear hnm
        have HC : Hid (∀ u, Ext w2.drew u → (convert 23 9 (.slice A F.length c)).run Try.prog u = .ok (.string (tx F)) u ∧ (convert 23 9 (.slice B G.length d)).run Try.prog u = .ok (.string (tx G)) u) := fun u hu => ⟨HCA.out u ((Ext.drew w2).trans hu), HCB.out u ((Ext.drew w2).trans hu)⟩
        refine From.start (by kernel_rfl) ?_
        simp only []
        repeat (first | (refine From.read (v := ?_) (by kernel_rfl) (by kernel_rfl) (by kernel_rfl) (fun _ _ _ h => h) (.inl ⟨by rfl, fun u hu => ?_⟩) ?_; rotate_left; (focus (have q1 := HC.out u hu; go_simp; try with_reducible rfl)); simp only [Act.put, List.setIfInBounds_toArray, List.set_cons_zero, List.set_cons_succ]) | (refine From.read (v := undef) (by kernel_rfl) (by kernel_rfl) (by kernel_rfl) (fun _ _ _ h => h) (.inr ⟨by rfl, rfl⟩) ?_; simp only [Act.put, List.setIfInBounds_toArray, List.set_cons_zero, List.set_cons_succ]))
        refine From.make (by kernel_rfl) (fun K hK => ?_)
        go_simp
        refine Calls.mono (HRN.out _) ?_
        rintro e w4 ⟨v4, rfl, hown, hb⟩
        have hs := Bs.of_own hown
        have hs' := hs
        obtain ⟨A4, c4, rfl, q1, q2, q3, q4⟩ := hs
        have HE4 : Hid (Ext w2.drew w4) := hb
        have HC2 : Hid (∀ u, Ext w4 u → (convert 23 9 (.slice A F.length c)).run Try.prog u = .ok (.string (tx F)) u ∧ (convert 23 9 (.slice B G.length d)).run Try.prog u = .ok (.string (tx G)) u ∧ (convert 23 9 (.slice A4 F.length c4)).run Try.prog u = .ok (.string (tx F)) u) := fun u hu => ⟨(HC.out u (HE4.out.trans hu)).1, (HC.out u (HE4.out.trans hu)).2, cv (hs'.below hu (Nat.le_refl _))⟩
        clear q1 q2 q3 q4 hb hown hs'
        go_simp
        refine hK _ _ HE4.out ?_
        clear hK K
        repeat (first | (refine From.read (v := ?_) (by kernel_rfl) (by kernel_rfl) (by kernel_rfl) (fun _ _ _ h => h) (.inl ⟨by rfl, fun u hu => ?_⟩) ?_; rotate_left; (focus (have q1 := HC2.out u hu; go_simp; try with_reducible rfl)); simp only [Act.put, List.setIfInBounds_toArray, List.set_cons_zero, List.set_cons_succ]) | (refine From.read (v := undef) (by kernel_rfl) (by kernel_rfl) (by kernel_rfl) (fun _ _ _ h => h) (.inr ⟨by rfl, rfl⟩) ?_; simp only [Act.put, List.setIfInBounds_toArray, List.set_cons_zero, List.set_cons_succ]))
        refine From.make (by kernel_rfl) (fun K hK => ?_)
        go_simp
        refine Calls.mono (HRM.out _) ?_
        rintro e w5 ⟨v5, rfl, hown, hb⟩
        have hs := Bs.of_own hown
        have hs' := hs
        obtain ⟨A5, c5, rfl, q1, q2, q3, q4⟩ := hs
        have HE5 : Hid (Ext w4 w5) := hb
        have HC3 : Hid (∀ u, Ext w5 u → (convert 23 9 (.slice A F.length c)).run Try.prog u = .ok (.string (tx F)) u ∧ (convert 23 9 (.slice B G.length d)).run Try.prog u = .ok (.string (tx G)) u ∧ (convert 23 9 (.slice A4 F.length c4)).run Try.prog u = .ok (.string (tx F)) u ∧ (convert 23 9 (.slice A5 G.length c5)).run Try.prog u = .ok (.string (tx G)) u) := fun u hu => ⟨(HC2.out u (HE5.out.trans hu)).1, (HC2.out u (HE5.out.trans hu)).2.1, (HC2.out u (HE5.out.trans hu)).2.2, cv (hs'.below hu (Nat.le_refl _))⟩
        clear q1 q2 q3 q4 hb hown hs'
        go_simp
        refine hK _ _ HE5.out ?_
        clear hK K
        repeat (first | (refine From.read (v := ?_) (by kernel_rfl) (by kernel_rfl) (by kernel_rfl) (fun _ _ _ h => h) (.inl ⟨by rfl, fun u hu => ?_⟩) ?_; rotate_left; (focus (have q1 := HC3.out u hu; go_simp; try with_reducible rfl)); simp only [Act.put, List.setIfInBounds_toArray, List.set_cons_zero, List.set_cons_succ]) | (refine From.read (v := undef) (by kernel_rfl) (by kernel_rfl) (by kernel_rfl) (fun _ _ _ h => h) (.inr ⟨by rfl, rfl⟩) ?_; simp only [Act.put, List.setIfInBounds_toArray, List.set_cons_zero, List.set_cons_succ]))
        refine From.done (by kernel_rfl) ?_
        go_wp2_with fail
        go_meet
        exact ⟨rfl, (Ext.drew w2).trans (HE4.out.trans HE5.out)⟩
      · have t2i : ((n : Int) != (m : Int)) = true := by rw [bne_iff_ne] at t2 ⊢; omega
        have hnm : n ≠ m := by rw [bne_iff_ne] at t2; exact t2
        obtain ⟨B2, hB2, hB2n, hrun⟩ := head_run .i64 B G.length d F.length (of_decide_eq_true t4) HLE.out
        have hne : ((tx (G.take F.length)).toList == (tx F).toList) = false := tx_ne (fun b hb => HGB.out b (List.mem_of_mem_take hb)) HFB.out (HNP.out hnm)
        have HP2 : Hid (Bs w2 w1.heap.size w2.heap.size (.slice B2 F.length d) (G.take F.length)) := prefix_bs HT2.out hB2 hB2n (of_decide_eq_true t4)
        have HC : Hid (∀ u, Ext w2.drew u → (convert 23 9 (.slice A F.length c)).run Try.prog u = .ok (.string (tx F)) u ∧ (convert 23 9 (.slice B G.length d)).run Try.prog u = .ok (.string (tx G)) u ∧ (convert 23 9 (.slice B2 F.length d)).run Try.prog u = .ok (.string (tx (G.take F.length))) u) := fun u hu => ⟨HCA.out u ((Ext.drew w2).trans hu), HCB.out u ((Ext.drew w2).trans hu), cv (HP2.out.below ((Ext.drew w2).trans hu) (Nat.le_refl _))⟩
        clear hB2 hB2n
        refine From.start (by kernel_rfl) ?_
        simp only []
        repeat (first | (refine From.read (v := ?_) (by kernel_rfl) (by kernel_rfl) (by kernel_rfl) (fun _ _ _ h => h) (.inl ⟨by rfl, fun u hu => ?_⟩) ?_; rotate_left; (focus (have q1 := HC.out u hu; go_simp; try with_reducible rfl)); simp only [Act.put, List.setIfInBounds_toArray, List.set_cons_zero, List.set_cons_succ]) | (refine From.read (v := undef) (by kernel_rfl) (by kernel_rfl) (by kernel_rfl) (fun _ _ _ h => h) (.inr ⟨by rfl, rfl⟩) ?_; simp only [Act.put, List.setIfInBounds_toArray, List.set_cons_zero, List.set_cons_succ]))
        refine From.make (by kernel_rfl) (fun K hK => ?_)
        go_simp
        refine Calls.mono (HRN.out _) ?_
        rintro e w4 ⟨v4, rfl, hown, hb⟩
        have hs := Bs.of_own hown
        have hs' := hs
        obtain ⟨A4, c4, rfl, q1, q2, q3, q4⟩ := hs
        have HE4 : Hid (Ext w2.drew w4) := hb
        have HC2 : Hid (∀ u, Ext w4 u → (convert 23 9 (.slice A F.length c)).run Try.prog u = .ok (.string (tx F)) u ∧ (convert 23 9 (.slice B G.length d)).run Try.prog u = .ok (.string (tx G)) u ∧ (convert 23 9 (.slice B2 F.length d)).run Try.prog u = .ok (.string (tx (G.take F.length))) u ∧ (convert 23 9 (.slice A4 F.length c4)).run Try.prog u = .ok (.string (tx F)) u) := fun u hu => ⟨(HC.out u (HE4.out.trans hu)).1, (HC.out u (HE4.out.trans hu)).2.1, (HC.out u (HE4.out.trans hu)).2.2, cv (hs'.below hu (Nat.le_refl _))⟩
        clear q1 q2 q3 q4 hb hown hs'
        go_simp
        refine hK _ _ HE4.out ?_
        clear hK K
        repeat (first | (refine From.read (v := ?_) (by kernel_rfl) (by kernel_rfl) (by kernel_rfl) (fun _ _ _ h => h) (.inl ⟨by rfl, fun u hu => ?_⟩) ?_; rotate_left; (focus (have q1 := HC2.out u hu; go_simp; try with_reducible rfl)); simp only [Act.put, List.setIfInBounds_toArray, List.set_cons_zero, List.set_cons_succ]) | (refine From.read (v := undef) (by kernel_rfl) (by kernel_rfl) (by kernel_rfl) (fun _ _ _ h => h) (.inr ⟨by rfl, rfl⟩) ?_; simp only [Act.put, List.setIfInBounds_toArray, List.set_cons_zero, List.set_cons_succ]))
        refine From.make (by kernel_rfl) (fun K hK => ?_)
        go_simp
        refine Calls.mono (HRM.out _) ?_
        rintro e w5 ⟨v5, rfl, hown, hb⟩
        have hs := Bs.of_own hown
        have hs' := hs
        obtain ⟨A5, c5, rfl, q1, q2, q3, q4⟩ := hs
        have HE5 : Hid (Ext w4 w5) := hb
        have HC3 : Hid (∀ u, Ext w5 u → (convert 23 9 (.slice A F.length c)).run Try.prog u = .ok (.string (tx F)) u ∧ (convert 23 9 (.slice B G.length d)).run Try.prog u = .ok (.string (tx G)) u ∧ (convert 23 9 (.slice B2 F.length d)).run Try.prog u = .ok (.string (tx (G.take F.length))) u ∧ (convert 23 9 (.slice A4 F.length c4)).run Try.prog u = .ok (.string (tx F)) u ∧ (convert 23 9 (.slice A5 G.length c5)).run Try.prog u = .ok (.string (tx G)) u) := fun u hu => ⟨(HC2.out u (HE5.out.trans hu)).1, (HC2.out u (HE5.out.trans hu)).2.1, (HC2.out u (HE5.out.trans hu)).2.2.1, (HC2.out u (HE5.out.trans hu)).2.2.2, cv (hs'.below hu (Nat.le_refl _))⟩
        clear q1 q2 q3 q4 hb hown hs'
        go_simp
        refine hK _ _ HE5.out ?_
        clear hK K
        repeat (first | (refine From.read (v := ?_) (by kernel_rfl) (by kernel_rfl) (by kernel_rfl) (fun _ _ _ h => h) (.inl ⟨by rfl, fun u hu => ?_⟩) ?_; rotate_left; (focus (have q1 := HC3.out u hu; go_simp; try with_reducible rfl)); simp only [Act.put, List.setIfInBounds_toArray, List.set_cons_zero, List.set_cons_succ]) | (refine From.read (v := undef) (by kernel_rfl) (by kernel_rfl) (by kernel_rfl) (fun _ _ _ h => h) (.inr ⟨by rfl, rfl⟩) ?_; simp only [Act.put, List.setIfInBounds_toArray, List.set_cons_zero, List.set_cons_succ]))
        refine From.done (by kernel_rfl) ?_
        go_wp2_with fail
        go_meet
        exact ⟨rfl, (Ext.drew w2).trans (HE4.out.trans HE5.out)⟩
      · have t2i : ((n : Int) != (m : Int)) = true := by rw [bne_iff_ne] at t2 ⊢; omega
        have hnm : n ≠ m := by rw [bne_iff_ne] at t2; exact t2
        by_cases hl : F.length ≤ G.length
        · have t4 : decide (F.length ≤ G.length) = true := by simp [hl]
          clear hl
          obtain ⟨B2, hB2, hB2n, hrun⟩ := head_run .i64 B G.length d F.length (of_decide_eq_true t4) HLE.out
          have hne : ((tx (G.take F.length)).toList == (tx F).toList) = false := tx_ne (fun b hb => HGB.out b (List.mem_of_mem_take hb)) HFB.out (HNP.out hnm)
          have HP2 : Hid (Bs w2 w1.heap.size w2.heap.size (.slice B2 F.length d) (G.take F.length)) := prefix_bs HT2.out hB2 hB2n (of_decide_eq_true t4)
          have HC : Hid (∀ u, Ext w2.drew u → (convert 23 9 (.slice A F.length c)).run Try.prog u = .ok (.string (tx F)) u ∧ (convert 23 9 (.slice B G.length d)).run Try.prog u = .ok (.string (tx G)) u ∧ (convert 23 9 (.slice B2 F.length d)).run Try.prog u = .ok (.string (tx (G.take F.length))) u) := fun u hu => ⟨HCA.out u ((Ext.drew w2).trans hu), HCB.out u ((Ext.drew w2).trans hu), cv (HP2.out.below ((Ext.drew w2).trans hu) (Nat.le_refl _))⟩
          clear hB2 hB2n
          refine From.start (by kernel_rfl) ?_
          simp only []
          repeat (first | (refine From.read (v := ?_) (by kernel_rfl) (by kernel_rfl) (by kernel_rfl) (fun _ _ _ h => h) (.inl ⟨by rfl, fun u hu => ?_⟩) ?_; rotate_left; (focus (have q1 := HC.out u hu; go_simp; try with_reducible rfl)); simp only [Act.put, List.setIfInBounds_toArray, List.set_cons_zero, List.set_cons_succ]) | (refine From.read (v := undef) (by kernel_rfl) (by kernel_rfl) (by kernel_rfl) (fun _ _ _ h => h) (.inr ⟨by rfl, rfl⟩) ?_; simp only [Act.put, List.setIfInBounds_toArray, List.set_cons_zero, List.set_cons_succ]))
          refine From.make (by kernel_rfl) (fun K hK => ?_)
          go_simp
          refine Calls.mono (HRN.out _) ?_
          rintro e w4 ⟨v4, rfl, hown, hb⟩
          have hs := Bs.of_own hown
          have hs' := hs
          obtain ⟨A4, c4, rfl, q1, q2, q3, q4⟩ := hs
          have HE4 : Hid (Ext w2.drew w4) := hb
          have HC2 : Hid (∀ u, Ext w4 u → (convert 23 9 (.slice A F.length c)).run Try.prog u = .ok (.string (tx F)) u ∧ (convert 23 9 (.slice B G.length d)).run Try.prog u = .ok (.string (tx G)) u ∧ (convert 23 9 (.slice B2 F.length d)).run Try.prog u = .ok (.string (tx (G.take F.length))) u ∧ (convert 23 9 (.slice A4 F.length c4)).run Try.prog u = .ok (.string (tx F)) u) := fun u hu => ⟨(HC.out u (HE4.out.trans hu)).1, (HC.out u (HE4.out.trans hu)).2.1, (HC.out u (HE4.out.trans hu)).2.2, cv (hs'.below hu (Nat.le_refl _))⟩
          clear q1 q2 q3 q4 hb hown hs'
          go_simp
          refine hK _ _ HE4.out ?_
          clear hK K
          repeat (first | (refine From.read (v := ?_) (by kernel_rfl) (by kernel_rfl) (by kernel_rfl) (fun _ _ _ h => h) (.inl ⟨by rfl, fun u hu => ?_⟩) ?_; rotate_left; (focus (have q1 := HC2.out u hu; go_simp; try with_reducible rfl)); simp only [Act.put, List.setIfInBounds_toArray, List.set_cons_zero, List.set_cons_succ]) | (refine From.read (v := undef) (by kernel_rfl) (by kernel_rfl) (by kernel_rfl) (fun _ _ _ h => h) (.inr ⟨by rfl, rfl⟩) ?_; simp only [Act.put, List.setIfInBounds_toArray, List.set_cons_zero, List.set_cons_succ]))
          refine From.make (by kernel_rfl) (fun K hK => ?_)
          go_simp
          refine Calls.mono (HRM.out _) ?_
          rintro e w5 ⟨v5, rfl, hown, hb⟩
          have hs := Bs.of_own hown
          have hs' := hs
          obtain ⟨A5, c5, rfl, q1, q2, q3, q4⟩ := hs
          have HE5 : Hid (Ext w4 w5) := hb
          have HC3 : Hid (∀ u, Ext w5 u → (convert 23 9 (.slice A F.length c)).run Try.prog u = .ok (.string (tx F)) u ∧ (convert 23 9 (.slice B G.length d)).run Try.prog u = .ok (.string (tx G)) u ∧ (convert 23 9 (.slice B2 F.length d)).run Try.prog u = .ok (.string (tx (G.take F.length))) u ∧ (convert 23 9 (.slice A4 F.length c4)).run Try.prog u = .ok (.string (tx F)) u ∧ (convert 23 9 (.slice A5 G.length c5)).run Try.prog u = .ok (.string (tx G)) u) := fun u hu => ⟨(HC2.out u (HE5.out.trans hu)).1, (HC2.out u (HE5.out.trans hu)).2.1, (HC2.out u (HE5.out.trans hu)).2.2.1, (HC2.out u (HE5.out.trans hu)).2.2.2, cv (hs'.below hu (Nat.le_refl _))⟩
          clear q1 q2 q3 q4 hb hown hs'
          go_simp
          refine hK _ _ HE5.out ?_
          clear hK K
          repeat (first | (refine From.read (v := ?_) (by kernel_rfl) (by kernel_rfl) (by kernel_rfl) (fun _ _ _ h => h) (.inl ⟨by rfl, fun u hu => ?_⟩) ?_; rotate_left; (focus (have q1 := HC3.out u hu; go_simp; try with_reducible rfl)); simp only [Act.put, List.setIfInBounds_toArray, List.set_cons_zero, List.set_cons_succ]) | (refine From.read (v := undef) (by kernel_rfl) (by kernel_rfl) (by kernel_rfl) (fun _ _ _ h => h) (.inr ⟨by rfl, rfl⟩) ?_; simp only [Act.put, List.setIfInBounds_toArray, List.set_cons_zero, List.set_cons_succ]))
          refine From.done (by kernel_rfl) ?_
          go_wp2_with fail
          go_meet
          exact ⟨rfl, (Ext.drew w2).trans (HE4.out.trans HE5.out)⟩
        · have t4 : decide (F.length ≤ G.length) = false := by simp; omega
          clear hl hnm
          have HC : Hid (∀ u, Ext w2.drew u → (convert 23 9 (.slice A F.length c)).run Try.prog u = .ok (.string (tx F)) u ∧ (convert 23 9 (.slice B G.length d)).run Try.prog u = .ok (.string (tx G)) u) := fun u hu => ⟨HCA.out u ((Ext.drew w2).trans hu), HCB.out u ((Ext.drew w2).trans hu)⟩
          refine From.start (by kernel_rfl) ?_
          simp only []
          repeat (first | (refine From.read (v := ?_) (by kernel_rfl) (by kernel_rfl) (by kernel_rfl) (fun _ _ _ h => h) (.inl ⟨by rfl, fun u hu => ?_⟩) ?_; rotate_left; (focus (have q1 := HC.out u hu; go_simp; try with_reducible rfl)); simp only [Act.put, List.setIfInBounds_toArray, List.set_cons_zero, List.set_cons_succ]) | (refine From.read (v := undef) (by kernel_rfl) (by kernel_rfl) (by kernel_rfl) (fun _ _ _ h => h) (.inr ⟨by rfl, rfl⟩) ?_; simp only [Act.put, List.setIfInBounds_toArray, List.set_cons_zero, List.set_cons_succ]))
          refine From.make (by kernel_rfl) (fun K hK => ?_)
          go_simp
          refine Calls.mono (HRN.out _) ?_
          rintro e w4 ⟨v4, rfl, hown, hb⟩
          have hs := Bs.of_own hown
          have hs' := hs
          obtain ⟨A4, c4, rfl, q1, q2, q3, q4⟩ := hs
          have HE4 : Hid (Ext w2.drew w4) := hb
          have HC2 : Hid (∀ u, Ext w4 u → (convert 23 9 (.slice A F.length c)).run Try.prog u = .ok (.string (tx F)) u ∧ (convert 23 9 (.slice B G.length d)).run Try.prog u = .ok (.string (tx G)) u ∧ (convert 23 9 (.slice A4 F.length c4)).run Try.prog u = .ok (.string (tx F)) u) := fun u hu => ⟨(HC.out u (HE4.out.trans hu)).1, (HC.out u (HE4.out.trans hu)).2, cv (hs'.below hu (Nat.le_refl _))⟩
          clear q1 q2 q3 q4 hb hown hs'
          go_simp
          refine hK _ _ HE4.out ?_
          clear hK K
          repeat (first | (refine From.read (v := ?_) (by kernel_rfl) (by kernel_rfl) (by kernel_rfl) (fun _ _ _ h => h) (.inl ⟨by rfl, fun u hu => ?_⟩) ?_; rotate_left; (focus (have q1 := HC2.out u hu; go_simp; try with_reducible rfl)); simp only [Act.put, List.setIfInBounds_toArray, List.set_cons_zero, List.set_cons_succ]) | (refine From.read (v := undef) (by kernel_rfl) (by kernel_rfl) (by kernel_rfl) (fun _ _ _ h => h) (.inr ⟨by rfl, rfl⟩) ?_; simp only [Act.put, List.setIfInBounds_toArray, List.set_cons_zero, List.set_cons_succ]))
          refine From.make (by kernel_rfl) (fun K hK => ?_)
          go_simp
          refine Calls.mono (HRM.out _) ?_
          rintro e w5 ⟨v5, rfl, hown, hb⟩
          have hs := Bs.of_own hown
          have hs' := hs
          obtain ⟨A5, c5, rfl, q1, q2, q3, q4⟩ := hs
          have HE5 : Hid (Ext w4 w5) := hb
          have HC3 : Hid (∀ u, Ext w5 u → (convert 23 9 (.slice A F.length c)).run Try.prog u = .ok (.string (tx F)) u ∧ (convert 23 9 (.slice B G.length d)).run Try.prog u = .ok (.string (tx G)) u ∧ (convert 23 9 (.slice A4 F.length c4)).run Try.prog u = .ok (.string (tx F)) u ∧ (convert 23 9 (.slice A5 G.length c5)).run Try.prog u = .ok (.string (tx G)) u) := fun u hu => ⟨(HC2.out u (HE5.out.trans hu)).1, (HC2.out u (HE5.out.trans hu)).2.1, (HC2.out u (HE5.out.trans hu)).2.2, cv (hs'.below hu (Nat.le_refl _))⟩
          clear q1 q2 q3 q4 hb hown hs'
          go_simp
          refine hK _ _ HE5.out ?_
          clear hK K
          repeat (first | (refine From.read (v := ?_) (by kernel_rfl) (by kernel_rfl) (by kernel_rfl) (fun _ _ _ h => h) (.inl ⟨by rfl, fun u hu => ?_⟩) ?_; rotate_left; (focus (have q1 := HC3.out u hu; go_simp; try with_reducible rfl)); simp only [Act.put, List.setIfInBounds_toArray, List.set_cons_zero, List.set_cons_succ]) | (refine From.read (v := undef) (by kernel_rfl) (by kernel_rfl) (by kernel_rfl) (fun _ _ _ h => h) (.inr ⟨by rfl, rfl⟩) ?_; simp only [Act.put, List.setIfInBounds_toArray, List.set_cons_zero, List.set_cons_succ]))
          refine From.done (by kernel_rfl) ?_
          go_wp2_with fail
          go_meet
          exact ⟨rfl, (Ext.drew w2).trans (HE4.out.trans HE5.out)⟩
    case rest =>
      obtain ⟨rfl, hb4⟩ := hcut
      have hzc := hb4.size
      have HBC := Lib.hid (HB2.out.trans (hb4.mono (by omega)))
      have g1 : Bs wc 0 wc.heap.size (.slice A F.length c) F := (HS2.out.below hb4 hz2).wide (Nat.zero_le _) (by omega)
      have g2 : Bs wc 0 wc.heap.size (.slice AR R.length cR) R := (HRv.out.below HBC.out (Nat.le_refl _)).wide (Nat.le_refl _) (by omega)
      have HR2 := Lib.hid ((rows2_two (T := 23) g1 g2 (Nat.le_refl _)).resolve_right (by omega))
      have HBeg : Hid (Begins (F ++ R) n R) := ⟨hn, by rw [HFe.out]⟩
      have HYT : Hid (∀ b ∈ F ++ R, b < 256) := fun b hb => by
        rcases List.mem_append.1 hb with h | h
        · exact HFB.out b h
        · exact hRb b h
      have HN := Lib.hid hn
      clear g1 g2 hb4 hRb hn hm HA HB HRN HRM hbig
      go_wp2_with fail
      refine (join_any _ 2 0 (wc.heap.size + 1) _ _ _ HR2.out (by simp) (by simp [maxLen]) (by simp) ?c1 2 rfl).mono ?_
      case c1 => have := HF10.out; have := HLR.out; simp; omega
      rintro e w5 ⟨v5, rfl, hown5, hb5⟩
      have e5 : [F, R].flatten = F ++ R := by simp
      rw [e5] at hown5
      have HS5 := Lib.hid (Bs.of_own hown5)
      obtain ⟨A5, c5, rfl, x1, x2, x3, x4⟩ := Bs.of_own hown5
      have HB5 := Lib.hid ((HBC.out.alloc (by omega) _).trans (hb5.mono (by simp; omega)))
      have hz5 : wc.heap.size < w5.heap.size := by have := hb5.size; simp at this; omega
      have HLEN : Hid ((F ++ R).length ≤ 310) := by have := HF10.out; have := HLR.out; show (F ++ R).length ≤ 310; simp; omega
      clear hown5 hb5 e5 x1 x2 x3 x4
      obtain ⟨L, hL⟩ : ∃ L, L = F ++ R := ⟨_, rfl⟩
      rw [← hL] at HBeg HYT HS5 HLEN ⊢
      clear hL
      go_wp2_with fail
      refine (open_any _ _ _ L _ HS5.out (Nat.le_refl _) (by have := HLEN.out; omega) HYT.out).mono ?_
      rintro e w6 ⟨r, lo, hi, rfl, hrd, hr, hlo, hb6⟩
      have HB6 := Lib.hid (HB5.out.trans (hb6.mono (by omega)))
      have HRD := Lib.hid hrd
      have hz6 := hb6.size
      clear hrd hb6
      go_wp2_with fail
      refine (Number_yes HRD.out HBeg.out).mono ?_
      rintro e w7 ⟨rfl, hrd7, hg7⟩
      have HRD7 := Lib.hid hrd7
      have HB7 := Lib.hid (HB6.out.grown hg7 (by omega) (fun k hk => by injection hk with hk; omega))
      have HZ7 := Lib.hid (HB7.out.size)
      clear hrd7 hg7
      have hnn : ((n : Int) == (n : Int)) = true := by simp
      have hll : ((R.length : Int) == (R.length : Int)) = true := by simp
      go_wp2_with fail
      refine (errnum 0 _).mono ?_
      rintro e w8 ⟨rfl, rfl⟩
      go_wp2_with fail
      refine (left_any _ _ _ _ _ HRD7.out).mono ?_
      rintro e w8 ⟨rfl, rfl⟩
      go_wp2_with fail
      refine (known_any _).mono ?_
      rintro e w8 ⟨rfl, hb8⟩
      have HB8 := Lib.hid (HB7.out.trans (hb8.mono HZ7.out))
      clear hb8
      go_wp2_with fail
      go_ret
      exact ⟨rfl, HB8.out⟩
end Go.Proofs.Ytdggemdgndiafaa.wireNumbers
