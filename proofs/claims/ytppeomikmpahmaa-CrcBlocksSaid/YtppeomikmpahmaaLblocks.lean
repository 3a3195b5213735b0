/- CrcBlocks: a block's sum, at once or as its parts, is the rule's; and it holds that sum alone. -/
import Derived.Test.YtppeomikmpahmaaCknown
import Derived.Test.YtppeomikmpahmaaCflow
import Derived.Deep.DeepCutAuto
namespace Go.Proofs.Ytppeomikmpahmaa.crcBlocks
open Go.ChangeShapes Go.WideShapes Go.ChangeAt Go.RowKit

theorem parts3 (L : List Nat) (i k : Nat) (h : i ≤ k) : [L.take i, (L.drop i).take (k - i), L.drop k].flatten = L := by
  simp only [List.flatten_cons, List.flatten_nil, List.append_nil]
  rw [← List.append_assoc]
  have e : L.take i ++ (L.drop i).take (k - i) = L.take k := by
    rw [show k = i + (k - i) by omega, List.take_add]; simp
  rw [e, List.take_append_drop]
theorem parts4 (L : List Nat) (k : Nat) : [[], L.take k, [], L.drop k].flatten = L := by simp

set_option maxRecDepth 100000 in
set_option maxHeartbeats 4000000 in
theorem walk (w : World) (v : Value) (L : List Nat) (hLb : ∀ b ∈ L, b < 256) (hL : Bs w 0 w.heap.size v L) (i : Int) (hi : (Lit.int .i64 i).wf = true) (k : Int) (hk : (Lit.int .i64 k).wf = true) (x : Int) (hx : (Lit.int .u32 x).wf = true) :
    Calls Try.prog 3 #[v, .int .i64 i, .int .i64 k, .int .u32 x] w fun e w' => e = .returned (.bool true) ∧ Below w.heap.size w w' := by
  have HL := Lib.hid hL
  have HB := Lib.hid hLb
  obtain ⟨o, ho, ho2⟩ : ∃ o : Nat, x = (o : Int) ∧ o < 4294967296 := by
    have h2 : 0 ≤ x ∧ x ≤ 4294967295 := by simpa [Lit.wf, IntKind.min, IntKind.max, IntKind.signed, IntKind.bits] using hx
    exact ⟨x.toNat, by omega, by omega⟩
  subst ho
  have hi2 : -9223372036854775808 ≤ i ∧ i ≤ 9223372036854775807 := by simpa [Lit.wf, IntKind.min, IntKind.max, IntKind.signed, IntKind.bits] using hi
  have hk2 : -9223372036854775808 ≤ k ∧ k ≤ 9223372036854775807 := by simpa [Lit.wf, IntKind.min, IntKind.max, IntKind.signed, IntKind.bits] using hk
  obtain ⟨A, c, rfl, x1, x2, x3, x4⟩ := hL
  have hlen : L.length ≤ 9223372036854775807 := by unfold maxLen at x2; omega
  clear x1 x2 x3 x4 hLb hx hi hk
  by_cases hbig : 30000 < L.length
  · have hd : decide ((30000 : Int) < (L.length : Int)) = true := by simp; omega
    have hd2 : decide (30000 < L.length) = true := by simp [hbig]
    have HK := Lib.hid (known_any w)
    clear hbig
    go_enter Try.func3, Try.ntmps3
    go_wp2_with fail
    refine Calls.mono HK.out ?_
    rintro e w1 ⟨rfl, hb1⟩
    go_wp2_with fail
    go_ret
    exact ⟨rfl, hb1⟩
  · have hd : decide ((30000 : Int) < (L.length : Int)) = false := by simp; omega
    have hd2 : decide (30000 < L.length) = false := by simp; omega
    clear hbig
    have HC := Lib.hid (sum_one w _ L _ _ HL.out (Nat.le_refl _) HB.out (crc L) rfl w.heap.size rfl)
    obtain ⟨s, hs⟩ : ∃ s, s = crc L := ⟨_, rfl⟩
    rw [← hs] at HC
    have HS := Lib.hid hs.symm
    have heq : ((s : Int) == (s : Int)) = true := by simp
    have hneq : ((s : Int) != (s : Int)) = false := by simp
    clear hs
    go_enter Try.func3, Try.ntmps3
    go_wp2_with fail
    refine (rsum_any _ _ _ L w HL.out HB.out).mono ?_
    rintro e w0 ⟨rfl, rfl⟩
    rw [HS.out]
    go_wp2_with fail
    refine Calls.mono HC.out ?_
    rintro e w1 ⟨rfl, hb1⟩
    have hz1 := hb1.size
    have HB1 := Lib.hid hb1
    have HC2 := Lib.hid (holds_any _ _ _ L s w1 (HL.out.below hb1 (Nat.le_refl _)) hz1 HB.out)
    rw [HS.out, heq] at HC2
    clear hb1 HC
    go_wp2_with fail
    refine Calls.mono HC2.out ?_
    rintro e w2 ⟨rfl, hb2⟩
    have hz2 := hb2.size
    have HB2 := Lib.hid (HB1.out.trans (hb2.mono hz1))
    have HC3 := Lib.hid (holds_any _ _ _ L o w2 (HL.out.below HB2.out (Nat.le_refl _)) (by omega) HB.out)
    rw [HS.out] at HC3
    obtain ⟨q, hq⟩ : ∃ q, q = ((s : Int) == (o : Int)) := ⟨_, rfl⟩
    have hq2 : ((o : Int) == (s : Int)) = q := by rw [hq, Bool.eq_iff_iff]; simp; omega
    have hq3 : (q != q) = false := by cases q <;> rfl
    rw [← hq] at HC3
    clear hq hb2 HC2
    go_wp2_with fail
    refine Calls.mono HC3.out ?_
    rintro e w3 ⟨rfl, hb3⟩
    have hz3 := hb3.size
    have HB3 := Lib.hid (HB2.out.trans (hb3.mono (by omega)))
    clear hb3 HC3 HB2 HB1
    by_cases hbad : i < 0 ∨ k < i ∨ (L.length : Int) < k
    · have HK := Lib.hid (known_any w3)
      rcases hbad with h | h | h
      · have hd3 : decide (i < 0) = true := by simp [h]
        clear h
        go_wp2_with fail
        refine Calls.mono HK.out ?_
        rintro e w4 ⟨rfl, hb4⟩
        go_wp2_with fail
        go_ret
        exact ⟨rfl, HB3.out.trans (hb4.mono (by omega))⟩
      · by_cases h0 : i < 0
        · have hd3 : decide (i < 0) = true := by simp [h0]
          clear h h0
          go_wp2_with fail
          refine Calls.mono HK.out ?_
          rintro e w4 ⟨rfl, hb4⟩
          go_wp2_with fail
          go_ret
          exact ⟨rfl, HB3.out.trans (hb4.mono (by omega))⟩
        · have hd3 : decide (i < 0) = false := by simp; omega
          have hd4 : decide (k < i) = true := by simp [h]
          clear h h0
          go_wp2_with fail
          refine Calls.mono HK.out ?_
          rintro e w4 ⟨rfl, hb4⟩
          go_wp2_with fail
          go_ret
          exact ⟨rfl, HB3.out.trans (hb4.mono (by omega))⟩
      · by_cases h0 : i < 0
        · have hd3 : decide (i < 0) = true := by simp [h0]
          clear h h0
          go_wp2_with fail
          refine Calls.mono HK.out ?_
          rintro e w4 ⟨rfl, hb4⟩
          go_wp2_with fail
          go_ret
          exact ⟨rfl, HB3.out.trans (hb4.mono (by omega))⟩
        · have hd3 : decide (i < 0) = false := by simp; omega
          by_cases h1 : k < i
          · have hd4 : decide (k < i) = true := by simp [h1]
            clear h h0 h1
            go_wp2_with fail
            refine Calls.mono HK.out ?_
            rintro e w4 ⟨rfl, hb4⟩
            go_wp2_with fail
            go_ret
            exact ⟨rfl, HB3.out.trans (hb4.mono (by omega))⟩
          · have hd4 : decide (k < i) = false := by simp; omega
            have hd5 : decide ((L.length : Int) < k) = true := by simp [h]
            clear h h0 h1
            go_wp2_with fail
            refine Calls.mono HK.out ?_
            rintro e w4 ⟨rfl, hb4⟩
            go_wp2_with fail
            go_ret
            exact ⟨rfl, HB3.out.trans (hb4.mono (by omega))⟩
    · obtain ⟨i', rfl⟩ : ∃ i' : Nat, i = (i' : Int) := ⟨i.toNat, by omega⟩
      obtain ⟨k', rfl⟩ : ∃ k' : Nat, k = (k' : Int) := ⟨k.toNat, by omega⟩
      have g1 : i' ≤ k' := by omega
      have g2 : k' ≤ L.length := by omega
      have hd3 : decide ((i' : Int) < 0) = false := by simp
      have hd4 : decide ((k' : Int) < (i' : Int)) = false := by simp; omega
      have hd4' : decide (k' < i') = false := by simp; omega
      have hd5 : decide ((L.length : Int) < (k' : Int)) = false := by simp; omega
      have hd5' : decide (L.length < k') = false := by simp; omega
      obtain ⟨l0, l1, l2⟩ := HL.out.len
      obtain ⟨A2, p2, r2, _⟩ := cut_run A L.length c i' k' g1 g2 l1
      obtain ⟨A3, p3, _, r3⟩ := cut_run A L.length c k' L.length g2 (Nat.le_refl _) l1
      have r3' := r3 rfl
      have HP2 := Lib.hid p2
      have HP3 := Lib.hid p3
      have hdr : (L.drop k').take (L.length - k') = L.drop k' := List.take_of_length_le (by simp)
      have HDR := Lib.hid hdr
      have HLW : Hid (∀ u, Ext w3.drew u → Bs u 0 w.heap.size (.slice A L.length c) L) := fun u hu => HL.out.below (HB3.out.trans (((Ext.drew w3).trans hu).mono (by omega))) (Nat.le_refl _)
      have HLE : Hid (∀ u, Ext w3.drew u → w.heap.size ≤ u.heap.size) := fun u hu => by have := hu.size; simp at this; omega
      have HE3 : Hid (crc [L.take i', (L.drop i').take (k' - i'), L.drop k'].flatten = s) := by rw [parts3 L i' k' g1]; exact HS.out
      have HE4 : Hid (crc [[], L.take k', [], L.drop k'].flatten = s) := by rw [parts4]; exact HS.out
      have HTB : Hid (∀ n m, ∀ x ∈ (L.drop n).take m, x < 256) := fun n m x hx => HB.out x (List.mem_of_mem_drop (List.mem_of_mem_take hx))
      have gi : (i' : Int) ≤ (c : Int) := by omega
      have gk : (k' : Int) ≤ (c : Int) := by omega
      have gik : (i' : Int) ≤ (k' : Int) := by omega
      have gkl : (k' : Int) ≤ (L.length : Int) := by omega
      clear hbad r3 p2 p3 hdr hi2 hk2 l0 l1 l2
      go_upto_region 8 with (fail)
      refine flow (by kernel_rfl) [Is (.slice A L.length c), Is (.int .i64 (i' : Int)), Is (.slice A i' c), Is (.slice A L.length c), Is (.int .i64 (i' : Int)), Is (.int .i64 (k' : Int)), Is (.slice A2 (k' - i') (c - i')), Is (.slice A L.length c), Is (.int .i64 (k' : Int)), Is (.slice A3 (L.length - k') (c - k')), Rws 3 [L.take i', (L.drop i').take (k' - i'), L.drop k'], Is (.int .u32 (s : Int)), Is (.int .u32 (s : Int)), Is (.bool true), Is (.bool true), Is (.slice A L.length c), Is (.int .i64 (k' : Int)), Is (.slice A k' c), Is (.slice A L.length c), Is (.int .i64 (k' : Int)), Is (.slice A3 (L.length - k') (c - k')), Rws 4 [[], L.take k', [], L.drop k'], Is (.int .u32 (s : Int)), Is (.int .u32 (s : Int)), Is (.bool true), Is (.bool true), Is (.bool true), Is (.bool true), Is (.bool true), Is (.bool true)] (by kernel_rfl) (by kernel_rfl) ?mono (fun f => ?obl) ?fin
      case mono =>
        simp only [List.forall_mem_cons, List.not_mem_nil, false_imp_iff, implies_true, and_true]
        exact ⟨.is _, .is _, .is _, .is _, .is _, .is _, .is _, .is _, .is _, .is _, .rws _ _, .is _, .is _, .is _, .is _, .is _, .is _, .is _, .is _, .is _, .is _, .rws _ _, .is _, .is _, .is _, .is _, .is _, .is _, .is _, .is _⟩
      case fin =>
        intro g u hu hg
        simp only [puts, Act.put, List.setIfInBounds_toArray, List.set_cons_zero, List.set_cons_succ]
        have h29 : g 29 = .bool true := hg 29 (by decide)
        rw [h29]
        go_wp2_with fail
        go_ret
        exact ⟨rfl, HB3.out.trans (((Ext.drew w3).trans hu).mono (by omega))⟩
      case obl =>
        refine ⟨fun u hu hd => ?_, ?_⟩
        · try simp only [Act.put, List.setIfInBounds_toArray, List.set_cons_zero, List.set_cons_succ]
          go_simp
          exact ⟨Ext.refl _, rfl⟩
        refine ⟨fun u hu hd => ?_, ?_⟩
        · simp only [Act.put, List.setIfInBounds_toArray, List.set_cons_zero, List.set_cons_succ]
          go_simp
          exact ⟨Ext.refl _, rfl⟩
        refine ⟨fun u hu hd => ?_, ?_⟩
        · simp only [Act.put, List.setIfInBounds_toArray, List.set_cons_zero, List.set_cons_succ]
          have e0 : f 0 = (.slice A L.length c) := hd 0 (by kernel_rfl)
          have e1 : f 1 = (.int .i64 (i' : Int)) := hd 1 (by kernel_rfl)
          go_simp
          exact ⟨Ext.refl _, rfl⟩
        refine ⟨fun u hu hd => ?_, ?_⟩
        · simp only [Act.put, List.setIfInBounds_toArray, List.set_cons_zero, List.set_cons_succ]
          go_simp
          exact ⟨Ext.refl _, rfl⟩
        refine ⟨fun u hu hd => ?_, ?_⟩
        · simp only [Act.put, List.setIfInBounds_toArray, List.set_cons_zero, List.set_cons_succ]
          go_simp
          exact ⟨Ext.refl _, rfl⟩
        refine ⟨fun u hu hd => ?_, ?_⟩
        · simp only [Act.put, List.setIfInBounds_toArray, List.set_cons_zero, List.set_cons_succ]
          go_simp
          exact ⟨Ext.refl _, rfl⟩
        refine ⟨fun u hu hd => ?_, ?_⟩
        · simp only [Act.put, List.setIfInBounds_toArray, List.set_cons_zero, List.set_cons_succ]
          have e3 : f 3 = (.slice A L.length c) := hd 3 (by kernel_rfl)
          have e4 : f 4 = (.int .i64 (i' : Int)) := hd 4 (by kernel_rfl)
          have e5 : f 5 = (.int .i64 (k' : Int)) := hd 5 (by kernel_rfl)
          go_simp
          exact ⟨Ext.refl _, rfl⟩
        refine ⟨fun u hu hd => ?_, ?_⟩
        · simp only [Act.put, List.setIfInBounds_toArray, List.set_cons_zero, List.set_cons_succ]
          go_simp
          exact ⟨Ext.refl _, rfl⟩
        refine ⟨fun u hu hd => ?_, ?_⟩
        · simp only [Act.put, List.setIfInBounds_toArray, List.set_cons_zero, List.set_cons_succ]
          go_simp
          exact ⟨Ext.refl _, rfl⟩
        refine ⟨fun u hu hd => ?_, ?_⟩
        · simp only [Act.put, List.setIfInBounds_toArray, List.set_cons_zero, List.set_cons_succ]
          have e7 : f 7 = (.slice A L.length c) := hd 7 (by kernel_rfl)
          have e8 : f 8 = (.int .i64 (k' : Int)) := hd 8 (by kernel_rfl)
          go_simp
          exact ⟨Ext.refl _, rfl⟩
        refine ⟨fun u hu hd => ?_, ?_⟩
        · simp only [Act.put, List.setIfInBounds_toArray, List.set_cons_zero, List.set_cons_succ]
          have e2 : f 2 = (.slice A i' c) := hd 2 (by kernel_rfl)
          have e6 : f 6 = (.slice A2 (k' - i') (c - i')) := hd 6 (by kernel_rfl)
          have e9 : f 9 = (.slice A3 (L.length - k') (c - k')) := hd 9 (by kernel_rfl)
          have hx0 := Lib.hid (show Bs u 0 w.heap.size (.slice A i' c) (L.take i') ∧ w.heap.size ≤ u.heap.size from ⟨(HLW.out u hu).head (by omega), HLE.out u hu⟩)
          have hx1 := Lib.hid (show Bs u 0 w.heap.size (.slice A2 (k' - i') (c - i')) ((L.drop i').take (k' - i')) ∧ w.heap.size ≤ u.heap.size from ⟨HP2.out _ _ _ _ (HLW.out u hu), HLE.out u hu⟩)
          have hx2 := Lib.hid (show Bs u 0 w.heap.size (.slice A3 (L.length - k') (c - k')) (L.drop k') ∧ w.heap.size ≤ u.heap.size from ⟨by have := HP3.out _ _ _ _ (HLW.out u hu); rw [HDR.out] at this; exact this, HLE.out u hu⟩)
          have hr := Lib.hid (rws_lit u [.slice A i' c, .slice A2 (k' - i') (c - i'), .slice A3 (L.length - k') (c - k')] [L.take i', (L.drop i').take (k' - i'), L.drop k'] 3 rfl rfl (fun i v l hv hl => by
            match i with
            | 0 => simp at hv hl; subst hv hl; exact ⟨_, _, hx0.out⟩
            | 1 => simp at hv hl; subst hv hl; exact ⟨_, _, hx1.out⟩
            | 2 => simp at hv hl; subst hv hl; exact ⟨_, _, hx2.out⟩
            | i + 3 => simp at hv))
          go_simp
          exact ⟨below_new _ _, hr.out⟩
        refine ⟨fun u hu hd => ?_, ?_⟩
        · simp only [Act.put, List.setIfInBounds_toArray, List.set_cons_zero, List.set_cons_succ]
          obtain ⟨hn, g, h, e10, hh, x, hr⟩ := (show Rws 3 [L.take i', (L.drop i').take (k' - i'), L.drop k'] (f 10) u from hd 10 (by kernel_rfl))
          have HR := Lib.hid hr
          clear hr hn
          go_simp
          refine (sum_any _ 3 _ _ _ [L.take i', (L.drop i').take (k' - i'), L.drop k'] _ HR.out hh (by simp [maxLen]) (by simp) (by intro l hl y hy; simp only [List.mem_cons, List.not_mem_nil, or_false] at hl; rcases hl with rfl | rfl | rfl <;> first | cases hy | exact HB.out y (List.mem_of_mem_take hy) | exact HB.out y (List.mem_of_mem_drop hy) | exact HTB.out _ _ y hy)).mono ?_
          rintro e w9 ⟨rfl, hb9⟩
          exact ⟨_, rfl, hb9, by show Value.int .u32 _ = _; rw [HE3.out]⟩
        refine ⟨fun u hu hd => ?_, ?_⟩
        · simp only [Act.put, List.setIfInBounds_toArray, List.set_cons_zero, List.set_cons_succ]
          go_simp
          exact ⟨Ext.refl _, rfl⟩
        refine ⟨fun u hu hd => ?_, ?_⟩
        · simp only [Act.put, List.setIfInBounds_toArray, List.set_cons_zero, List.set_cons_succ]
          have e11 : f 11 = (.int .u32 (s : Int)) := hd 11 (by kernel_rfl)
          have e12 : f 12 = (.int .u32 (s : Int)) := hd 12 (by kernel_rfl)
          go_simp
          exact ⟨Ext.refl _, rfl⟩
        refine ⟨fun u hu hd => ?_, ?_⟩
        · simp only [Act.put, List.setIfInBounds_toArray, List.set_cons_zero, List.set_cons_succ]
          have e13 : f 13 = (.bool true) := hd 13 (by kernel_rfl)
          go_simp
          exact ⟨Ext.refl _, rfl⟩
        refine ⟨fun u hu hd => ?_, ?_⟩
        · simp only [Act.put, List.setIfInBounds_toArray, List.set_cons_zero, List.set_cons_succ]
          have e14 : f 14 = (.bool true) := hd 14 (by kernel_rfl)
          go_simp
          exact ⟨Ext.refl _, rfl⟩
        refine ⟨fun u hu hd => ?_, ?_⟩
        · simp only [Act.put, List.setIfInBounds_toArray, List.set_cons_zero, List.set_cons_succ]
          have e14 : f 14 = (.bool true) := hd 14 (by kernel_rfl)
          go_simp
          exact ⟨Ext.refl _, rfl⟩
        refine ⟨fun u hu hd => ?_, ?_⟩
        · simp only [Act.put, List.setIfInBounds_toArray, List.set_cons_zero, List.set_cons_succ]
          have e14 : f 14 = (.bool true) := hd 14 (by kernel_rfl)
          have e15 : f 15 = (.slice A L.length c) := hd 15 (by kernel_rfl)
          have e16 : f 16 = (.int .i64 (k' : Int)) := hd 16 (by kernel_rfl)
          go_simp
          exact ⟨Ext.refl _, rfl⟩
        refine ⟨fun u hu hd => ?_, ?_⟩
        · simp only [Act.put, List.setIfInBounds_toArray, List.set_cons_zero, List.set_cons_succ]
          have e14 : f 14 = (.bool true) := hd 14 (by kernel_rfl)
          go_simp
          exact ⟨Ext.refl _, rfl⟩
        refine ⟨fun u hu hd => ?_, ?_⟩
        · simp only [Act.put, List.setIfInBounds_toArray, List.set_cons_zero, List.set_cons_succ]
          have e14 : f 14 = (.bool true) := hd 14 (by kernel_rfl)
          go_simp
          exact ⟨Ext.refl _, rfl⟩
        refine ⟨fun u hu hd => ?_, ?_⟩
        · simp only [Act.put, List.setIfInBounds_toArray, List.set_cons_zero, List.set_cons_succ]
          have e14 : f 14 = (.bool true) := hd 14 (by kernel_rfl)
          have e18 : f 18 = (.slice A L.length c) := hd 18 (by kernel_rfl)
          have e19 : f 19 = (.int .i64 (k' : Int)) := hd 19 (by kernel_rfl)
          go_simp
          exact ⟨Ext.refl _, rfl⟩
        refine ⟨fun u hu hd => ?_, ?_⟩
        · simp only [Act.put, List.setIfInBounds_toArray, List.set_cons_zero, List.set_cons_succ]
          have e14 : f 14 = (.bool true) := hd 14 (by kernel_rfl)
          have e17 : f 17 = (.slice A k' c) := hd 17 (by kernel_rfl)
          have e20 : f 20 = (.slice A3 (L.length - k') (c - k')) := hd 20 (by kernel_rfl)
          have hx0 := Lib.hid (show Bs u 0 0 (.slice none 0 0) [] ∧ 0 ≤ u.heap.size from ⟨Bs.nil _ _ _, Nat.zero_le _⟩)
          have hx1 := Lib.hid (show Bs u 0 w.heap.size (.slice A k' c) (L.take k') ∧ w.heap.size ≤ u.heap.size from ⟨(HLW.out u hu).head (by omega), HLE.out u hu⟩)
          have hx2 := Lib.hid (show Bs u 0 0 (.slice none 0 0) [] ∧ 0 ≤ u.heap.size from ⟨Bs.nil _ _ _, Nat.zero_le _⟩)
          have hx3 := Lib.hid (show Bs u 0 w.heap.size (.slice A3 (L.length - k') (c - k')) (L.drop k') ∧ w.heap.size ≤ u.heap.size from ⟨by have := HP3.out _ _ _ _ (HLW.out u hu); rw [HDR.out] at this; exact this, HLE.out u hu⟩)
          have hr := Lib.hid (rws_lit u [.slice none 0 0, .slice A k' c, .slice none 0 0, .slice A3 (L.length - k') (c - k')] [[], L.take k', [], L.drop k'] 4 rfl rfl (fun i v l hv hl => by
            match i with
            | 0 => simp at hv hl; subst hv hl; exact ⟨_, _, hx0.out⟩
            | 1 => simp at hv hl; subst hv hl; exact ⟨_, _, hx1.out⟩
            | 2 => simp at hv hl; subst hv hl; exact ⟨_, _, hx2.out⟩
            | 3 => simp at hv hl; subst hv hl; exact ⟨_, _, hx3.out⟩
            | i + 4 => simp at hv))
          go_simp
          exact ⟨below_new _ _, hr.out⟩
        refine ⟨fun u hu hd => ?_, ?_⟩
        · simp only [Act.put, List.setIfInBounds_toArray, List.set_cons_zero, List.set_cons_succ]
          have e14 : f 14 = (.bool true) := hd 14 (by kernel_rfl)
          obtain ⟨hn, g, h, e21, hh, x, hr⟩ := (show Rws 4 [[], L.take k', [], L.drop k'] (f 21) u from hd 21 (by kernel_rfl))
          have HR := Lib.hid hr
          clear hr hn
          go_simp
          refine (sum_any _ 4 _ _ _ [[], L.take k', [], L.drop k'] _ HR.out hh (by simp [maxLen]) (by simp) (by intro l hl y hy; simp only [List.mem_cons, List.not_mem_nil, or_false] at hl; rcases hl with rfl | rfl | rfl | rfl <;> first | cases hy | exact HB.out y (List.mem_of_mem_take hy) | exact HB.out y (List.mem_of_mem_drop hy) | exact HTB.out _ _ y hy)).mono ?_
          rintro e w9 ⟨rfl, hb9⟩
          exact ⟨_, rfl, hb9, by show Value.int .u32 _ = _; rw [HE4.out]⟩
        refine ⟨fun u hu hd => ?_, ?_⟩
        · simp only [Act.put, List.setIfInBounds_toArray, List.set_cons_zero, List.set_cons_succ]
          have e14 : f 14 = (.bool true) := hd 14 (by kernel_rfl)
          go_simp
          exact ⟨Ext.refl _, rfl⟩
        refine ⟨fun u hu hd => ?_, ?_⟩
        · simp only [Act.put, List.setIfInBounds_toArray, List.set_cons_zero, List.set_cons_succ]
          have e14 : f 14 = (.bool true) := hd 14 (by kernel_rfl)
          have e22 : f 22 = (.int .u32 (s : Int)) := hd 22 (by kernel_rfl)
          have e23 : f 23 = (.int .u32 (s : Int)) := hd 23 (by kernel_rfl)
          go_simp
          exact ⟨Ext.refl _, rfl⟩
        refine ⟨fun u hu hd => ?_, ?_⟩
        · simp only [Act.put, List.setIfInBounds_toArray, List.set_cons_zero, List.set_cons_succ]
          have e14 : f 14 = (.bool true) := hd 14 (by kernel_rfl)
          have e24 : f 24 = (.bool true) := hd 24 (by kernel_rfl)
          go_simp
          exact ⟨Ext.refl _, rfl⟩
        refine ⟨fun u hu hd => ?_, ?_⟩
        · simp only [Act.put, List.setIfInBounds_toArray, List.set_cons_zero, List.set_cons_succ]
          have e25 : f 25 = (.bool true) := hd 25 (by kernel_rfl)
          go_simp
          exact ⟨Ext.refl _, rfl⟩
        refine ⟨fun u hu hd => ?_, ?_⟩
        · simp only [Act.put, List.setIfInBounds_toArray, List.set_cons_zero, List.set_cons_succ]
          have e26 : f 26 = (.bool true) := hd 26 (by kernel_rfl)
          go_simp
          refine (known_any u).mono ?_
          rintro e w9 ⟨rfl, hb9⟩
          exact ⟨_, rfl, hb9, rfl⟩
        refine ⟨fun u hu hd => ?_, ?_⟩
        · simp only [Act.put, List.setIfInBounds_toArray, List.set_cons_zero, List.set_cons_succ]
          have e26 : f 26 = (.bool true) := hd 26 (by kernel_rfl)
          have e27 : f 27 = (.bool true) := hd 27 (by kernel_rfl)
          go_simp
          exact ⟨Ext.refl _, rfl⟩
        refine ⟨fun u hu hd => ?_, ?_⟩
        · simp only [Act.put, List.setIfInBounds_toArray, List.set_cons_zero, List.set_cons_succ]
          have e28 : f 28 = (.bool true) := hd 28 (by kernel_rfl)
          go_simp
          exact ⟨Ext.refl _, rfl⟩
        trivial
end Go.Proofs.Ytppeomikmpahmaa.crcBlocks
