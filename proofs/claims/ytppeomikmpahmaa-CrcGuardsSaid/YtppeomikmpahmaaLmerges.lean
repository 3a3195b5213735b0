/- CrcMerges: parts whose sums alone are known have the sum of their row. -/
import Derived.Test.YtppeomikmpahmaaCknown
import Derived.Test.YtppeomikmpahmaaCflow
import Derived.Test.YtppeomikmpahmaaCfar
import Derived.Deep.DeepCutAuto
namespace Go.Proofs.Ytppeomikmpahmaa.crcMerges
open Go.ChangeShapes Go.WideShapes Go.ChangeAt Go.RowKit

theorem int_u32 {x : Int} (hx : (Lit.int .u32 x).wf = true) : ∃ o : Nat, x = (o : Int) ∧ o < 4294967296 := by
  have h2 : 0 ≤ x ∧ x ≤ 4294967295 := by simpa [Lit.wf, IntKind.min, IntKind.max, IntKind.signed, IntKind.bits] using hx
  exact ⟨x.toNat, by omega, by omega⟩
/-- Join, where the sum behind it is known. -/
theorem join_to (s t n r : Nat) (hs : s < 4294967296) (ht : t < 4294967296) (hn : n ≤ 9223372036854775807) (hr : shn (8 * n) s ^^^ t = r) (w : World) : Calls Try.prog 14 #[.int .u32 (s : Int), .int .u32 (t : Int), .int .i64 (n : Int)] w fun e w' => e = .returned (.int .u32 (r : Int)) ∧ Below w.heap.size w w' := by
  have h := join_any s t (n : Int) hs ht (by omega) w
  rw [Int.toNat_natCast, hr] at h
  exact h

set_option maxRecDepth 100000 in
set_option maxHeartbeats 4000000 in
theorem walk (w : World) (v1 : Value) (L1 : List Nat) (hb1 : ∀ b ∈ L1, b < 256) (h1 : Bs w 0 w.heap.size v1 L1) (v2 : Value) (L2 : List Nat) (hb2 : ∀ b ∈ L2, b < 256) (h2 : Bs w 0 w.heap.size v2 L2) (v3 : Value) (L3 : List Nat) (hb3 : ∀ b ∈ L3, b < 256) (h3 : Bs w 0 w.heap.size v3 L3)
    (x : Int) (hx : (Lit.int .u32 x).wf = true) (y : Int) (hy : (Lit.int .u32 y).wf = true) (n : Int) (hn : (Lit.int .i64 n).wf = true) :
    Calls Try.prog 5 #[v1, v2, v3, .int .u32 x, .int .u32 y, .int .i64 n] w fun e w' => e = .returned (.bool true) ∧ Below w.heap.size w w' := by
  have H1 := Lib.hid h1
  have H2 := Lib.hid h2
  have H3 := Lib.hid h3
  have B1 := Lib.hid hb1
  have B2 := Lib.hid hb2
  have B3 := Lib.hid hb3
  obtain ⟨s, rfl, hs⟩ := int_u32 hx
  obtain ⟨t, rfl, ht⟩ := int_u32 hy
  have hn2 : -9223372036854775808 ≤ n ∧ n ≤ 9223372036854775807 := by simpa [Lit.wf, IntKind.min, IntKind.max, IntKind.signed, IntKind.bits] using hn
  obtain ⟨m, hm⟩ : ∃ m, m = n.toNat := ⟨_, rfl⟩
  have hmx : (if (0 : Int) < n then n else 0) = (m : Int) := by split <;> omega
  have HJ : Hid (∀ w, Calls Try.prog 14 #[.int .u32 (s : Int), .int .u32 (t : Int), .int .i64 n] w fun e w' => e = .returned (.int .u32 (shn (8 * m) s ^^^ t : Nat)) ∧ Below w.heap.size w w') := by
    intro w; have h := join_any s t n hs ht (by omega) w; rw [← hm] at h; exact h
  have HM := Lib.hid (show m ≤ 9223372036854775807 by omega)
  have HS := Lib.hid hs
  have HT := Lib.hid ht
  obtain ⟨j, hj⟩ : ∃ j, j = shn (8 * m) s ^^^ t := ⟨_, rfl⟩
  have HJJ := Lib.hid hj.symm
  rw [← hj] at HJ
  have hneq : ((j : Int) != (j : Int)) = false := by simp
  obtain ⟨A1, c1, rfl, l1, m1, n1, y1⟩ := h1
  obtain ⟨A2, c2, rfl, l2, m2, n2, y2⟩ := h2
  obtain ⟨A3, c3, rfl, l3, m3, n3, y3⟩ := h3
  have HMX := Lib.hid hmx
  clear y1 y2 y3 n1 n2 n3 l1 l2 l3 m1 m2 m3 hx hy hn hm hj hmx hs ht hb1 hb2 hb3
  go_enter Try.func5, Try.ntmps5
  go_upto_region 1 with (fail)
  go_cut [27] (fun v wx => v = .bool false ∧ Hid (Below w.heap.size w wx))
  case first =>
    go_wp2_with fail
    refine (HJ.out _).mono ?_
    rintro e w1 ⟨rfl, hb1⟩
    have hz1 := hb1.size
    have HB1 := Lib.hid hb1
    clear hb1
    have HR := Lib.hid (rjoin_any s t m HS.out HT.out HM.out w1)
    rw [HJJ.out] at HR
    go_wp2_with fail
    case inr =>
      have h0 : m = 0 := by have := HMX.out; split at this <;> omega
      subst h0
      refine Calls.mono HR.out ?_
      rintro e w2 ⟨rfl, hb2⟩
      have HB2 := Lib.hid (HB1.out.trans (hb2.mono hz1))
      clear hb2
      go_wp2_with fail
      go_meet
      case rel => exact ⟨rfl, HB2⟩
    case inl =>
      have h0 : n = (m : Int) := by have := HMX.out; split at this <;> omega
      subst h0
      refine Calls.mono HR.out ?_
      rintro e w2 ⟨rfl, hb2⟩
      have HB2 := Lib.hid (HB1.out.trans (hb2.mono hz1))
      clear hb2
      go_wp2_with fail
      go_meet
      case rel => exact ⟨rfl, HB2⟩
  case rest =>
    obtain ⟨rfl, HB1⟩ := hcut
    by_cases g1 : 9000 < L1.length
    · have d1a : decide ((9000 : Int) < (L1.length : Int)) = true := by simp; omega
      have d1b : decide (9000 < L1.length) = true := by simp; omega
      clear g1
      go_wp2_with fail
      refine (known_any wc).mono ?_
      rintro e w4 ⟨rfl, hb4⟩
      go_wp2_with fail
      go_ret
      exact ⟨rfl, HB1.out.trans (hb4.mono HB1.out.size)⟩
    · have d1a : decide ((9000 : Int) < (L1.length : Int)) = false := by simp; omega
      have d1b : decide (9000 < L1.length) = false := by simp; omega
      by_cases g2 : 9000 < L2.length
      · have d2a : decide ((9000 : Int) < (L2.length : Int)) = true := by simp; omega
        have d2b : decide (9000 < L2.length) = true := by simp; omega
        clear g1 g2
        go_wp2_with fail
        refine (known_any wc).mono ?_
        rintro e w4 ⟨rfl, hb4⟩
        go_wp2_with fail
        go_ret
        exact ⟨rfl, HB1.out.trans (hb4.mono HB1.out.size)⟩
      · have d2a : decide ((9000 : Int) < (L2.length : Int)) = false := by simp; omega
        have d2b : decide (9000 < L2.length) = false := by simp; omega
        by_cases g3 : 9000 < L3.length
        · have d3a : decide ((9000 : Int) < (L3.length : Int)) = true := by simp; omega
          have d3b : decide (9000 < L3.length) = true := by simp; omega
          clear g1 g2 g3
          go_wp2_with fail
          refine (known_any wc).mono ?_
          rintro e w4 ⟨rfl, hb4⟩
          go_wp2_with fail
          go_ret
          exact ⟨rfl, HB1.out.trans (hb4.mono HB1.out.size)⟩
        · have d3a : decide ((9000 : Int) < (L3.length : Int)) = false := by simp; omega
          have d3b : decide (9000 < L3.length) = false := by simp; omega
          have G := Lib.hid (show L1.length ≤ 9000 ∧ L2.length ≤ 9000 ∧ L3.length ≤ 9000 by omega)
          clear g1 g2 g3
          have gs : (L2.length : Int) + (L3.length : Int) = ((L2.length + L3.length : Nat) : Int) := by omega
          have HGS := Lib.hid gs
          obtain ⟨x1, hx1⟩ : ∃ x1, x1 = crc L1 := ⟨_, rfl⟩
          obtain ⟨x2, hx2⟩ : ∃ x2, x2 = crc L2 := ⟨_, rfl⟩
          obtain ⟨x3, hx3⟩ : ∃ x3, x3 = crc L3 := ⟨_, rfl⟩
          obtain ⟨a12, ha12⟩ : ∃ a12, a12 = crc (L1 ++ L2) := ⟨_, rfl⟩
          obtain ⟨a23, ha23⟩ : ∃ a23, a23 = crc (L2 ++ L3) := ⟨_, rfl⟩
          obtain ⟨a, ha⟩ : ∃ a, a = crc (L1 ++ L2 ++ L3) := ⟨_, rfl⟩
          have X1 : Hid (x1 < 4294967296) := by rw [hx1]; exact crc_lt B1.out
          have X2 : Hid (x2 < 4294967296) := by rw [hx2]; exact crc_lt B2.out
          have X3 : Hid (x3 < 4294967296) := by rw [hx3]; exact crc_lt B3.out
          have both : ∀ l r : List Nat, (∀ b ∈ l, b < 256) → (∀ b ∈ r, b < 256) → ∀ b ∈ l ++ r, b < 256 := fun l r hl hr b hb => by
            rcases List.mem_append.1 hb with h | h
            · exact hl b h
            · exact hr b h
          have X12 : Hid (a12 < 4294967296) := by rw [ha12]; exact crc_lt (both _ _ B1.out B2.out)
          have X23 : Hid (a23 < 4294967296) := by rw [ha23]; exact crc_lt (both _ _ B2.out B3.out)
          have J12 : Hid (shn (8 * L2.length) x1 ^^^ x2 = a12) := by rw [hx1, hx2, ha12]; exact join_crc _ _
          have J123 : Hid (shn (8 * L3.length) a12 ^^^ x3 = a) := by rw [ha12, hx3, ha]; exact join_crc _ _
          have J23 : Hid (shn (8 * L3.length) x2 ^^^ x3 = a23) := by rw [hx2, hx3, ha23]; exact join_crc _ _
          have J1 : Hid (shn (8 * (L2.length + L3.length)) x1 ^^^ a23 = a) := by rw [hx1, ha23, ha, ← List.length_append, List.append_assoc]; exact join_crc _ _
          have HFL : Hid (crc [L1, L2, L3].flatten = a) := by rw [ha]; congr 1; simp
          have Hx1 := Lib.hid hx1.symm
          have Hx2 := Lib.hid hx2.symm
          have Hx3 := Lib.hid hx3.symm
          have heq : ((a : Int) == (a : Int)) = true := by simp
          have hz1 := HB1.out.size
          clear hx1 hx2 hx3 ha12 ha23 ha both gs
          have HC := Lib.hid (sum_one wc _ L1 _ _ (H1.out.below HB1.out (Nat.le_refl _)) hz1 B1.out x1 Hx1.out wc.heap.size rfl)
          go_wp2_with fail
          refine Calls.mono HC.out ?_
          rintro e w2 ⟨rfl, hb2⟩
          have hz2 : w.heap.size ≤ w2.heap.size := by have := hb2.size; omega
          have HB2 := Lib.hid (HB1.out.trans (hb2.mono hz1))
          clear hb2 HC
          have HC := Lib.hid (sum_one w2 _ L2 _ _ (H2.out.below HB2.out (Nat.le_refl _)) hz2 B2.out x2 Hx2.out w2.heap.size rfl)
          go_wp2_with fail
          refine Calls.mono HC.out ?_
          rintro e w3 ⟨rfl, hb3⟩
          have hz3 : w.heap.size ≤ w3.heap.size := by have := hb3.size; omega
          have HB3 := Lib.hid (HB2.out.trans (hb3.mono hz2))
          clear hb3 HC
          have HC := Lib.hid (sum_one w3 _ L3 _ _ (H3.out.below HB3.out (Nat.le_refl _)) hz3 B3.out x3 Hx3.out w3.heap.size rfl)
          go_wp2_with fail
          refine Calls.mono HC.out ?_
          rintro e w4 ⟨rfl, hb4⟩
          have hz4 : w.heap.size ≤ w4.heap.size := by have := hb4.size; omega
          have HB4 := Lib.hid (HB3.out.trans (hb4.mono hz3))
          clear hb4 HC
          go_wp2_with fail
          refine (join_to x1 x2 L2.length a12 X1.out X2.out (by have := G.out; omega) J12.out w4).mono ?_
          rintro e w5 ⟨rfl, hb5⟩
          have hz5 : w.heap.size ≤ w5.heap.size := by have := hb5.size; omega
          have HB5 := Lib.hid (HB4.out.trans (hb5.mono hz4))
          clear hb5
          go_wp2_with fail
          refine (join_to a12 x3 L3.length a X12.out X3.out (by have := G.out; omega) J123.out w5).mono ?_
          rintro e w6 ⟨rfl, hb6⟩
          have hz6 : w.heap.size ≤ w6.heap.size := by have := hb6.size; omega
          have HB6 := Lib.hid (HB5.out.trans (hb6.mono hz5))
          clear hb6
          go_wp2_with fail
          refine (join_to x2 x3 L3.length a23 X2.out X3.out (by have := G.out; omega) J23.out w6).mono ?_
          rintro e w7 ⟨rfl, hb7⟩
          have hz7 : w.heap.size ≤ w7.heap.size := by have := hb7.size; omega
          have HB7 := Lib.hid (HB6.out.trans (hb7.mono hz6))
          have hsum1 : (L2.length : Int) + (L3.length : Int) ≤ 18000 := by have := G.out; omega
          clear hb7
          go_wp2_with fail
          rw [HGS.out]
          refine (join_to x1 a23 (L2.length + L3.length) a X1.out X23.out (by have := G.out; omega) J1.out w7).mono ?_
          rintro e w8 ⟨rfl, hb8⟩
          have hz8 : w.heap.size ≤ w8.heap.size := by have := hb8.size; omega
          have HB8 := Lib.hid (HB7.out.trans (hb8.mono hz7))
          clear hb8
          have HR := Lib.hid (rws_lit w8 [.slice A1 L1.length c1, .slice A2 L2.length c2, .slice A3 L3.length c3] [L1, L2, L3] 3 rfl rfl (fun i v l hv hl => by
            match i with
            | 0 => simp at hv hl; subst hv hl; exact ⟨_, _, H1.out.below HB8.out (Nat.le_refl _), hz8⟩
            | 1 => simp at hv hl; subst hv hl; exact ⟨_, _, H2.out.below HB8.out (Nat.le_refl _), hz8⟩
            | 2 => simp at hv hl; subst hv hl; exact ⟨_, _, H3.out.below HB8.out (Nat.le_refl _), hz8⟩
            | i + 3 => simp at hv))
          have HC : Hid (Calls Try.prog 11 #[.slice (some ⟨w8.heap.size, 0, none⟩) 3 3] (w8.alloc (.cells #[.slice A1 L1.length c1, .slice A2 L2.length c2, .slice A3 L3.length c3] 22)) fun e w' => e = .returned (.int .u32 (a : Int)) ∧ Below w8.heap.size w8 w') := by
            obtain ⟨_, g, h, he, hh, x, hr⟩ := HR.out
            injection he with e1 e2 e3
            injection e1 with e1
            injection e1 with e1 _ _
            subst e1
            have := sum_any _ 3 _ _ _ [L1, L2, L3] _ hr hh (by simp [maxLen]) (by simp) (by intro l hl b hb; simp only [List.mem_cons, List.not_mem_nil, or_false] at hl; rcases hl with rfl | rfl | rfl <;> first | exact B1.out b hb | exact B2.out b hb | exact B3.out b hb)
            rw [HFL.out] at this
            exact this.mono fun e w' ⟨x, y⟩ => ⟨x, (below_new _ _).trans (y.mono (by simp))⟩
          go_wp2_with fail
          refine Calls.mono HC.out ?_
          rintro e w9 ⟨rfl, hb9⟩
          have hz9 : w.heap.size ≤ w9.heap.size := by have := hb9.size; omega
          have HB9 := Lib.hid (HB8.out.trans (hb9.mono hz8))
          clear hb9 HC HR
          go_wp2_with fail
          refine (known_any w9).mono ?_
          rintro e w10 ⟨rfl, hb10⟩
          have HB10 := Lib.hid (HB9.out.trans (hb10.mono hz9))
          clear hb10
          go_wp2_with fail
          go_ret
          exact ⟨rfl, HB10.out⟩
end Go.Proofs.Ytppeomikmpahmaa.crcMerges
