/- CrcPads: padding of noughts counts as if it were written. -/
import Derived.Test.YtppeomikmpahmaaCknown
import Derived.Test.YtppeomikmpahmaaCfar
import Derived.Test.YtppeomikmpahmaaLmerges
namespace Go.Proofs.Ytppeomikmpahmaa.crcPads
open Go.ChangeShapes Go.WideShapes Go.ChangeAt Go.RowKit Go.Proofs.Ytppeomikmpahmaa.crcMerges

/-- Zeros, where the sum behind it is known. -/
theorem zeros_to (s n r : Nat) (hs : s < 4294967296) (hn : n ≤ 9223372036854775807) (hr : shn (8 * n) (s ^^^ ones) ^^^ ones = r) (w : World) : Calls Try.prog 16 #[.int .u32 (s : Int), .int .i64 (n : Int)] w fun e w' => e = .returned (.int .u32 (r : Int)) ∧ Below w.heap.size w w' := by
  have h := zeros_any s (n : Int) hs (by omega) w
  rw [Int.toNat_natCast, hr] at h
  exact h
theorem zeros_none (s : Nat) (n : Int) (hs : s < 4294967296) (hn : n ≤ 0) (w : World) : Calls Try.prog 16 #[.int .u32 (s : Int), .int .i64 n] w fun e w' => e = .returned (.int .u32 (s : Int)) ∧ Below w.heap.size w w' := by
  have h := zeros_any s n hs (by omega) w
  have e : n.toNat = 0 := by omega
  rw [e] at h
  have e2 : shn (8 * 0) (s ^^^ ones) ^^^ ones = s := by show s ^^^ ones ^^^ ones = s; rw [Nat.xor_assoc, Nat.xor_self, Nat.xor_zero]
  rw [e2] at h
  exact h
theorem zero_row (n : Nat) : (madeCells #[Value.int .u8 0] n).toList = bv (List.replicate n 0) := by
  apply List.ext_getElem
  · simp [size_madeCells, bv]
  · intro i h1 h2
    simp [madeCells, bv, Nat.mod_one]

set_option maxRecDepth 100000 in
set_option maxHeartbeats 4000000 in
theorem walk (w : World) (x : Int) (hx : (Lit.int .u32 x).wf = true) (n : Int) (hn : (Lit.int .i64 n).wf = true) (m : Int) (hm : (Lit.int .i64 m).wf = true) :
    Calls Try.prog 6 #[.int .u32 x, .int .i64 n, .int .i64 m] w fun e w' => e = .returned (.bool true) ∧ Below w.heap.size w w' := by
  obtain ⟨i0, hi0, ix0, ix1, ix2⟩ := info_parts t5info
  have HI := Lib.hid hi0
  obtain ⟨s, rfl, hs⟩ := int_u32 hx
  have hn2 : -9223372036854775808 ≤ n ∧ n ≤ 9223372036854775807 := by simpa [Lit.wf, IntKind.min, IntKind.max, IntKind.signed, IntKind.bits] using hn
  have hm2 : -9223372036854775808 ≤ m ∧ m ≤ 9223372036854775807 := by simpa [Lit.wf, IntKind.min, IntKind.max, IntKind.signed, IntKind.bits] using hm
  have HS := Lib.hid hs
  clear hx hn hm hs hi0
  by_cases h0 : n < 0
  · have hd : decide (n < 0) = true := by simp [h0]
    have heq : ((s : Int) == (s : Int)) = true := by simp
    have HZ := Lib.hid (zeros_none s n HS.out (by omega) w)
    clear h0
    go_enter Try.func6, Try.ntmps6
    go_wp2_with fail
    refine Calls.mono HZ.out ?_
    rintro e w1 ⟨rfl, hb1⟩
    have hz1 := hb1.size
    have HB1 := Lib.hid hb1
    clear hb1
    go_wp2_with fail
    refine (known_any w1).mono ?_
    rintro e w2 ⟨rfl, hb2⟩
    have HB2 := Lib.hid (HB1.out.trans (hb2.mono hz1))
    clear hb2
    go_wp2_with fail
    go_ret
    exact ⟨rfl, HB2.out⟩
  · obtain ⟨n', rfl⟩ : ∃ n' : Nat, n = (n' : Int) := ⟨n.toNat, by omega⟩
    have hd : decide ((n' : Int) < 0) = false := by simp
    by_cases hbad : m < 0 ∨ (1125899906842624 : Int) < (n' : Int) ∨ (1125899906842624 : Int) < m
    · have HK := Lib.hid (known_any w)
      clear h0
      by_cases g0 : m < 0
      · have hd1 : decide (m < 0) = true := by simp [g0]
        clear g0 hbad
        go_enter Try.func6, Try.ntmps6
        go_wp2_with fail
        refine Calls.mono HK.out ?_
        rintro e w1 ⟨rfl, hb1⟩
        go_wp2_with fail
        go_ret
        exact ⟨rfl, hb1⟩
      · have hd1 : decide (m < 0) = false := by simp; omega
        by_cases g1 : (1125899906842624 : Int) < (n' : Int)
        · have hd2 : decide ((1125899906842624 : Int) < (n' : Int)) = true := by simp; omega
          have hd3 : decide (1125899906842624 < n') = true := by simp; omega
          clear g0 g1 hbad
          go_enter Try.func6, Try.ntmps6
          go_wp2_with fail
          refine Calls.mono HK.out ?_
          rintro e w1 ⟨rfl, hb1⟩
          go_wp2_with fail
          go_ret
          exact ⟨rfl, hb1⟩
        · have hd2 : decide ((1125899906842624 : Int) < (n' : Int)) = false := by simp; omega
          have hd3 : decide (1125899906842624 < n') = false := by simp; omega
          have hd4 : decide ((1125899906842624 : Int) < m) = true := by simp; omega
          clear g0 g1 hbad
          go_enter Try.func6, Try.ntmps6
          go_wp2_with fail
          refine Calls.mono HK.out ?_
          rintro e w1 ⟨rfl, hb1⟩
          go_wp2_with fail
          go_ret
          exact ⟨rfl, hb1⟩
    · obtain ⟨m', rfl⟩ : ∃ m' : Nat, m = (m' : Int) := ⟨m.toNat, by omega⟩
      have G := Lib.hid (show n' ≤ 1125899906842624 ∧ m' ≤ 1125899906842624 by omega)
      have hd1 : decide ((m' : Int) < 0) = false := by simp
      have hd2 : decide ((1125899906842624 : Int) < (n' : Int)) = false := by simp; omega
      have hd3 : decide (1125899906842624 < n') = false := by simp; omega
      have hd4 : decide ((1125899906842624 : Int) < (m' : Int)) = false := by simp; omega
      have hd5 : decide (1125899906842624 < m') = false := by simp; omega
      have hnm : (n' : Int) + (m' : Int) ≤ 2251799813685248 := by omega
      obtain ⟨q, hq⟩ : ∃ q, q = shn (8 * n') (s ^^^ ones) := ⟨_, rfl⟩
      obtain ⟨r, hr⟩ : ∃ r, r = q ^^^ ones := ⟨_, rfl⟩
      obtain ⟨z, hz⟩ : ∃ z, z = shn (8 * m') q ^^^ ones := ⟨_, rfl⟩
      have HQ : Hid (q < 4294967296) := by rw [hq]; exact shn_lt (xor_lt HS.out ones_lt)
      have HR : Hid (r < 4294967296) := by rw [hr]; exact xor_lt HQ.out ones_lt
      have E1 : Hid (shn (8 * n') (s ^^^ ones) ^^^ ones = r) := by rw [hr, hq]; rfl
      have E2 : Hid (shn (8 * m') (r ^^^ ones) ^^^ ones = z) := by rw [hr, hz, Nat.xor_assoc, Nat.xor_self, Nat.xor_zero]; rfl
      have E3 : Hid (shn (8 * (n' + m')) (s ^^^ ones) ^^^ ones = z) := by rw [hz, hq, Nat.mul_add, shn_add]; rfl
      have E4 : Hid (more s (List.replicate n' 0) = r) := by rw [more_zeros]; exact E1.out
      have X1 := Lib.hid (xor_top HS.out)
      have X2 : Hid (bits BinOp.xor IntKind.u32 (q : Int) 4294967295 = (r : Int)) := by rw [xor_top HQ.out, ← hr]; rfl
      have HQE := Lib.hid hq.symm
      have hadd : (n' : Int) + (m' : Int) = ((n' + m' : Nat) : Int) := by omega
      have HADD := Lib.hid hadd
      have heq : ((r : Int) == (r : Int)) = true := by simp
      have hneq : ((r : Int) != (r : Int)) = false := by simp
      have hneq2 : ((z : Int) != (z : Int)) = false := by simp
      have hneq3 : ((s : Int) != (s : Int)) = false := by simp
      clear h0 hbad hq hr hz hadd
      go_enter Try.func6, Try.ntmps6
      go_wp2_with fail
      rw [X1.out]
      refine (far_any (s ^^^ ones) n' (xor_lt HS.out ones_lt) (by have := G.out; omega) w).mono ?_
      rw [HQE.out]
      rintro e w1 ⟨rfl, hb1⟩
      have hz1 : w.heap.size ≤ w1.heap.size := by have := hb1.size; omega
      have HB1 := Lib.hid hb1
      clear hb1
      go_wp2_with fail
      rw [X2.out]
      refine (zeros_to s n' r HS.out (by have := G.out; omega) E1.out w1).mono ?_
      rintro e w2 ⟨rfl, hb⟩
      have hz2 : w.heap.size ≤ w2.heap.size := by have := hb.size; omega
      have HB2 := Lib.hid (HB1.out.trans (hb.mono hz1))
      clear hb
      go_wp2_with fail
      refine (zeros_to s n' r HS.out (by have := G.out; omega) E1.out w2).mono ?_
      rintro e w3 ⟨rfl, hb⟩
      have hz3 : w.heap.size ≤ w3.heap.size := by have := hb.size; omega
      have HB3 := Lib.hid (HB2.out.trans (hb.mono hz2))
      clear hb
      go_wp2_with fail
      refine (zeros_to r m' z HR.out (by have := G.out; omega) E2.out w3).mono ?_
      rintro e w4 ⟨rfl, hb⟩
      have hz4 : w.heap.size ≤ w4.heap.size := by have := hb.size; omega
      have HB4 := Lib.hid (HB3.out.trans (hb.mono hz3))
      clear hb
      go_wp2_with fail
      rw [HADD.out]
      refine (zeros_to s (n' + m') z HS.out (by have := G.out; omega) E3.out w4).mono ?_
      rintro e w5 ⟨rfl, hb⟩
      have hz5 : w.heap.size ≤ w5.heap.size := by have := hb.size; omega
      have HB5 := Lib.hid (HB4.out.trans (hb.mono hz4))
      clear hb
      go_wp2_with fail
      refine (zeros_none s 0 HS.out (by omega) w5).mono ?_
      rintro e w6 ⟨rfl, hb⟩
      have hz6 : w.heap.size ≤ w6.heap.size := by have := hb.size; omega
      have HB6 := Lib.hid (HB5.out.trans (hb.mono hz5))
      clear hb
      by_cases g9 : 9000 < n'
      · have hd6 : decide ((9000 : Int) < (n' : Int)) = true := by simp; omega
        have hd7 : decide (9000 < n') = true := by simp; omega
        clear g9
        go_wp2_with fail
        refine (known_any w6).mono ?_
        rintro e w7 ⟨rfl, hb⟩
        have HB7 := Lib.hid (HB6.out.trans (hb.mono hz6))
        clear hb
        go_wp2_with fail
        go_ret
        exact ⟨rfl, HB7.out⟩
      · have hd6 : decide ((9000 : Int) < (n' : Int)) = false := by simp; omega
        have hd7 : decide (9000 < n') = false := by simp; omega
        have G9 := Lib.hid (show n' ≤ 9000 by omega)
        clear g9
        obtain ⟨w7, hrun, hown, hgrow⟩ := run_make_full (P := Try.prog) w6 w6.heap.size 22 5 i0 (.int .u8 0) 1 Try.underlying22 HI.out ix0 ix1 .i64 .i64 n' (by have := G9.out; rw [ix2]; omega) (by have := G9.out; unfold maxLen; omega) (Nat.le_refl _)
        have HB7 : Hid (Below w6.heap.size w6 w7) := (Below.refl _ _).grown hgrow (Nat.le_refl _) (fun k hk => by cases hk)
        have HV : Hid (Bs w7 0 w7.heap.size (.slice (some ⟨w6.heap.size, 0, none⟩) n' n') (List.replicate n' 0)) := by
          have h1 : w7.ownsRow w6.heap.size 5 1 (.slice (some ⟨w6.heap.size, 0, none⟩) n' n') (List.replicate n' 0).length (bv (List.replicate n' 0)) := by rw [← zero_row, List.length_replicate]; simpa [Value.cells] using hown
          exact (Bs.of_own h1).wide (Nat.zero_le _) (Nat.le_refl _)
        have HC := Lib.hid (more_any s HS.out _ _ _ _ w7 HV.out (Nat.le_refl _) (by intro c hc; rw [List.mem_replicate] at hc; omega))
        rw [E4.out] at HC
        clear hown hgrow
        go_wp2_with fail
        refine Calls.mono HC.out ?_
        clear hrun
        rintro e w8 ⟨rfl, hb⟩
        have hz8 : w.heap.size ≤ w8.heap.size := by have := hb.size; have := HB7.out.size; omega
        have HB8 := Lib.hid (HB6.out.trans ((HB7.out.trans (hb.mono HB7.out.size)).mono hz6))
        clear hb HC
        go_wp2_with fail
        refine (known_any w8).mono ?_
        rintro e w9 ⟨rfl, hb⟩
        have HB9 := Lib.hid (HB8.out.trans (hb.mono hz8))
        clear hb
        go_wp2_with fail
        go_ret
        exact ⟨rfl, HB9.out⟩
end Go.Proofs.Ytppeomikmpahmaa.crcPads
