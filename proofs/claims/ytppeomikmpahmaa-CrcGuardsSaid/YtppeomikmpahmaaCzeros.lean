/- Zeros and Join answer what the register is behind so many bytes 0. -/
import Derived.Test.YtppeomikmpahmaaCrun
namespace Go.Proofs.Ytppeomikmpahmaa
open Go.ChangeShapes Go.WideShapes Go.ChangeAt Go.RowKit

theorem words_twice (e : Nat) : (wordsOf fun x => shn e (shn e x)) = wordsOf (shn (e + e)) := by
  unfold wordsOf
  apply List.map_congr_left
  intro i _
  exact (shn_add e e _).symm

theorem noughts_none (s : Nat) (n : Int) (hn : n ≤ 0) (w : World) : Calls Try.prog 22 #[.int .u32 (s : Int), .int .i64 n] w fun e w' => e = .returned (.int .u32 (s : Int)) ∧ Below w.heap.size w w' := by
  have hd : decide (0 < n) = false := by simp; omega
  clear hn
  go_enter Try.func22, Try.ntmps22
  go_wp2_with fail
  refine (oneNought_any _).mono ?_
  rintro e w1 ⟨rfl, hb1⟩
  have hz1 := hb1.size
  have HB1 := Lib.hid hb1
  clear hb1
  go_wp2_with (refine wpList_store_row rfl 48 (.tmp 5) (.tmp 6) rfl w1.heap.size (rowv (wordsOf (shn 8))) rfl rfl 48 _ (heap_alloc_new _ _) (by rw [rowv_size, wordsOf_length]; exact info32) (by simp [rowv_size, wordsOf_length]) (rowv_one _) ?_)
  obtain ⟨W, hW⟩ : ∃ W, W = (w1.alloc (Obj.cells #[Value.int IntKind.u32 0, Value.int IntKind.u32 0, Value.int IntKind.u32 0, Value.int IntKind.u32 0, Value.int IntKind.u32 0, Value.int IntKind.u32 0, Value.int IntKind.u32 0, Value.int IntKind.u32 0, Value.int IntKind.u32 0, Value.int IntKind.u32 0, Value.int IntKind.u32 0, Value.int IntKind.u32 0, Value.int IntKind.u32 0, Value.int IntKind.u32 0, Value.int IntKind.u32 0, Value.int IntKind.u32 0, Value.int IntKind.u32 0, Value.int IntKind.u32 0, Value.int IntKind.u32 0, Value.int IntKind.u32 0, Value.int IntKind.u32 0, Value.int IntKind.u32 0, Value.int IntKind.u32 0, Value.int IntKind.u32 0, Value.int IntKind.u32 0, Value.int IntKind.u32 0, Value.int IntKind.u32 0, Value.int IntKind.u32 0, Value.int IntKind.u32 0, Value.int IntKind.u32 0, Value.int IntKind.u32 0, Value.int IntKind.u32 0] 48)).setRow w1.heap.size (rowv (wordsOf (shn 8))) := ⟨_, rfl⟩
  have HA : Hid (Arr W w1.heap.size 48 (wordsOf (shn 8))) := by rw [hW]; exact setRow_heap _ _ _ _ _ (0, 0) (heap_alloc_new _ _)
  have HB : Hid (Below w.heap.size w W) := by rw [hW]; exact below_row (HB1.out.alloc hz1 _) hz1 _
  have HZ : Hid (w1.heap.size < W.heap.size) := by rw [hW]; simp [Hid]
  rw [← hW]
  clear hW HB1
  simp only [Act.put]
  go_loop [0, 1] (fun r x => x = .int .i64 n ∧ r = .int .u32 (s : Int)) (fun _ _ => 0)
  case atStart => exact ⟨rfl, rfl⟩
  case round =>
    obtain ⟨rfl, rfl⟩ := hrel
    go_wp2_with fail
    go_ret
    exact ⟨rfl, HB.out⟩

theorem and_odd (m : Nat) : bits .and .i64 (m : Int) 1 = ((m % 2 : Nat) : Int) := by
  have h127 : (BitVec.ofInt 64 1).toNat = 2 ^ 1 - 1 := by decide
  have key : (BitVec.ofInt 64 (m : Int) &&& BitVec.ofInt 64 1).toNat = ((m : Int) % ((2 ^ 64 : Nat) : Int)).toNat % 2 ^ 1 := by
    rw [BitVec.toNat_and, BitVec.toNat_ofInt, h127, Nat.and_two_pow_sub_one_eq_mod]
  show IntKind.i64.wrap ((BitVec.ofInt 64 (m : Int) &&& BitVec.ofInt 64 1).toNat : Nat) = _
  rw [key, IntKind.wrap_i64]
  omega
theorem odd_yes {m : Nat} (h : m % 2 = 1) : (bits .and .i64 (m : Int) 1 == 1) = true := by rw [and_odd, h]; rfl
theorem odd_no {m : Nat} (h : m % 2 = 0) : (bits .and .i64 (m : Int) 1 == 1) = false := by rw [and_odd, h]; rfl
theorem half_int (m : Nat) : (m : Int) / 2 = ((m / 2 : Nat) : Int) := by omega
theorem twice_step (e m q : Nat) : shn (8 * e * m) q = shn (8 * (e + e) * (m / 2)) (if m % 2 = 1 then shn (8 * e) q else q) := by
  rcases Nat.mod_two_eq_zero_or_one m with h | h
  · rw [if_neg (by omega)]
    congr 1
    have hm : m = 2 * (m / 2) := by omega
    conv => lhs; rw [hm]
    rw [show 8 * (e + e) = 8 * e * 2 by omega, Nat.mul_assoc (8 * e) 2]
  · rw [if_pos h, ← shn_add]
    congr 1
    have hm : m = 2 * (m / 2) + 1 := by omega
    conv => lhs; rw [hm]
    rw [Nat.mul_add, Nat.mul_one, show 8 * (e + e) = 8 * e * 2 by omega, Nat.mul_assoc (8 * e) 2]
    omega
set_option maxHeartbeats 1000000 in
theorem noughts_any (s n : Nat) (hs : s < 4294967296) (hn : n ≤ 9223372036854775807) (w : World) : Calls Try.prog 22 #[.int .u32 (s : Int), .int .i64 (n : Int)] w fun e w' => e = .returned (.int .u32 (shn (8 * n) s : Nat)) ∧ Below w.heap.size w w' := by
  have HS := Lib.hid hs
  have HN := Lib.hid hn
  clear hs hn
  go_enter Try.func22, Try.ntmps22
  go_wp2_with fail
  refine (oneNought_any _).mono ?_
  rintro e w1 ⟨rfl, hb1⟩
  have hz1 := hb1.size
  have HB1 := Lib.hid hb1
  clear hb1
  go_upto_region 2 with (refine wpList_store_row rfl 48 (.tmp 5) (.tmp 6) rfl w1.heap.size (rowv (wordsOf (shn 8))) rfl rfl 48 _ (heap_alloc_new _ _) (by rw [rowv_size, wordsOf_length]; exact info32) (by simp [rowv_size, wordsOf_length]) (rowv_one _) ?_)
  obtain ⟨W, hW⟩ : ∃ W, W = (w1.alloc (Obj.cells #[Value.int IntKind.u32 0, Value.int IntKind.u32 0, Value.int IntKind.u32 0, Value.int IntKind.u32 0, Value.int IntKind.u32 0, Value.int IntKind.u32 0, Value.int IntKind.u32 0, Value.int IntKind.u32 0, Value.int IntKind.u32 0, Value.int IntKind.u32 0, Value.int IntKind.u32 0, Value.int IntKind.u32 0, Value.int IntKind.u32 0, Value.int IntKind.u32 0, Value.int IntKind.u32 0, Value.int IntKind.u32 0, Value.int IntKind.u32 0, Value.int IntKind.u32 0, Value.int IntKind.u32 0, Value.int IntKind.u32 0, Value.int IntKind.u32 0, Value.int IntKind.u32 0, Value.int IntKind.u32 0, Value.int IntKind.u32 0, Value.int IntKind.u32 0, Value.int IntKind.u32 0, Value.int IntKind.u32 0, Value.int IntKind.u32 0, Value.int IntKind.u32 0, Value.int IntKind.u32 0, Value.int IntKind.u32 0, Value.int IntKind.u32 0] 48)).setRow w1.heap.size (rowv (wordsOf (shn 8))) := ⟨_, rfl⟩
  have HA : Hid (Arr W w1.heap.size 48 (wordsOf (shn 8))) := by rw [hW]; exact setRow_heap _ _ _ _ _ (0, 0) (heap_alloc_new _ _)
  have HB : Hid (Below w.heap.size w W) := by rw [hW]; exact below_row (HB1.out.alloc hz1 _) hz1 _
  have HZ : Hid (w1.heap.size < W.heap.size) := by rw [hW]; simp [Hid]
  rw [← hW]
  clear hW HB1
  simp only [Act.put]
  go_loopw [0, 1] (fun r x wr => ∃ (m q e : Nat), x = .int .i64 (m : Int) ∧ r = .int .u32 (q : Int) ∧ Hid (q < 4294967296) ∧ Hid (m ≤ 9223372036854775807) ∧ Hid (shn (8 * e * m) q = shn (8 * n) s) ∧ Arr wr w1.heap.size 48 (wordsOf (shn (8 * e))) ∧ w1.heap.size < wr.heap.size ∧ Below w.heap.size w wr) (fun _ x _ => (intOf x).toNat)
  case atStart => exact ⟨n, s, 1, rfl, rfl, HS, HN, Lib.hid rfl, HA.out, HZ.out, HB.out⟩
  case round =>
    obtain ⟨m, q, e, rfl, rfl, hq, hm, he, ha, hz, hb⟩ := hrel
    have HA2 := Lib.hid ha
    have HB2 := Lib.hid hb
    have HT := Lib.hid (twice_step e m q)
    have hm2 := hm.out
    clear ha hb
    by_cases h0 : m = 0
    · subst h0
      go_wp2_with fail
      go_ret
      exact ⟨by rw [← he.out]; rfl, HB2.out⟩
    · have hd : decide (0 < (m : Int)) = true := by simp; omega
      have hd2 : decide (0 < m) = true := by simp; omega
      have hhalf := half_int m
      rcases Nat.mod_two_eq_zero_or_one m with hpar | hpar
      · have hodd := odd_no hpar
        have HPAR := Lib.hid hpar
        clear hpar hm2 hhalf
        have HSQ := Lib.hid (square_any (shn (8 * e)) (Lin.shn _) (keeps_shn _) wr)
        rw [words_twice, ← Nat.mul_add] at HSQ
        go_wp2_with (refine wpList_load_row rfl 48 (.tmp 5) rfl w1.heap.size rfl 48 _ (0, 0) _ HA2.out Try.underlying48 rfl (by rw [rowv_size, wordsOf_length]; exact info32) ?_)
        refine Calls.mono HSQ.out ?_
        rintro e3 w3 ⟨rfl, hb3⟩
        have hz3 := hb3.size
        have HB3 := Lib.hid hb3
        have HA3 := Lib.hid (HA2.out.below hb3 (by omega))
        clear hb3 HSQ
        go_wp2_with (refine wpList_store_row rfl 48 (.tmp 5) (.tmp 18) rfl w1.heap.size (rowv (wordsOf (shn (8 * (e + e))))) rfl rfl 48 _ HA3.out (by rw [rowv_size, wordsOf_length]; exact info32) (by simp [rowv_size, wordsOf_length]) (rowv_one _) ?_)
        go_roundw
        case rel => exact ⟨m / 2, q, e + e, by rw [half_int], rfl, hq, Lib.hid (by have := hm.out; omega), Lib.hid (by rw [← he.out, HT.out, if_neg (by rw [HPAR.out]; decide)]), HA3.out.setRow _, by simp; omega, below_row (HB2.out.trans (HB3.out.mono (by omega))) (by omega) _⟩
        case measure => simp [intOf]; omega
      · have hodd := odd_yes hpar
        have HPAR := Lib.hid hpar
        clear hpar hm2 hhalf
        go_wp2_with (refine wpList_load_row rfl 48 (.tmp 5) rfl w1.heap.size rfl 48 _ (0, 0) _ HA2.out Try.underlying48 rfl (by rw [rowv_size, wordsOf_length]; exact info32) ?_)
        refine (through_any (shn (8 * e)) (Lin.shn _) (keeps_shn _) q hq.out _).mono ?_
        rintro e2 w2 ⟨rfl, hb2⟩
        have hz2 := hb2.size
        have HBX := Lib.hid (HB2.out.trans (hb2.mono (by omega)))
        have HAX := Lib.hid (HA2.out.below hb2 (by omega))
        clear hb2
        have HSQ := Lib.hid (square_any (shn (8 * e)) (Lin.shn _) (keeps_shn _) w2)
        rw [words_twice, ← Nat.mul_add] at HSQ
        go_wp2_with (refine wpList_load_row rfl 48 (.tmp 5) rfl w1.heap.size rfl 48 _ (0, 0) _ HAX.out Try.underlying48 rfl (by rw [rowv_size, wordsOf_length]; exact info32) ?_)
        refine Calls.mono HSQ.out ?_
        rintro e3 w3 ⟨rfl, hb3⟩
        have hz3 := hb3.size
        have HB3 := Lib.hid hb3
        have HA3 := Lib.hid (HAX.out.below hb3 (by omega))
        clear hb3 HSQ
        go_wp2_with (refine wpList_store_row rfl 48 (.tmp 5) (.tmp 18) rfl w1.heap.size (rowv (wordsOf (shn (8 * (e + e))))) rfl rfl 48 _ HA3.out (by rw [rowv_size, wordsOf_length]; exact info32) (by simp [rowv_size, wordsOf_length]) (rowv_one _) ?_)
        go_roundw
        case rel => exact ⟨m / 2, shn (8 * e) q, e + e, by rw [half_int], rfl, Lib.hid (shn_lt hq.out), Lib.hid (by have := hm.out; omega), Lib.hid (by rw [← he.out, HT.out, if_pos HPAR.out]), HA3.out.setRow _, by simp; omega, below_row (HBX.out.trans (HB3.out.mono (by omega))) (by omega) _⟩
        case measure => simp [intOf]; omega

/-- How many, where a number below 0 is as none. -/
theorem noughts_all (s : Nat) (n : Int) (hs : s < 4294967296) (hn : n ≤ 9223372036854775807) (w : World) : Calls Try.prog 22 #[.int .u32 (s : Int), .int .i64 n] w fun e w' => e = .returned (.int .u32 (shn (8 * n.toNat) s : Nat)) ∧ Below w.heap.size w w' := by
  rcases Int.lt_or_le 0 n with h | h
  · have e : n = (n.toNat : Int) := by omega
    have hn' : n.toNat ≤ 9223372036854775807 := by omega
    generalize n.toNat = m at e hn' ⊢
    subst e
    exact noughts_any s m hs hn' w
  · have e : n.toNat = 0 := by omega
    rw [e]
    exact noughts_none s n h w

theorem zeros_any (s : Nat) (n : Int) (hs : s < 4294967296) (hn : n ≤ 9223372036854775807) (w : World) : Calls Try.prog 16 #[.int .u32 (s : Int), .int .i64 n] w fun e w' => e = .returned (.int .u32 (shn (8 * n.toNat) (s ^^^ ones) ^^^ ones : Nat)) ∧ Below w.heap.size w w' := by
  have H1 := Lib.hid (xor_ones32 hs)
  have H2 := Lib.hid (noughts_all (s ^^^ ones) n (xor_lt hs ones_lt) hn w)
  have H3 := Lib.hid (xor_ones32 (shn_lt (n := 8 * n.toNat) (xor_lt hs ones_lt)))
  clear hs hn
  go_enter Try.func16, Try.ntmps16
  go_wp2_with fail
  rw [H1.out]
  refine Calls.mono H2.out ?_
  rintro e w1 ⟨rfl, hb1⟩
  have HB1 := Lib.hid hb1
  clear hb1
  go_wp2_with fail
  go_ret
  exact ⟨by rw [H3.out]; rfl, HB1.out⟩

theorem join_any (s t : Nat) (n : Int) (hs : s < 4294967296) (ht : t < 4294967296) (hn : n ≤ 9223372036854775807) (w : World) : Calls Try.prog 14 #[.int .u32 (s : Int), .int .u32 (t : Int), .int .i64 n] w fun e w' => e = .returned (.int .u32 (shn (8 * n.toNat) s ^^^ t : Nat)) ∧ Below w.heap.size w w' := by
  have H2 := Lib.hid (noughts_all s n hs hn w)
  have H3 := Lib.hid (xor_u32 (shn_lt (n := 8 * n.toNat) hs) ht)
  clear hs hn ht
  go_enter Try.func14, Try.ntmps14
  go_wp2_with fail
  refine Calls.mono H2.out ?_
  rintro e w1 ⟨rfl, hb1⟩
  have HB1 := Lib.hid hb1
  clear hb1
  go_wp2_with fail
  go_ret
  exact ⟨by rw [H3.out]; rfl, HB1.out⟩
end Go.Proofs.Ytppeomikmpahmaa
