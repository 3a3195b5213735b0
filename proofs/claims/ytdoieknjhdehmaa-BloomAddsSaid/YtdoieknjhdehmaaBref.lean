/- The reference's Size, Check, Bits and has. -/
import Derived.Test.YtdoieknjhdehmaaBcount
import Derived.Test.YtdoieknjhdehmaaCref
namespace Go.Proofs.Ytdoieknjhdehmaa
open Go.ChangeShapes Go.WideShapes Go.ChangeAt Go.RowKit

theorem rsize_any (n : Int) (h1 : -9223372036854775808 ≤ n) (h2 : n ≤ 9223372036854775807) (w : World) :
    Calls Try.prog 11 #[.int .i64 n] w fun e w' => e = .returned (.int .i64 (sizeI n : Nat)) ∧ w = w' := by
  by_cases ha : n < 0
  · have hd : decide (n < 0) = true := by simpa using ha
    have HS : Hid (sizeI n = 0) := by unfold sizeI Hid; rw [if_pos (.inl ha)]
    go_enter Try.func11, Try.ntmps11
    go_wp2_with fail
    go_ret
    exact ⟨by rw [HS.out]; rfl, rfl⟩
  · have hd : decide (n < 0) = false := by simpa using ha
    by_cases hb : 65536 < n
    · have hd2 : decide (65536 < n) = true := by simpa using hb
      have HS : Hid (sizeI n = 0) := by unfold sizeI Hid; rw [if_pos (.inr hb)]
      go_enter Try.func11, Try.ntmps11
      go_wp2_with fail
      go_ret
      exact ⟨by rw [HS.out]; rfl, rfl⟩
    · have hd2 : decide (65536 < n) = false := by simpa using hb
      obtain ⟨m, rfl⟩ : ∃ m : Nat, n = (m : Int) := ⟨n.toNat, by omega⟩
      have HS : Hid (sizeI (m : Int) = bsize m) := sizeI_nat (by omega)
      have hm : m ≤ 65536 := by omega
      clear ha hb h1 h2
      go_enter Try.func11, Try.ntmps11
      go_wp2_with fail
      go_loop [3] (fun i => ∃ k : Nat, 8 * (m + 1) ≤ k ∧ k ≤ 8 * bsize m ∧ i = .int .i64 (k : Int)) (fun i => 8 * bsize m - (intOf i).toNat)
      case atStart => exact ⟨8 * (m + 1), Nat.le_refl _, by unfold bsize; omega, by go_num⟩
      case round =>
        obtain ⟨k, hk1, hk2, rfl⟩ := hrel
        have hkb : (k : Int) ≤ 1000000 := by have := bsize_le hm; omega
        by_cases hz : k % 64 = 0
        · have hd3 : ((k : Int) % 64 != 0) = false := by simp; omega
          have hkk : k = 8 * bsize m := by unfold bsize at hk2 ⊢; omega
          have hmin : ((k : Int) ≤ 1048576) := by omega
          clear hz
          go_wp2_with fail
          go_ret
          exact ⟨by rw [HS.out]; rfl, rfl⟩
        · have hd3 : ((k : Int) % 64 != 0) = true := by simp; omega
          have hk3 : k + 1 ≤ 8 * bsize m := by unfold bsize at hk2 ⊢; omega
          clear hz
          go_wp2_with fail
          go_round
          case rel => exact ⟨k + 1, by omega, by omega, by go_num⟩
          case measure => simp [intOf]; omega

theorem rcheck_any {w : World} {A : Option Addr} {n c : Nat} (hn : n ≤ 9223372036854775807) :
    Calls Try.prog 24 #[.slice A n c] w fun e w' => e = .returned (.int .i64 (chk n)) ∧ w = w' := by
  by_cases h0 : n = 0
  · subst h0
    have HS : Hid (chk 0 = 4) := rfl
    go_enter Try.func24, Try.ntmps24
    go_wp2_with fail
    go_ret
    exact ⟨by rw [HS.out]; rfl, rfl⟩
  · have hd : ((n : Int) == 0) = false := by simpa using h0
    by_cases h1 : n % 8 = 0
    · have hd1 : ((n : Int) % 8 != 0) = false := by simp; omega
      by_cases h2 : n ≤ 131072
      · have hd2 : decide ((131072 : Int) < (n : Int)) = false := by simp; omega
        have HS : Hid (chk n = 0) := by unfold chk okF Hid; rw [if_pos (by simp; omega)]
        clear h0 h1 h2
        go_enter Try.func24, Try.ntmps24
        go_wp2_with fail
        go_ret
        exact ⟨by rw [HS.out]; rfl, rfl⟩
      · have hd2 : decide ((131072 : Int) < (n : Int)) = true := by simp; omega
        have HS : Hid (chk n = 4) := by unfold chk okF Hid; rw [if_neg (by simp; omega)]
        clear h0 h1 h2
        go_enter Try.func24, Try.ntmps24
        go_wp2_with fail
        go_ret
        exact ⟨by rw [HS.out]; rfl, rfl⟩
    · have hd1 : ((n : Int) % 8 != 0) = true := by simp; omega
      have HS : Hid (chk n = 4) := by unfold chk okF Hid; rw [if_neg (by simp; omega)]
      clear h0 h1
      go_enter Try.func24, Try.ntmps24
      go_wp2_with fail
      go_ret
      exact ⟨by rw [HS.out]; rfl, rfl⟩

/-- Is a bit 1? -/
theorem bit_word (x j : Nat) (hx : x < 256) : (bits .and .u8 ((x : Int) / (2 : Int) ^ (j % 8)) 1 == 1) = (x / 2 ^ (j % 8) % 2 == 1) := by
  have e : ((x / 2 ^ (j % 8) : Nat) : Int) = (x : Int) / (2 : Int) ^ (j % 8) := by simp
  rw [← e]
  have h : x / 2 ^ (j % 8) < 256 := Nat.lt_of_le_of_lt (Nat.div_le_self _ _) hx
  have h2 := and_u8 h (show 1 < 256 by decide)
  rw [show ((1 : Nat) : Int) = 1 from rfl] at h2
  rw [h2, Nat.and_one_is_mod]
  rw [Bool.eq_iff_iff, beq_iff_eq, beq_iff_eq]
  omega
set_option maxHeartbeats 1000000 in
theorem rhas_any {w : World} {lo hi c : Nat} {A : Option Addr} {F : List Nat} {j : Nat} (hu : Bs w lo hi (.slice A F.length c) F) (hF : ∀ x ∈ F, x < 256) (hj : j < 8 * F.length) (hl : F.length ≤ 1099511627776) :
    Calls Try.prog 31 #[.slice A F.length c, .int .i64 (j : Int)] w fun e w' => e = .returned (.bool (bitOf F j)) ∧ w = w' := by
  obtain ⟨q, hq⟩ : ∃ q, q = j / 8 := ⟨_, rfl⟩
  have hqn : q < F.length := by omega
  obtain ⟨x, hx⟩ : ∃ x, x = F[q] := ⟨_, rfl⟩
  have hx8 : x < 256 := by rw [hx]; exact hF _ (List.getElem_mem _)
  have HBT : Hid (bitOf F j = (x / 2 ^ (j % 8) % 2 == 1)) := by subst hq; rw [hx]; exact bit_at hqn
  have HW := Lib.hid (bit_word x j hx8)
  obtain ⟨A', c', he, _, _, _, hby⟩ := hu
  injection he with e1 _ e3
  subst e1 e3
  obtain ⟨g, o, rfl, _, _, c0⟩ := hby.at_ hqn
  rw [← hx] at c0
  have hq2 : (j : Int) / 8 = (q : Int) := by omega
  have hqi : (q : Int) < (F.length : Int) := by omega
  have hji : (j : Int) ≤ 9223372036854775807 := by omega
  clear hq hx hby hF hj hl
  go_enter Try.func31, Try.ntmps31
  go_wp2_with fail
  go_ret
  exact ⟨by rw [HBT.out, ← HW.out]; rfl, rfl⟩

theorem rkb_int (l : List Nat) (m i : Nat) (h : 0 < m) (h2 : m ≤ 1048576) : wrap64 ((((crc l : Nat) : Int) + (i : Int) * ((way l : Nat) : Int)) % 4294967296 % (m : Int)) = ((kb l m i : Nat) : Int) := kb_int l m i h h2
theorem way_ref {l : List Nat} (hl : ∀ x ∈ l, x < 256) : bits .or .u32 ((crc (l ++ [1]) : Nat) : Int) 1 = ((way l : Nat) : Int) := by
  have h := way_bits hl
  rw [crc_more] at h
  exact h
theorem snoc_lt {l : List Nat} (hl : ∀ x ∈ l, x < 256) : ∀ x ∈ l ++ [1], x < 256 := fun x hx => by
  rcases List.mem_append.1 hx with hx | hx
  · exact hl x hx
  · exact one_lt x hx
set_option maxRecDepth 100000 in
set_option maxHeartbeats 4000000 in
theorem rbits_any (v : Value) (lo hi : Nat) (l : List Nat) (m : Nat) (w : World) (hv : Bs w lo hi v l) (hhi : hi ≤ w.heap.size) (hl : ∀ c ∈ l, c < 256) (hll : l.length ≤ 1000000) (hm1 : 0 < m) (hm2 : m ≤ 1048576) :
    Calls Try.prog 15 #[v, .int .i64 (m : Int)] w fun e w' => e = .returned (.agg (irow (kbs l m))) ∧ Ext w w' := by
  have HV := Lib.hid hv
  have HL := Lib.hid hl
  have H0 := Lib.hid (five0 (kb l m))
  have HW := Lib.hid (way_ref hl)
  have HA0 : Hid (IArr (w.alloc (.cells #[.int .i64 0, .int .i64 0, .int .i64 0, .int .i64 0, .int .i64 0] 26)) w.heap.size 26 (part (kb l m) 5 0)) := by unfold IArr Hid; rw [H0.out]; exact heap_alloc_new _ _
  have HX0 : Hid (Ext w (w.alloc (.cells #[.int .i64 0, .int .i64 0, .int .i64 0, .int .i64 0, .int .i64 0] 26))) := ext_alloc _ _
  have HS := Lib.hid (rsum_any v lo hi l _ (HV.out.alloc hhi (.cells #[.int .i64 0, .int .i64 0, .int .i64 0, .int .i64 0, .int .i64 0] 26)) hl)
  obtain ⟨A, c, rfl, _, _, _, _⟩ := hv
  clear hl
  go_enter Try.func15, Try.ntmps15
  go_upto_region 1 with (fail)
  obtain ⟨w0, hw0⟩ : ∃ w0, w0 = w.alloc (.cells #[.int .i64 0, .int .i64 0, .int .i64 0, .int .i64 0, .int .i64 0] 26) := ⟨_, rfl⟩
  rw [← hw0] at HS HA0 HX0 ⊢
  have hsz0 : w.heap.size < w0.heap.size := by rw [hw0]; simp
  clear hw0
  go_wp2_with fail
  refine Calls.mono HS.out ?_
  rintro e w1 ⟨rfl, rfl⟩
  go_wp2_with (at_builtin; refine wpList_addn rfl (.const (.slice none 0 0)) (.tmp 11) rfl w0.heap.size _ [] rfl (Own.nil _ _) lo hi _ l rfl (HV.out.below HX0.out hhi) l l.length rfl rfl (by omega) (Nat.le_refl _) ?_)
  intro A2 c2 w2 ho2 hb2
  have HO2 := Lib.hid ho2
  have HX2 : Hid (Ext w0 w2) := hb2 w0 (Ext.refl _)
  clear ho2 hb2
  go_wp2_with (at_builtin; refine wpList_addn rfl (.tmp 12) (.tmp 13) rfl w0.heap.size _ l rfl (HO2.out.below (ext_alloc w2 _)) _ _ _ [1] rfl (bs_new w2 [1] (by simp)) (l ++ [1]) (l ++ [1]).length rfl rfl (by simp; omega) (by have := HX2.out.size; simp; omega) ?_)
  intro A3 c3 w3 ho3 hb3
  have HO3 := Lib.hid ho3
  have HX3 : Hid (Ext w0 w3) := hb3 w0 (Ext.trans HX2.out (ext_alloc w2 _))
  clear ho3 hb3
  go_wp2_with fail
  refine (rsum_any _ _ _ (l ++ [1]) _ HO3.out.bs (snoc_lt HL.out)).mono ?_
  rintro e w4 ⟨rfl, rfl⟩
  go_wp2_with fail
  rw [HW.out, ← H0.out]
  have HA3 := Lib.hid (HA0.out.below HX3.out hsz0)
  have hsz3 : w.heap.size < w3.heap.size := by have := HX3.out.size; omega
  have HX03 : Hid (Ext w w3) := Ext.trans HX0.out HX3.out
  go_loopw [8] (fun i wr => ∃ k : Nat, k ≤ 5 ∧ i = .int .i64 (k : Int) ∧ Hid (IArr wr w.heap.size 26 (part (kb l m) 5 0)) ∧ Hid (IArr wr w3.heap.size 26 (part (kb l m) 5 k)) ∧ Hid (Below w.heap.size w wr)) (fun i _ => 5 - (intOf i).toNat)
  case atStart =>
    exact ⟨0, by omega, rfl, HA3.out.below (below_new1 _ _) hsz3, heap_alloc_new _ _, Ext.trans HX03.out (ext_alloc _ _)⟩
  case round =>
    obtain ⟨k, hk, rfl, HA, HC, HB⟩ := hrel
    by_cases hlt : k < 5
    · have hcell := HC.out.cell k (by rw [part_length]; exact hlt)
      have hfree := HC.out.free k
      have HK := Lib.hid (kb_int l m k hm1 hm2)
      have hmz : ((m : Int) == 0) = false := by simp; omega
      go_wp2_with fail
      go_roundw
      case rel =>
        rw [HK.out]
        refine ⟨k + 1, by omega, by go_num, HA.out.far (by simp; omega) _, ?_, below_set HB.out (by omega) _ _⟩
        have := HC.out.set k (kb l m k)
        rw [part_set] at this
        exact this
      case measure => simp [intOf]; omega
    · obtain rfl : k = 5 := by omega
      go_wp2_with (first | (refine wpList_load_row rfl 26 (.tmp 7) rfl w3.heap.size rfl 26 _ (0, 0) _ HC.out Try.underlying26 rfl info5 ?_) | (refine wpList_store_row rfl 26 (.tmp 4) (.tmp 33) rfl w.heap.size (irow (part (kb l m) 5 5)) rfl rfl 26 _ HA.out info5 (by simp [irow_size, part_length]) (irow_one _) ?_))
      have HR := HA.out.setRow (part (kb l m) 5 5)
      refine bodyPost_ret (v := .agg (irow (part (kb l m) 5 5))) (results_cell_row Try.results15 _ _ w.heap.size 26 _ (0, 0) _ rfl HR Try.underlying26 rfl (by simp [irow_size, part_length, info5])) rfl ⟨by rw [part_kbs], below_row HB.out (Nat.le_refl _) _⟩
end Go.Proofs.Ytdoieknjhdehmaa
