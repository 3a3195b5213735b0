/- crc takes bytes by halves, and answers the register behind them. -/
import Derived.Test.YtdoieknjhdehmaaCtable
namespace Go.Proofs.Ytdoieknjhdehmaa
open Go.ChangeShapes Go.WideShapes Go.ChangeAt Go.RowKit

def halves : List Nat := (List.range 16).map (shn 4)
theorem halves_length : halves.length = 16 := by simp [halves]
theorem mask15 {m : Nat} (h : m < 4294967296) : bits .and .u32 (m : Int) 15 = ((m % 16 : Nat) : Int) := by
  have := u32_and_nat m 15 h (by omega)
  rw [nat_mask4] at this
  exact this
theorem half_bits {m : Nat} (h : m < 4294967296) : bits .xor .u32 ((m : Int) / 16) ((halves[m % 16]'(by rw [halves_length]; omega) : Nat) : Int) = (shn 4 m : Nat) := by
  have e : halves[m % 16]'(by rw [halves_length]; omega) = shn 4 (m % 16) := words_get (shn 4) 16 (m % 16) _
  have e2 : ((m / 16 : Nat) : Int) = (m : Int) / 16 := by omega
  rw [e, ← e2, xor_u32 (by omega) (shn4_lt16 (by omega)), ← shn4]

theorem reg_take (s : Nat) (l : List Nat) {k : Nat} (h : k < l.length) : reg s (l.take (k + 1)) = shn 8 (reg s (l.take k) ^^^ l[k]) := by
  rw [List.take_succ_eq_append_getElem h, reg_snoc]
theorem reg_take_lt {s : Nat} {l : List Nat} (hs : s < 4294967296) (hl : ∀ c ∈ l, c < 256) (k : Nat) : reg s (l.take k) < 4294967296 := reg_lt hs fun c hc => hl c (List.mem_of_mem_take hc)

set_option maxHeartbeats 1000000 in
theorem taken_any (s : Nat) (hs : s < 4294967296) (v : Value) (lo hi : Nat) (l : List Nat) (w : World) (hv : Bs w lo hi v l) (hhi : hi ≤ w.heap.size) (hl : ∀ c ∈ l, c < 256) :
    Calls Try.prog 42 #[.agg (rowv halves), .int .u32 (s : Int), v] w fun e w' => e = .returned (.int .u32 (reg s l : Nat)) ∧ Below w.heap.size w w' := by
  have HS := Lib.hid hs
  have HL := Lib.hid hl
  obtain ⟨A, c, rfl, q1, q2, q3, hby⟩ := hv
  have hlen : l.length ≤ 9223372036854775807 := by unfold maxLen at q2; omega
  clear hs hl q1 q2 q3
  have hA : Arr (w.alloc (.cells (rowv halves) 57)) w.heap.size 57 halves := heap_alloc_new _ _
  have HA := Lib.hid hA
  have hby2 : By (w.alloc (.cells (rowv halves) 57)) lo hi A l := Sl.alloc hby hhi _
  have HBY := Lib.hid hby2
  have HB := Lib.hid ((Below.refl w.heap.size w).alloc (Nat.le_refl _) (.cells (rowv halves) 57))
  obtain ⟨W, hW⟩ : ∃ W, W = w.alloc (.cells (rowv halves) 57) := ⟨_, rfl⟩
  have HW := Lib.hid hW
  rw [← hW] at HA HBY HB
  clear hA hby hby2 hW
  go_enter Try.func42, Try.ntmps42
  go_wp2_with fail
  rw [← HW.out]
  go_loop [1, 12] (fun r i => ∃ (k m : Nat), k ≤ l.length ∧ i = .int .i64 (k : Int) ∧ r = .int .u32 (m : Int) ∧ Hid (m = reg s (l.take k))) (fun _ i => l.length - (intOf i).toNat)
  case atStart => exact ⟨0, s, Nat.zero_le _, rfl, rfl, Lib.hid rfl⟩
  case round =>
    obtain ⟨k, m, hk, rfl, rfl, hm⟩ := hrel
    by_cases hlt : k < l.length
    · obtain ⟨b, o, rfl, _, _, hcell⟩ := HBY.out.at_ hlt
      have hmlt := Lib.hid (show m < 4294967296 by rw [hm.out]; exact reg_take_lt HS.out HL.out k)
      have hc256 := HL.out l[k] (List.getElem_mem hlt)
      have hx := Lib.hid (xor_u32 hmlt.out (show l[k] < 4294967296 by omega))
      go_wp2_with fail
      rw [hx.out]
      go_loop [1, 20] (fun r j => ∃ (i x : Nat), i ≤ 2 ∧ j = .int .i64 (i : Int) ∧ r = .int .u32 (x : Int) ∧ Hid (x = shn (4 * i) (m ^^^ l[k]))) (fun _ j => 2 - (intOf j).toNat)
      case atStart => exact ⟨0, m ^^^ l[k], Nat.zero_le _, rfl, rfl, Lib.hid rfl⟩
      case round =>
        obtain ⟨i, x, hi2, rfl, rfl, hx2⟩ := hrel
        have hxlt : x < 4294967296 := by rw [hx2.out]; exact shn_lt (xor_lt hmlt.out (by omega))
        by_cases hlt2 : i < 2
        · have hcell2 := HA.out.cell (x % 16) (by rw [halves_length]; omega)
          have hmask := mask15 hxlt
          have HB2 := Lib.hid (half_bits hxlt)
          have h16 : x % 16 < 16 := by omega
          go_wp2_with fail
          go_round
          case rel => exact ⟨i + 1, shn 4 x, by omega, by go_num, by rw [HB2.out], Lib.hid (by rw [hx2.out, ← shn_add]; congr 1)⟩
          case measure => simp [intOf]; omega
        · obtain rfl : i = 2 := by omega
          clear hxlt
          go_wp2_with fail
          go_round
          case rel => exact ⟨k + 1, x, by omega, by go_num, rfl, Lib.hid (by rw [hx2.out, reg_take s l hlt, hm.out])⟩
          case measure => simp [intOf]; omega
    · go_wp2_with fail
      go_ret
      obtain rfl : k = l.length := by omega
      exact ⟨by rw [hm.out, List.take_length]; rfl, HB.out⟩
end Go.Proofs.Ytdoieknjhdehmaa
