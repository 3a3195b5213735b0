/- A number's reader: the loop over its digits. -/
import Derived.Test.YtcofnbeemfhcpaaWrd
namespace Go.Proofs.Ytcofnbeemfhcpaa
open Go.ChangeShapes Go.WideShapes Go.ChangeAt Go.RowKit

/-- A digit of seven bits more, as the program reckons it. -/
theorem digit_more (v x k : Nat) (hk : k ≤ 9) (hv : v < 128 ^ k) (hx : x < 256) (h9 : k = 9 → x ≤ 1) :
    bits BinOp.or IntKind.u64 (v : Int) (IntKind.u64.wrap (IntKind.u64.wrap (bits BinOp.and IntKind.u8 (x : Int) 127) * 2 ^ (7 * k))) = ((v + 128 ^ k * (x % 128) : Nat) : Int) := by
  have e1 : bits BinOp.and IntKind.u8 (x : Int) 127 = ((x % 128 : Nat) : Int) := by
    have := u8_and_nat x 127 hx (by omega)
    rw [nat_mask7] at this
    exact this
  have e2 : IntKind.u64.wrap ((x % 128 : Nat) : Int) = ((x % 128 : Nat) : Int) := by rw [IntKind.wrap_u64]; omega
  have e3 : ((2 : Int) ^ (7 * k)) = ((128 ^ k : Nat) : Int) := by
    rw [Int.pow_mul]
    simp
  have hlt : 128 ^ k * (x % 128) < 18446744073709551616 := by
    have h4 : (128 : Nat) ^ 9 = 9223372036854775808 := by decide
    by_cases h : k = 9
    · have := h9 h
      subst h
      have h3 : 128 ^ 9 * (x % 128) ≤ 128 ^ 9 * 1 := Nat.mul_le_mul_left _ (by omega)
      omega
    · have h2 : 128 ^ (k + 1) ≤ 128 ^ 9 := Nat.pow_le_pow_right (by omega) (by omega)
      have h3 : 128 ^ k * (x % 128) ≤ 128 ^ k * 127 := Nat.mul_le_mul_left _ (by omega)
      rw [Nat.pow_succ] at h2
      omega
  have hv9 : v < 18446744073709551616 := by
    have h4 : (128 : Nat) ^ 9 = 9223372036854775808 := by decide
    have h2 : 128 ^ k ≤ 128 ^ 9 := Nat.pow_le_pow_right (by omega) (by omega)
    omega
  have e4 : IntKind.u64.wrap (((x % 128 : Nat) : Int) * ((128 ^ k : Nat) : Int)) = ((128 ^ k * (x % 128) : Nat) : Int) := by
    rw [← Int.natCast_mul, Nat.mul_comm, IntKind.wrap_u64]
    omega
  rw [e1, e2, e3, e4, u64_or_nat _ _ hv9 hlt]
  have e5 : v ||| 128 ^ k * (x % 128) = v + 128 ^ k * (x % 128) := by
    have e6 : (128 : Nat) ^ k = 2 ^ (7 * k) := by rw [Nat.pow_mul]
    rw [Nat.or_comm, nat_join (7 * k) _ v (by rw [e6]; simp) (by rw [← e6]; exact hv), Nat.add_comm]
  rw [e5]

/-- What is left behind the first k bytes. -/
theorem tail_run' (kl : IntKind) (A : Option Addr) (n c k : Nat) (hk : k ≤ n) (hc : n ≤ c) : ∃ A2, (∀ l : List Nat, l.length = n → ∀ (W : World) (lo hi : Nat), By W lo hi A l → By W lo hi A2 (l.drop k)) ∧ (A2 = none → A = none) ∧
    ∀ w, (Instr.slice 22 (.slice A n c) (some (.int kl (k : Int))) none none).run Try.prog w = .ok (.slice A2 (n - k) (c - k)) w := by
  obtain ⟨i0, hi, _, hz1, _⟩ := info_parts t5info
  refine ⟨if c = k then A else A.map (·.add k), fun l hl W lo hi' h => ?_, ?_, fun w => ?_⟩
  · subst hl
    exact By.drop h hk hc
  · split
    · exact id
    · cases A <;> simp
  · have he : Try.prog.underlying 22 = some (.slice (Try.prog.elem 22)) := by kernel_rfl
    have hs : (sizeOf (Try.prog.elem 22)).run Try.prog w = .ok 1 w := by
      have e : Try.prog.elem 22 = 5 := by kernel_rfl
      rw [e]
      simp [Go.sizeOf, typeInfo, hi, hz1]
    rw [run_slice_l w 22 A n c he kl (k : Int) (by omega) (by omega), hs]
    simp [Result.andThen, sliced]

theorem tail_run (A : Option Addr) (n c k : Nat) (hk : k ≤ n) (hc : n ≤ c) : ∃ A2, (∀ l : List Nat, l.length = n → ∀ (W : World) (lo hi : Nat), By W lo hi A l → By W lo hi A2 (l.drop k)) ∧ (A2 = none → A = none) ∧
    ∀ w, (Instr.slice 22 (.slice A n c) (some (.int .i64 (k : Int))) none none).run Try.prog w = .ok (.slice A2 (n - k) (c - k)) w := tail_run' .i64 A n c k hk hc

/-- The first k bytes. -/
theorem head_run (kl : IntKind) (A : Option Addr) (n c k : Nat) (hk : k ≤ n) (hc : n ≤ c) : ∃ A2, (∀ l : List Nat, l.length = n → ∀ (W : World) (lo hi : Nat), By W lo hi A l → By W lo hi A2 (l.take k)) ∧ (A2 = none → A = none) ∧
    ∀ w, (Instr.slice 22 (.slice A n c) none (some (.int kl (k : Int))) none).run Try.prog w = .ok (.slice A2 k c) w := by
  obtain ⟨i0, hi, _, hz1, _⟩ := info_parts t5info
  refine ⟨if c = 0 then A else A.map (·.add 0), fun l hl W lo hi' h => ?_, ?_, fun w => ?_⟩
  · have h2 := By.drop (k := 0) (cap := c) h (by omega) (by omega)
    unfold By
    rw [bv_take]
    exact Sl.take h2 k
  · split
    · exact id
    · cases A <;> simp
  · have he : Try.prog.underlying 22 = some (.slice (Try.prog.elem 22)) := by kernel_rfl
    have hs : (sizeOf (Try.prog.elem 22)).run Try.prog w = .ok 1 w := by
      have e : Try.prog.elem 22 = 5 := by kernel_rfl
      rw [e]
      simp [Go.sizeOf, typeInfo, hi, hz1]
    rw [run_slice_h w 22 A n c he kl (k : Int) (by omega) (by omega), hs]
    simp [Result.andThen, sliced]

def NumPost (w : World) (r lo hi : Nat) (l : List Nat) (e : Ending) (w' : World) : Prop :=
  (∃ n rest, Begins l n rest ∧ e = .returned (.tuple #[.int .u64 (n : Int), .int .i64 0]) ∧ Rd w' r lo hi rest ∧ w.grownBy w' (some r)) ∨
  ((∀ n rest, ¬ Begins l n rest) ∧ e = .returned (.tuple #[.int .u64 0, .int .i64 4]) ∧ Rd w' r lo hi l ∧ w.grownBy w' (some r))

theorem grownBy_set (w : World) (r o : Nat) (u : Value) : w.grownBy (w.setCell ⟨r, o, none⟩ u) (some r) :=
  ⟨rfl, rfl, rfl, by simp [World.setCell], fun i _ hne => Below.heap_setCell w _ u i (by rintro rfl; exact hne rfl)⟩

set_option maxHeartbeats 2000000 in
theorem num_any (r lo hi : Nat) (l : List Nat) (w : World) (h : Rd w r lo hi l) : Calls Try.prog 30 #[.pointer (some ⟨r, 0, none⟩)] w (NumPost w r lo hi l) := by
  obtain ⟨v, h1, A, c, rfl, hlc, hcm, hnil, hby⟩ := h.ex
  have c0 := h1.c0
  have f0 := h1.f0
  have H1 := Lib.hid h1
  have HR := Lib.hid h
  have HLC := Lib.hid hlc
  have HCM := Lib.hid hcm
  clear h h1 hlc hcm
  have hfail : ∀ w' : World, w = w' → (∀ n rest, ¬ Begins l n rest) → NumPost w r lo hi l (.returned (.tuple #[.int .u64 0, .int .i64 4])) w' := by
    rintro _ rfl hno
    exact .inr ⟨hno, rfl, HR.out, World.grownBy.refl w _⟩
  have HF := Lib.hid hfail
  clear hfail
  go_enter Try.func30, Try.ntmps30
  go_wp2_with fail
  go_step3
  go_wp2_with fail
  go_step3
  go_wp2_with fail
  go_loop [4, 5] (fun n i => ∃ k : Nat, k ≤ l.length ∧ k ≤ 9 ∧ i = .int .i64 (k : Int) ∧ n = .int .u64 (val (l.take k) : Int) ∧ More (l.take k)) (fun _ i => 10 - (intOf i).toNat)
  case atStart => exact ⟨0, Nat.zero_le _, by omega, rfl, rfl, more_nil l⟩
  case round =>
    obtain ⟨k, hk, hk9, rfl, rfl, hm⟩ := hrel
    have HM := Lib.hid hm
    clear hm
    by_cases hlt : k < l.length
    · obtain ⟨b, o, rfl, _, _, hcell⟩ := hby.at_ hlt
      have hxb : l[k] < 256 := HR.out.byt _ (List.getElem_mem hlt)
      have HV := Lib.hid (val_take_lt hk)
      have HS := Lib.hid (val_succ hlt)
      have HMS := Lib.hid (fun h1 => more_succ hlt HM.out h1 hxb)
      have HB := Lib.hid (begins_of hlt HM.out)
      have HZ := Lib.hid (not_begins_zero hlt HM.out)
      have H9 : Hid (k = 9 → 1 < l[k] → ∀ n r, ¬ Begins l n r) := fun h => by subst h; exact not_begins_nine hlt HM.out
      generalize l[k] = x at *
      generalize val (l.take k) = vv at *
      have d1 : ((k : Int) == (l.length : Int)) = false := by simp; omega
      have d1n : (k == l.length) = false := by simp; omega
      by_cases hz : k ≠ 0 ∧ x = 0
      · obtain ⟨hk0, rfl⟩ := hz
        have d6 : decide ((0 : Int) < (k : Int)) = true := by simp; omega
        have d6n : decide (0 < k) = true := by simp; omega
        have hno := Lib.hid (HZ.out hk0 rfl)
        clear HB H9 HS HMS
        go_wp2_with fail
        go_ret2
        exact HF.out _ rfl hno.out
      · by_cases h9 : k = 9 ∧ 1 < x
        · obtain ⟨rfl, h1x⟩ := h9
          have d2 : ((x : Int) == 0) = false := by simp; omega
          have d4 : decide ((1 : Int) < (x : Int)) = true := by simp; omega
          have d4n : decide (1 < x) = true := by simp; omega
          have hno := Lib.hid (H9 rfl h1x)
          clear HB HZ HS HMS
          go_wp2_with fail
          go_ret2
          exact HF.out _ rfl hno.out
        · by_cases hx : x < 128
          · have d3 : decide ((x : Int) < 128) = true := by simp; omega
            have d3n : decide (x < 128) = true := by simp; omega
            have hdig := digit_more vv x k hk9 HV.out hxb (by omega)
            rw [Nat.mod_eq_of_lt hx] at hdig
            have hbeg := HB.out hx (fun h0 => by omega) (by omega)
            obtain ⟨A2, hA2, hA2n, hrun⟩ := tail_run (some ⟨b, o, none⟩) l.length c (k + 1) (by omega) HLC.out
            have hrun' : ∀ w, (Instr.slice 22 (.slice (some ⟨b, o, none⟩) l.length c) (some (.int .i64 ((k : Int) + 1))) none none).run Try.prog w = .ok (.slice A2 (l.length - (k + 1)) (c - (k + 1))) w := hrun
            generalize vv + 128 ^ k * x = n at *
            have hyes : NumPost w r lo hi l (.returned (.tuple #[.int .u64 (n : Int), .int .i64 0])) (w.setCell ⟨r, 0, none⟩ (.slice A2 (l.length - (k + 1)) (c - (k + 1)))) := by
              have hl2 : (l.drop (k + 1)).length = l.length - (k + 1) := by simp
              have hap := HR.out.apart
              have hlc2 := HLC.out
              have hcm2 := HCM.out
              refine .inl ⟨n, l.drop (k + 1), hbeg, rfl, ⟨⟨_, H1.out.set _, A2, c - (k + 1), by rw [hl2], by omega, by omega, ?_, (hA2 l rfl _ _ _ hby).setCell (by simpa using hap) _⟩, hap, by have := HR.out.top; simpa [World.setCell] using this, fun q hq => HR.out.byt q (List.mem_of_mem_drop hq)⟩, grownBy_set _ _ _ _⟩
              intro hn
              cases hA2n hn
            have HY := Lib.hid hyes
            clear hyes hbeg hrun hA2 HB H9 HZ HS HMS hA2n
            have hln : (k : Int) + 1 ≤ 9223372036854775807 := by omega
            by_cases h0 : k = 0
            · have d6 : decide ((0 : Int) < (k : Int)) = false := by simp; omega
              have d6n : decide (0 < k) = false := by simp; omega
              have d5 : ((k : Int) == 9) = false := by simp; omega
              have H0 := Lib.hid h0
              clear h0
              go_wp2_with fail
              go_ret2
              exact HY.out
            · have hx0 : x ≠ 0 := by omega
              have d2 : ((x : Int) == 0) = false := by simp; omega
              have d6 : decide ((0 : Int) < (k : Int)) = true := by simp; omega
              have d6n : decide (0 < k) = true := by simp; omega
              by_cases hk9' : k = 9
              · have d5 : ((k : Int) == 9) = true := by simp; omega
                have H9' := Lib.hid hk9'
                have d4 : decide ((1 : Int) < (x : Int)) = false := by simp; omega
                have d4n : decide (1 < x) = false := by simp; omega
                clear hk9'
                go_wp2_with fail
                go_ret2
                exact HY.out
              · have d5 : ((k : Int) == 9) = false := by simp; omega
                go_wp2_with fail
                go_ret2
                exact HY.out
          · have d2 : ((x : Int) == 0) = false := by simp; omega
            have d3 : decide ((x : Int) < 128) = false := by simp; omega
            have d3n : decide (x < 128) = false := by simp; omega
            have hk8 : k ≠ 9 := by omega
            have d5 : ((k : Int) == 9) = false := by simp; omega
            have hdig := digit_more vv x k hk9 HV.out hxb (by omega)
            rw [← HS.out] at hdig
            by_cases h0 : k = 0
            · have d6 : decide ((0 : Int) < (k : Int)) = false := by simp; omega
              have d6n : decide (0 < k) = false := by simp; omega
              have d5 : ((k : Int) == 9) = false := by simp; omega
              have H0 := Lib.hid h0
              clear h0
              go_wp2_with fail
              go_round
              case rel => exact ⟨k + 1, by omega, by omega, by go_num, rfl, HMS.out (by omega)⟩
              case measure => simp [intOf]; omega
            · have d6 : decide ((0 : Int) < (k : Int)) = true := by simp; omega
              have d6n : decide (0 < k) = true := by simp; omega
              go_wp2_with fail
              go_round
              case rel => exact ⟨k + 1, by omega, by omega, by go_num, rfl, HMS.out (by omega)⟩
              case measure => simp [intOf]; omega
    · obtain rfl : k = l.length := by omega
      have hno : ∀ n rest, ¬ Begins l n rest := by
        have h1 := HM.out
        rw [List.take_length] at h1
        exact fun n r => not_begins_more h1 n r
      have HN := Lib.hid hno
      clear hno
      go_wp2_with fail
      go_ret2
      exact HF.out _ rfl HN.out
end Go.Proofs.Ytcofnbeemfhcpaa
