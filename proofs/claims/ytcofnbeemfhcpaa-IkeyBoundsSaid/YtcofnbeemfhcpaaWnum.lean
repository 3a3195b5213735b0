/- The writers of wire: Number, Signed, Flag answer the forms, in new memory. -/
import Derived.Test.YtcofnbeemfhcpaaWords
import Derived.Test.YtcofnbeemfhcpaaPlain
import Derived.WalkLawsBesides
import Derived.WalkSpells
import Derived.ProofKit
import Derived.Outline
namespace Go.Proofs.Ytcofnbeemfhcpaa
open Go.ChangeShapes Go.WideShapes Go.ChangeAt Go.RowKit

theorem or128 (m : Nat) : bits .or .u8 ((m : Int) % 256) 128 = (m : Int) % 128 + 128 := by
  have h : ∀ x, x < 256 → x ||| 128 = x % 128 + 128 := by decide +kernel
  have h2 := u8_or_nat (m % 256) 128 (by omega) (by omega)
  rw [h _ (by omega)] at h2
  have e1 : ((m % 256 : Nat) : Int) = (m : Int) % 256 := by omega
  have e2 : ((m % 256 % 128 + 128 : Nat) : Int) = (m : Int) % 128 + 128 := by omega
  rw [e1, e2] at h2
  exact h2

set_option maxHeartbeats 400000 in
theorem number_any (n : Nat) (h1 : U64 n) (w : World) :
    Calls Try.prog 17 #[.int .u64 n] w (NewBy w (form n)) := by
  obtain ⟨i0, hi, hz0, hz1, hz2⟩ := info_parts t5info
  have HI := Lib.hid hi
  clear hi
  go_enter Try.func17, Try.ntmps17
  go_wp2
  go_loopw [0, 3] (fun x v wr => ∃ (m : Nat) (pre : List Nat), x = .int .u64 (m : Int) ∧ U64 m ∧ pre ++ form m = form n ∧ wr.ownsRow w.heap.size 5 1 v pre.length (bv pre) ∧ Below w.heap.size w wr) (fun x _ _ => (intOf x).toNat)
  case atStart => exact ⟨n, [], rfl, h1, rfl, World.ownsRow_nil _ _ _ _, Below.refl _ _⟩
  case round =>
    obtain ⟨m, pre, rfl, hm, hp, hown, hb⟩ := hrel
    have hl : pre.length + (form m).length ≤ 10 := by
      have := congrArg List.length hp
      have h2 := form_len64 h1
      simp at this; omega
    have hz := hb.size
    have HP := Lib.hid hp
    clear hp
    by_cases hlt : m < 128
    · have hd : decide ((128 : Int) ≤ (m : Int)) = false := by simp; omega
      have hl1 : pre.length + 1 ≤ 10 := by rw [form_lo hlt] at hl; simpa using hl
      go_wp2_with (at_builtin; refine wpList_push rfl (.tmp 14) (.tmp 17) 22 rfl w.heap.size 5 i0 (.int .u8 0) 1 Try.underlying22 HI.out hz0 hz1 hz2 rfl _ _ _ rfl hown _ rfl rfl ?c3 ?c4 hz ?_)
      case c3 => unfold maxLen; omega
      case c4 => omega
      intro v1 w1 hown1 hb1
      go_wp2
      go_ret
      refine ⟨v1, rfl, ?_, hb1 _ hb⟩
      rw [← HP.out, form_lo hlt]
      simpa [bv] using hown1
    · have hd : decide ((128 : Int) ≤ (m : Int)) = true := by simp; omega
      have hl1 : pre.length + 1 ≤ 10 := by rw [form_hi hlt] at hl; simp at hl; omega
      have hor := or128 m
      go_wp2_with (at_builtin; refine wpList_push rfl (.tmp 6) (.tmp 10) 22 rfl w.heap.size 5 i0 (.int .u8 0) 1 Try.underlying22 HI.out hz0 hz1 hz2 rfl _ _ _ rfl hown _ rfl rfl ?c3 ?c4 hz ?_)
      case c3 => unfold maxLen; omega
      case c4 => omega
      intro v1 w1 hown1 hb1
      go_wp2
      refine ⟨⟨m / 128, pre ++ [m % 128 + 128], by simp, hm.div _, ?_, ?_, hb1 _ hb⟩, ?_⟩
      · rw [← HP.out, form_hi hlt]; simp
      · simpa [bv] using hown1
      · simp [intOf]; omega

theorem xor_pos (n : Int) (h0 : 0 ≤ n) (h1 : n ≤ 9223372036854775807) : bits BinOp.xor IntKind.u64 (n * 2) (n / 9223372036854775808) = (zz n : Int) := by
  have e : n / 9223372036854775808 = 0 := by omega
  rw [e, u64_xor (n * 2) 0 (by omega) (by omega) (by omega) (by omega), zz_pos h0]
  simp; omega

theorem xor_neg (n : Int) (h0 : n < 0) (h1 : -9223372036854775808 ≤ n) :
    bits BinOp.xor IntKind.u64 (IntKind.u64.wrap (IntKind.u64.wrap n * 2)) (IntKind.u64.wrap (n / 9223372036854775808)) = (zz n : Int) := by
  have e1 : IntKind.u64.wrap (IntKind.u64.wrap n * 2) = 18446744073709551616 + 2 * n := by rw [IntKind.wrap_u64, IntKind.wrap_u64]; omega
  have e2 : IntKind.u64.wrap (n / 9223372036854775808) = 18446744073709551615 := by rw [IntKind.wrap_u64]; omega
  rw [e1, e2, u64_xor _ _ (by omega) (by omega) (by omega) (by omega), zz_neg h0]
  have e3 : (18446744073709551615 : Int).toNat = 18446744073709551615 := rfl
  rw [e3, xor_ones _ (by omega)]
  omega

/-- The form of a flag. -/
def flagForm (b : Bool) : List Nat := if b then [1] else [0]

/-- A literal of one byte is the call's own row. -/
theorem own_lit (w : World) (n : Nat) : (w.alloc (.cells #[.int .u8 (n : Int)] 5)).ownsRow w.heap.size 5 1 (.slice (some ⟨w.heap.size, 0, none⟩) 1 1) 1 (bv [n]) :=
  ⟨by simp [bv], .inr ⟨w.heap.size, 1, _, rfl, Nat.le_refl _, heap_alloc_new w _, Nat.le_refl _, by simp [maxLen], by simp, by simp [bv]⟩⟩

end Go.Proofs.Ytcofnbeemfhcpaa
