/- The readers of wire: Number, Signed, Flag, and what a count is. -/
import Derived.Test.YtcofnbeemfhcpaaWwhole
namespace Go.Proofs.Ytcofnbeemfhcpaa
open Go.ChangeShapes Go.WideShapes Go.ChangeAt Go.RowKit

/-- No form of a number stands here. -/
def NoNum (l : List Nat) : Prop := ∀ n rest, ¬ Begins l n rest

def OkNum (l : List Nat) (v : Value) (rest : List Nat) (_ : World) : Prop := ∃ n, Begins l n rest ∧ v = .int .u64 (n : Int)
def ErrNum (l : List Nat) (n : Int) : Prop := n = 4 ∧ NoNum l

theorem num_loose (r lo hi : Nat) (l : List Nat) (w : World) (h : Rd w r lo hi l) :
    Calls Try.prog 30 #[.pointer (some ⟨r, 0, none⟩)] w (LoosePost (OkNum l) (ErrNum l) w r lo hi) := by
  refine (num_any r lo hi l w h).mono ?_
  rintro e w' (⟨n, rest, hb, rfl, hr, hg⟩ | ⟨hno, rfl, _, hg⟩)
  · exact .inl ⟨_, rest, ⟨n, hb, rfl⟩, rfl, hr, hg⟩
  · exact .inr ⟨_, 4, ⟨rfl, hno⟩, by decide, rfl, hg⟩

theorem holds_num (l : List Nat) (B : Nat) : Holds2 (OkNum l) B := fun _ _ _ _ _ _ h _ => h

set_option maxHeartbeats 400000 in
theorem Number_any (r lo hi : Nat) (l : List Nat) (w : World) (h : Rd w r lo hi l) :
    Calls Try.prog 20 #[.pointer (some ⟨r, 0, none⟩)] w (WholePost (.int .u64 0) (OkNum l) (ErrNum l) w r lo hi l) := by
  have HC := Lib.hid (whole_u64 (OkNum l) (ErrNum l) r lo hi l w h (holds_num l _) (fun v hv => num_loose _ lo hi l _ hv))
  clear h
  go_enter Try.func20, Try.ntmps20
  go_wp2_with fail
  refine Calls.mono HC.out ?_
  rintro e w1 (⟨v1, rest, hv, rfl, hrd, hg⟩ | ⟨n, hn, hn0, rfl, hrd, hg⟩)
  · have HF : Hid (WholePost (.int .u64 0) (OkNum l) (ErrNum l) w r lo hi l (.returned (.tuple #[v1, .int .i64 0])) w1) := .inl ⟨v1, rest, hv, rfl, hrd, hg⟩
    clear hv hrd hg
    go_wp2_with fail
    go_ret2
    exact HF.out
  · have HF : Hid (WholePost (.int .u64 0) (OkNum l) (ErrNum l) w r lo hi l (.returned (.tuple #[.int .u64 0, .int .i64 n])) w1) := .inr ⟨n, hn, hn0, rfl, hrd, hg⟩
    clear hn hn0 hrd hg
    go_wp2_with fail
    go_ret2
    exact HF.out

/-- A signed number that stands here. -/
def OkSig (l : List Nat) (v : Value) (rest : List Nat) (_ : World) : Prop := ∃ s : Int, -9223372036854775808 ≤ s ∧ s ≤ 9223372036854775807 ∧ Begins l (zz s) rest ∧ v = .int .i64 s

theorem ofInt_i64n (a : Nat) (ha : a < 9223372036854775808) : (BitVec.ofInt 64 (a : Int)).toNat = a := by
  rw [BitVec.ofInt_natCast, BitVec.toNat_ofNat]; exact Nat.mod_eq_of_lt (by omega)

theorem unzig (n : Nat) (h : n < 18446744073709551616) :
    ∃ s : Int, bits BinOp.xor IntKind.i64 (wrap64 ((n : Int) / 2)) (wrap64 (-wrap64 (bits BinOp.and IntKind.u64 (n : Int) 1))) = s ∧ -9223372036854775808 ≤ s ∧ s ≤ 9223372036854775807 ∧ zz s = n := by
  have e1 : bits BinOp.and IntKind.u64 (n : Int) 1 = ((n % 2 : Nat) : Int) := by
    have := u64_and_nat n 1 h (by omega)
    rw [nat_mask1] at this
    exact this
  have e2 : wrap64 ((n : Int) / 2) = ((n / 2 : Nat) : Int) := by unfold wrap64; omega
  rw [e1, e2]
  have hs : n / 2 < 9223372036854775808 := by omega
  rcases Nat.mod_two_eq_zero_or_one n with h2 | h2
  · have e3 : wrap64 (-wrap64 ((n % 2 : Nat) : Int)) = 0 := by rw [h2]; unfold wrap64; omega
    rw [e3]
    refine ⟨((n / 2 : Nat) : Int), ?_, by omega, by omega, ?_⟩
    · show IntKind.i64.wrap ((BitVec.ofInt 64 ((n / 2 : Nat) : Int) ^^^ BitVec.ofInt 64 0).toNat : Int) = _
      have e4 : BitVec.ofInt 64 0 = 0#64 := by rfl
      rw [e4, BitVec.xor_zero, ofInt_i64n _ hs, IntKind.wrap_i64]
      omega
    · unfold zz; rw [if_pos (by omega)]; omega
  · have e3 : wrap64 (-wrap64 ((n % 2 : Nat) : Int)) = -1 := by rw [h2]; unfold wrap64; omega
    rw [e3]
    refine ⟨-((n / 2 : Nat) : Int) - 1, ?_, by omega, by omega, ?_⟩
    · show IntKind.i64.wrap ((BitVec.ofInt 64 ((n / 2 : Nat) : Int) ^^^ BitVec.ofInt 64 (-1)).toNat : Int) = _
      have e4 : BitVec.ofInt 64 (-1) = BitVec.allOnes 64 := by decide
      rw [e4, BitVec.xor_allOnes, BitVec.toNat_not, ofInt_i64n _ hs, IntKind.wrap_i64]
      omega
    · unfold zz; rw [if_neg (by omega)]; omega

theorem holds_sig (l : List Nat) (B : Nat) : Holds2 (OkSig l) B := fun _ _ _ _ _ _ h _ => h

/-- A flag that stands here. -/
def OkFlag (l : List Nat) (v : Value) (rest : List Nat) (_ : World) : Prop := ∃ b : Bool, l = flagForm b ++ rest ∧ v = .bool b
def ErrFlag (l : List Nat) (n : Int) : Prop := n = 4 ∧ ∀ b rest, l ≠ flagForm b ++ rest

/-- A reader whose next bytes are taken off, in the world behind that store. -/
theorem rd_cut {w : World} {r lo hi c c2 : Nat} {l : List Nat} {A A2 : Option Addr} (k : Nat) (h : Rd w r lo hi l) (h1 : RObj w r (.slice A l.length c) true)
    (hc2 : l.length - k ≤ c2) (hcm : c2 ≤ maxLen) (hnil : A2 = none → c2 = 0) (hby : By w lo hi A2 (l.drop k)) :
    Rd (w.setCell ⟨r, 0, none⟩ (.slice A2 (l.length - k) c2)) r lo hi (l.drop k) := by
  have hl2 : (l.drop k).length = l.length - k := by simp
  have hap := h.apart
  have ht := h.top
  exact ⟨⟨_, h1.set _, A2, c2, by rw [hl2], by omega, hcm, hnil, Sl.setCell hby (by simpa using hap) _⟩, hap, by simpa [World.setCell] using ht, fun q hq => h.byt q (List.mem_of_mem_drop hq)⟩

theorem holds_flag (l : List Nat) (B : Nat) : Holds2 (OkFlag l) B := fun _ _ _ _ _ _ h _ => h

/-- A count: a number that stands here, at most so many. -/
def OkCount (most : Int) (l : List Nat) (v : Value) (rest : List Nat) : Prop := ∃ n : Nat, Begins l n rest ∧ (n : Int) ≤ most ∧ v = .int .u64 (n : Int)
/-- Why it is none, in the order in which it is asked. -/
def ErrCount (most : Int) (l : List Nat) (n : Int) : Prop := (n = 2 ∧ most < 0) ∨ (0 ≤ most ∧ n = 4 ∧ NoNum l) ∨ (0 ≤ most ∧ n = 3 ∧ ∃ m rest, Begins l m rest ∧ most < (m : Int))

set_option maxHeartbeats 800000 in
theorem count_loose (most : Int) (hm1 : -9223372036854775808 ≤ most) (hm2 : most ≤ 9223372036854775807) (r lo hi : Nat) (l : List Nat) (w : World) (h : Rd w r lo hi l) :
    Calls Try.prog 36 #[.pointer (some ⟨r, 0, none⟩), .int .i64 most] w (LoosePost (fun v rest _ => OkCount most l v rest) (ErrCount most l) w r lo hi) := by
  by_cases h0 : most < 0
  · have hd : decide (most < 0) = true := by simp [h0]
    have HF : Hid (LoosePost (fun v rest _ => OkCount most l v rest) (ErrCount most l) w r lo hi (.returned (.tuple #[.int .u64 0, .int .i64 2])) w) := .inr ⟨_, 2, .inl ⟨rfl, h0⟩, by decide, rfl, World.grownBy.refl w _⟩
    clear h hm1 hm2
    go_enter Try.func36, Try.ntmps36
    go_wp2_with fail
    go_ret2
    exact HF.out
  · have hd : decide (most < 0) = false := by simp; omega
    have h1 : 0 ≤ most := by omega
    have HC := Lib.hid (num_any r lo hi l w h)
    have H2 := Lib.hid hm2
    clear h h0 hm1
    go_enter Try.func36, Try.ntmps36
    go_wp2_with fail
    refine Calls.mono HC.out ?_
    rintro e w1 (⟨n, rest, hb, rfl, hr, hg⟩ | ⟨hno, rfl, _, hg⟩)
    · have hrest : Rd w1 r lo hi rest := hr
      by_cases hle : (n : Int) ≤ most
      · have hd2 : decide (most < (n : Int)) = false := by simp; omega
        have HF : Hid (LoosePost (fun v rest _ => OkCount most l v rest) (ErrCount most l) w r lo hi (.returned (.tuple #[.int .u64 (n : Int), .int .i64 0])) w1) := .inl ⟨_, rest, ⟨n, hb, hle, rfl⟩, rfl, hr, hg⟩
        clear hb hr hg hrest
        go_wp2_with fail
        go_ret2
        exact HF.out
      · have hd2 : decide (most < (n : Int)) = true := by simp; omega
        have HF : Hid (LoosePost (fun v rest _ => OkCount most l v rest) (ErrCount most l) w r lo hi (.returned (.tuple #[.int .u64 0, .int .i64 3])) w1) := .inr ⟨_, 3, .inr (.inr ⟨h1, rfl, n, rest, hb, by omega⟩), by decide, rfl, hg⟩
        clear hb hr hg hrest
        go_wp2_with fail
        go_ret2
        exact HF.out
    · have HF : Hid (LoosePost (fun v rest _ => OkCount most l v rest) (ErrCount most l) w r lo hi (.returned (.tuple #[.int .u64 0, .int .i64 4])) w1) := .inr ⟨_, 4, .inr (.inl ⟨h1, rfl, hno⟩), by decide, rfl, hg⟩
      clear hno hg
      go_wp2_with fail
      go_ret2
      exact HF.out
end Go.Proofs.Ytcofnbeemfhcpaa
