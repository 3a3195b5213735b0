/- The readers of wire: Number, Signed, Flag, and what a count is. -/
import Derived.Test.YtdggemdgndiafaaWwhole
namespace Go.Proofs.Ytdggemdgndiafaa
open Go.ChangeShapes Go.WideShapes Go.ChangeAt Go.RowKit

/-- No form of a number stands here. -/
def NoNum (l : List Nat) : Prop := ∀ n rest, ¬ Begins l n rest

def OkNum (l : List Nat) (v : Value) (rest : List Nat) (_ : World) : Prop := ∃ n, Begins l n rest ∧ v = .int .u64 (n : Int)
def ErrNum (l : List Nat) (n : Int) : Prop := n = 4 ∧ NoNum l

theorem num_loose (r lo hi : Nat) (l : List Nat) (w : World) (h : Rd w r lo hi l) :
    Calls Try.prog 47 #[.pointer (some ⟨r, 0, none⟩)] w (LoosePost (OkNum l) (ErrNum l) w r lo hi) := by
  refine (num_any r lo hi l w h).mono ?_
  rintro e w' (⟨n, rest, hb, rfl, hr, hg⟩ | ⟨hno, rfl, _, hg⟩)
  · exact .inl ⟨_, rest, ⟨n, hb, rfl⟩, rfl, hr, hg⟩
  · exact .inr ⟨_, 4, ⟨rfl, hno⟩, by decide, rfl, hg⟩

theorem holds_num (l : List Nat) (B : Nat) : Holds2 (OkNum l) B := fun _ _ _ _ _ _ h _ => h

set_option maxHeartbeats 400000 in
theorem Number_any (r lo hi : Nat) (l : List Nat) (w : World) (h : Rd w r lo hi l) :
    Calls Try.prog 16 #[.pointer (some ⟨r, 0, none⟩)] w (WholePost (.int .u64 0) (OkNum l) (ErrNum l) w r lo hi l) := by
  have HC := Lib.hid (whole_u64 (OkNum l) (ErrNum l) r lo hi l w h (holds_num l _) (fun v hv => num_loose _ lo hi l _ hv))
  clear h
  go_enter Try.func16, Try.ntmps16
  go_wp2_with fail
  refine Calls.mono HC.out ?_
  rintro e w1 (⟨v1, rest, hv, rfl, hrd, hg⟩ | ⟨n, hn, hn0, rfl, hrd, hg⟩)
  · have HF : Hid (WholePost (.int .u64 0) (OkNum l) (ErrNum l) w r lo hi l (.returned (.tuple #[v1, .int .i64 0])) w1) := .inl ⟨v1, rest, hv, rfl, hrd, hg⟩
    clear hv hrd hg
    go_wp2_with fail
    go_ret2
    exact HF.out
  · have HF : Hid (WholePost (.int .u64 0) (OkNum l) (ErrNum l) w r lo hi l (.returned (.tuple #[.int .u64 0, .int .i64 n])) w1) := .inr ⟨n, hn, hn0, rfl, hrd, hg⟩
    clear hn hn0 hrd hg
    go_wp2_with fail
    go_ret2
    exact HF.out

/-- A signed number that stands here. -/
def OkSig (l : List Nat) (v : Value) (rest : List Nat) (_ : World) : Prop := ∃ s : Int, -9223372036854775808 ≤ s ∧ s ≤ 9223372036854775807 ∧ Begins l (zz s) rest ∧ v = .int .i64 s

theorem ofInt_i64n (a : Nat) (ha : a < 9223372036854775808) : (BitVec.ofInt 64 (a : Int)).toNat = a := by
  rw [BitVec.ofInt_natCast, BitVec.toNat_ofNat]; exact Nat.mod_eq_of_lt (by omega)

theorem unzig (n : Nat) (h : n < 18446744073709551616) :
    ∃ s : Int, bits BinOp.xor IntKind.i64 (wrap64 ((n : Int) / 2)) (wrap64 (-wrap64 (bits BinOp.and IntKind.u64 (n : Int) 1))) = s ∧ -9223372036854775808 ≤ s ∧ s ≤ 9223372036854775807 ∧ zz s = n := by
  have e1 : bits BinOp.and IntKind.u64 (n : Int) 1 = ((n % 2 : Nat) : Int) := by
    have := u64_and_nat n 1 h (by omega)
    rw [nat_mask1] at this
    exact this
  have e2 : wrap64 ((n : Int) / 2) = ((n / 2 : Nat) : Int) := by unfold wrap64; omega
  rw [e1, e2]
  have hs : n / 2 < 9223372036854775808 := by omega
  rcases Nat.mod_two_eq_zero_or_one n with h2 | h2
  · have e3 : wrap64 (-wrap64 ((n % 2 : Nat) : Int)) = 0 := by rw [h2]; unfold wrap64; omega
    rw [e3]
    refine ⟨((n / 2 : Nat) : Int), ?_, by omega, by omega, ?_⟩
    · show IntKind.i64.wrap ((BitVec.ofInt 64 ((n / 2 : Nat) : Int) ^^^ BitVec.ofInt 64 0).toNat : Int) = _
      have e4 : BitVec.ofInt 64 0 = 0#64 := by rfl
      rw [e4, BitVec.xor_zero, ofInt_i64n _ hs, IntKind.wrap_i64]
      omega
    · unfold zz; rw [if_pos (by omega)]; omega
  · have e3 : wrap64 (-wrap64 ((n % 2 : Nat) : Int)) = -1 := by rw [h2]; unfold wrap64; omega
    rw [e3]
    refine ⟨-((n / 2 : Nat) : Int) - 1, ?_, by omega, by omega, ?_⟩
    · show IntKind.i64.wrap ((BitVec.ofInt 64 ((n / 2 : Nat) : Int) ^^^ BitVec.ofInt 64 (-1)).toNat : Int) = _
      have e4 : BitVec.ofInt 64 (-1) = BitVec.allOnes 64 := by decide
      rw [e4, BitVec.xor_allOnes, BitVec.toNat_not, ofInt_i64n _ hs, IntKind.wrap_i64]
      omega
    · unfold zz; rw [if_neg (by omega)]; omega

set_option maxHeartbeats 400000 in
theorem signed_loose (r lo hi : Nat) (l : List Nat) (w : World) (h : Rd w r lo hi l) :
    Calls Try.prog 50 #[.pointer (some ⟨r, 0, none⟩)] w (LoosePost (OkSig l) (ErrNum l) w r lo hi) := by
  have HC := Lib.hid (num_any r lo hi l w h)
  clear h
  go_enter Try.func50, Try.ntmps50
  go_wp2_with fail
  refine Calls.mono HC.out ?_
  rintro e w1 (⟨n, rest, hb, rfl, hr, hg⟩ | ⟨hno, rfl, _, hg⟩)
  · obtain ⟨s, hs, h1, h2, h3⟩ := unzig n hb.n64.lt
    have HF : Hid (LoosePost (OkSig l) (ErrNum l) w r lo hi (.returned (.tuple #[.int .i64 s, .int .i64 0])) w1) := .inl ⟨_, rest, ⟨s, h1, h2, by rw [h3]; exact hb, rfl⟩, rfl, hr, hg⟩
    clear hb hr hg h1 h2 h3
    go_wp2_with fail
    go_ret2
    exact HF.out
  · obtain ⟨s, hs⟩ : ∃ s, bits BinOp.xor IntKind.i64 0 (wrap64 (-wrap64 (bits BinOp.and IntKind.u64 0 1))) = s := ⟨_, rfl⟩
    have HF : Hid (LoosePost (OkSig l) (ErrNum l) w r lo hi (.returned (.tuple #[.int .i64 s, .int .i64 4])) w1) := .inr ⟨_, 4, ⟨rfl, hno⟩, by decide, rfl, hg⟩
    clear hno hg
    go_wp2_with fail
    go_ret2
    exact HF.out

theorem holds_sig (l : List Nat) (B : Nat) : Holds2 (OkSig l) B := fun _ _ _ _ _ _ h _ => h

set_option maxHeartbeats 400000 in
theorem Signed_any (r lo hi : Nat) (l : List Nat) (w : World) (h : Rd w r lo hi l) :
    Calls Try.prog 21 #[.pointer (some ⟨r, 0, none⟩)] w (WholePost (.int .i64 0) (OkSig l) (ErrNum l) w r lo hi l) := by
  have HC := Lib.hid (whole_i64 (OkSig l) (ErrNum l) r lo hi l w h (holds_sig l _) (fun v hv => signed_loose _ lo hi l _ hv))
  clear h
  go_enter Try.func21, Try.ntmps21
  go_wp2_with fail
  refine Calls.mono HC.out ?_
  rintro e w1 (⟨v1, rest, hv, rfl, hrd, hg⟩ | ⟨n, hn, hn0, rfl, hrd, hg⟩)
  · have HF : Hid (WholePost (.int .i64 0) (OkSig l) (ErrNum l) w r lo hi l (.returned (.tuple #[v1, .int .i64 0])) w1) := .inl ⟨v1, rest, hv, rfl, hrd, hg⟩
    clear hv hrd hg
    go_wp2_with fail
    go_ret2
    exact HF.out
  · have HF : Hid (WholePost (.int .i64 0) (OkSig l) (ErrNum l) w r lo hi l (.returned (.tuple #[(.int .i64 0), .int .i64 n])) w1) := .inr ⟨n, hn, hn0, rfl, hrd, hg⟩
    clear hn hn0 hrd hg
    go_wp2_with fail
    go_ret2
    exact HF.out


/-- A flag that stands here. -/
def OkFlag (l : List Nat) (v : Value) (rest : List Nat) (_ : World) : Prop := ∃ b : Bool, l = flagForm b ++ rest ∧ v = .bool b
def ErrFlag (l : List Nat) (n : Int) : Prop := n = 4 ∧ ∀ b rest, l ≠ flagForm b ++ rest

/-- A reader whose next bytes are taken off, in the world behind that store. -/
theorem rd_cut {w : World} {r lo hi c c2 : Nat} {l : List Nat} {A A2 : Option Addr} (k : Nat) (h : Rd w r lo hi l) (h1 : RObj w r (.slice A l.length c) true)
    (hc2 : l.length - k ≤ c2) (hcm : c2 ≤ maxLen) (hnil : A2 = none → c2 = 0) (hby : By w lo hi A2 (l.drop k)) :
    Rd (w.setCell ⟨r, 0, none⟩ (.slice A2 (l.length - k) c2)) r lo hi (l.drop k) := by
  have hl2 : (l.drop k).length = l.length - k := by simp
  have hap := h.apart
  have ht := h.top
  exact ⟨⟨_, h1.set _, A2, c2, by rw [hl2], by omega, hcm, hnil, Sl.setCell hby (by simpa using hap) _⟩, hap, by simpa [World.setCell] using ht, fun q hq => h.byt q (List.mem_of_mem_drop hq)⟩

set_option maxHeartbeats 800000 in
theorem flag_loose (r lo hi : Nat) (l : List Nat) (w : World) (h : Rd w r lo hi l) :
    Calls Try.prog 71 #[.pointer (some ⟨r, 0, none⟩)] w (LoosePost (OkFlag l) (ErrFlag l) w r lo hi) := by
  obtain ⟨v, h1, A, c, rfl, hlc, hcm, hnil, hby⟩ := h.ex
  have c0 := h1.c0
  have f0 := h1.f0
  have H1 := Lib.hid h1
  have HR := Lib.hid h
  have HLC := Lib.hid hlc
  have HCM := Lib.hid hcm
  clear h h1 hlc hcm
  by_cases hlt : 0 < l.length
  · obtain ⟨b, o, rfl, _, _, hcell⟩ := hby.at_ hlt
    have hdrop : l = l[0] :: l.drop 1 := by
      have := List.drop_eq_getElem_cons hlt
      simpa using this
    simp only [Nat.add_zero] at hcell
    have hl2 : ((l.length : Int) == 0) = false := beq_eq_false_iff_ne.2 (by omega)
    have hl2n : (l.length == 0) = false := beq_eq_false_iff_ne.2 (by omega)
    generalize l[0] = x at *
    have HD := Lib.hid hdrop
    clear hdrop
    by_cases hx : 1 < x
    · have d : decide ((1 : Int) < (x : Int)) = true := by simp; omega
      have dn : decide (1 < x) = true := by simp; omega
      have HF : Hid (LoosePost (OkFlag l) (ErrFlag l) w r lo hi (.returned (.tuple #[.bool false, .int .i64 4])) w) := .inr ⟨_, 4, ⟨rfl, fun b rest h => by rw [HD.out] at h; cases b <;> simp [flagForm] at h <;> omega⟩, by decide, rfl, World.grownBy.refl w _⟩
      go_enter Try.func71, Try.ntmps71
      go_wp2_with fail
      go_ret2
      exact HF.out
    · have d : decide ((1 : Int) < (x : Int)) = false := by simp; omega
      have dn : decide (1 < x) = false := by simp; omega
      obtain ⟨A2, hA2, hA2n, hrun⟩ := tail_run (some ⟨b, o, none⟩) l.length c 1 (by omega) HLC.out
      have hrun' : ∀ w, (Instr.slice 23 (.slice (some ⟨b, o, none⟩) l.length c) (some (.int .i64 1)) none none).run Try.prog w = .ok (.slice A2 (l.length - 1) (c - 1)) w := hrun
      have hlc2 := HLC.out
      have hcm2 := HCM.out
      have hrd := rd_cut (c2 := c - 1) 1 HR.out H1.out (by omega) (by omega) (fun hn => by cases hA2n hn) (hA2 l rfl _ _ _ hby)
      obtain ⟨q, hq, hform⟩ : ∃ q : Bool, ((x : Int) == 1) = q ∧ l = flagForm q ++ l.drop 1 := by
        have h2 := HD.out
        rcases Nat.lt_or_ge x 1 with h0 | h0
        · obtain rfl : x = 0 := by omega
          exact ⟨false, rfl, h2⟩
        · obtain rfl : x = 1 := by omega
          exact ⟨true, rfl, h2⟩
      have HF : Hid (LoosePost (OkFlag l) (ErrFlag l) w r lo hi (.returned (.tuple #[.bool q, .int .i64 0])) (w.setCell ⟨r, 0, none⟩ (.slice A2 (l.length - 1) (c - 1)))) :=
        .inl ⟨_, l.drop 1, ⟨q, hform, rfl⟩, rfl, hrd, grownBy_set _ _ _ _⟩
      clear hrd hform hrun hA2 hA2n hlc2 hcm2 HD
      go_enter Try.func71, Try.ntmps71
      go_wp2_with fail
      go_ret2
      exact HF.out
  · have hl0 : l = [] := List.eq_nil_of_length_eq_zero (by omega)
    subst hl0
    have HF : Hid (LoosePost (OkFlag []) (ErrFlag []) w r lo hi (.returned (.tuple #[.bool false, .int .i64 4])) w) := .inr ⟨_, 4, ⟨rfl, fun b rest h => by cases b <;> simp [flagForm] at h⟩, by decide, rfl, World.grownBy.refl w _⟩
    clear hlt
    go_enter Try.func71, Try.ntmps71
    go_wp2_with fail
    go_ret2
    exact HF.out

theorem holds_flag (l : List Nat) (B : Nat) : Holds2 (OkFlag l) B := fun _ _ _ _ _ _ h _ => h

set_option maxHeartbeats 400000 in
theorem Flag_any (r lo hi : Nat) (l : List Nat) (w : World) (h : Rd w r lo hi l) :
    Calls Try.prog 42 #[.pointer (some ⟨r, 0, none⟩)] w (WholePost (.bool false) (OkFlag l) (ErrFlag l) w r lo hi l) := by
  have HC := Lib.hid (whole_bool (OkFlag l) (ErrFlag l) r lo hi l w h (holds_flag l _) (fun v hv => flag_loose _ lo hi l _ hv))
  clear h
  go_enter Try.func42, Try.ntmps42
  go_wp2_with fail
  refine Calls.mono HC.out ?_
  rintro e w1 (⟨v1, rest, hv, rfl, hrd, hg⟩ | ⟨n, hn, hn0, rfl, hrd, hg⟩)
  · have HF : Hid (WholePost (.bool false) (OkFlag l) (ErrFlag l) w r lo hi l (.returned (.tuple #[v1, .int .i64 0])) w1) := .inl ⟨v1, rest, hv, rfl, hrd, hg⟩
    clear hv hrd hg
    go_wp2_with fail
    go_ret2
    exact HF.out
  · have HF : Hid (WholePost (.bool false) (OkFlag l) (ErrFlag l) w r lo hi l (.returned (.tuple #[(.bool false), .int .i64 n])) w1) := .inr ⟨n, hn, hn0, rfl, hrd, hg⟩
    clear hn hn0 hrd hg
    go_wp2_with fail
    go_ret2
    exact HF.out


/-- A count: a number that stands here, at most so many. -/
def OkCount (most : Int) (l : List Nat) (v : Value) (rest : List Nat) : Prop := ∃ n : Nat, Begins l n rest ∧ (n : Int) ≤ most ∧ v = .int .u64 (n : Int)
/-- Why it is none, in the order in which it is asked. -/
def ErrCount (most : Int) (l : List Nat) (n : Int) : Prop := (n = 2 ∧ most < 0) ∨ (0 ≤ most ∧ n = 4 ∧ NoNum l) ∨ (0 ≤ most ∧ n = 3 ∧ ∃ m rest, Begins l m rest ∧ most < (m : Int))

set_option maxHeartbeats 800000 in
theorem count_loose (most : Int) (hm1 : -9223372036854775808 ≤ most) (hm2 : most ≤ 9223372036854775807) (r lo hi : Nat) (l : List Nat) (w : World) (h : Rd w r lo hi l) :
    Calls Try.prog 75 #[.pointer (some ⟨r, 0, none⟩), .int .i64 most] w (LoosePost (fun v rest _ => OkCount most l v rest) (ErrCount most l) w r lo hi) := by
  by_cases h0 : most < 0
  · have hd : decide (most < 0) = true := by simp [h0]
    have HF : Hid (LoosePost (fun v rest _ => OkCount most l v rest) (ErrCount most l) w r lo hi (.returned (.tuple #[.int .u64 0, .int .i64 2])) w) := .inr ⟨_, 2, .inl ⟨rfl, h0⟩, by decide, rfl, World.grownBy.refl w _⟩
    clear h hm1 hm2
    go_enter Try.func75, Try.ntmps75
    go_wp2_with fail
    go_ret2
    exact HF.out
  · have hd : decide (most < 0) = false := by simp; omega
    have h1 : 0 ≤ most := by omega
    have HC := Lib.hid (num_any r lo hi l w h)
    have H2 := Lib.hid hm2
    clear h h0 hm1
    go_enter Try.func75, Try.ntmps75
    go_wp2_with fail
    refine Calls.mono HC.out ?_
    rintro e w1 (⟨n, rest, hb, rfl, hr, hg⟩ | ⟨hno, rfl, _, hg⟩)
    · have hrest : Rd w1 r lo hi rest := hr
      by_cases hle : (n : Int) ≤ most
      · have hd2 : decide (most < (n : Int)) = false := by simp; omega
        have HF : Hid (LoosePost (fun v rest _ => OkCount most l v rest) (ErrCount most l) w r lo hi (.returned (.tuple #[.int .u64 (n : Int), .int .i64 0])) w1) := .inl ⟨_, rest, ⟨n, hb, hle, rfl⟩, rfl, hr, hg⟩
        clear hb hr hg hrest
        go_wp2_with fail
        go_ret2
        exact HF.out
      · have hd2 : decide (most < (n : Int)) = true := by simp; omega
        have HF : Hid (LoosePost (fun v rest _ => OkCount most l v rest) (ErrCount most l) w r lo hi (.returned (.tuple #[.int .u64 0, .int .i64 3])) w1) := .inr ⟨_, 3, .inr (.inr ⟨h1, rfl, n, rest, hb, by omega⟩), by decide, rfl, hg⟩
        clear hb hr hg hrest
        go_wp2_with fail
        go_ret2
        exact HF.out
    · have HF : Hid (LoosePost (fun v rest _ => OkCount most l v rest) (ErrCount most l) w r lo hi (.returned (.tuple #[.int .u64 0, .int .i64 4])) w1) := .inr ⟨_, 4, .inr (.inl ⟨h1, rfl, hno⟩), by decide, rfl, hg⟩
      clear hno hg
      go_wp2_with fail
      go_ret2
      exact HF.out
end Go.Proofs.Ytdggemdgndiafaa
