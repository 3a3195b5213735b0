/- Wmeth Wtext Wbytes Wyes Iplain Ord Iter, joined. -/
import Derived.Test.YtgflhbpmkcggnaaMa1
import Derived.OrdersHeld
import Derived.Tactics
import Derived.RangeFuncNested
import Derived.RangeFuncBound
import Derived.RangeFuncCalls
import Derived.RangeFuncLeaves
import Derived.RangeFuncBox
import Derived.Shelf.Abstract
import Derived.Shelf.RegionOpen
import Derived.OwnWalkIn
import Derived.TacticsInMore
import Derived.LoopNIn
import Derived.LoopIn

/- The readers of wire: Number, Signed, Flag, and what a count is. -/
namespace Go.Proofs.Ytgflhbpmkcggnaa
open Go.ChangeShapes Go.WideShapes Go.ChangeAt Go.RowKit

/-- No form of a number stands here. -/
def NoNum (l : List Nat) : Prop := ∀ n rest, ¬ Begins l n rest

def OkNum (l : List Nat) (v : Value) (rest : List Nat) (_ : World) : Prop := ∃ n, Begins l n rest ∧ v = .int .u64 (n : Int)
def ErrNum (l : List Nat) (n : Int) : Prop := n = 4 ∧ NoNum l

theorem num_loose (r lo hi : Nat) (l : List Nat) (w : World) (h : Rd w r lo hi l) :
    Calls Try.prog 102 #[.pointer (some ⟨r, 0, none⟩)] w (LoosePost (OkNum l) (ErrNum l) w r lo hi) := by
  refine (num_any r lo hi l w h).mono ?_
  rintro e w' (⟨n, rest, hb, rfl, hr, hg⟩ | ⟨hno, rfl, _, hg⟩)
  · exact .inl ⟨_, rest, ⟨n, hb, rfl⟩, rfl, hr, hg⟩
  · exact .inr ⟨_, 4, ⟨rfl, hno⟩, by decide, rfl, hg⟩

theorem holds_num (l : List Nat) (B : Nat) : Holds2 (OkNum l) B := fun _ _ _ _ _ _ h _ => h

set_option maxHeartbeats 400000 in
theorem Number_any (r lo hi : Nat) (l : List Nat) (w : World) (h : Rd w r lo hi l) :
    Calls Try.prog 94 #[.pointer (some ⟨r, 0, none⟩)] w (WholePost (.int .u64 0) (OkNum l) (ErrNum l) w r lo hi l) := by
  have HC := Lib.hid (whole_u64 (OkNum l) (ErrNum l) r lo hi l w h (holds_num l _) (fun v hv => num_loose _ lo hi l _ hv))
  clear h
  go_enter Try.func94, Try.ntmps94
  go_wp2_with fail
  refine Calls.mono HC.out ?_
  rintro e w1 (⟨v1, rest, hv, rfl, hrd, hg⟩ | ⟨n, hn, hn0, rfl, hrd, hg⟩)
  · have HF : Hid (WholePost (.int .u64 0) (OkNum l) (ErrNum l) w r lo hi l (.returned (.tuple #[v1, .int .i64 0])) w1) := .inl ⟨v1, rest, hv, rfl, hrd, hg⟩
    clear hv hrd hg
    go_wp2_with fail
    go_ret2
    exact HF.out
  · have HF : Hid (WholePost (.int .u64 0) (OkNum l) (ErrNum l) w r lo hi l (.returned (.tuple #[.int .u64 0, .int .i64 n])) w1) := .inr ⟨n, hn, hn0, rfl, hrd, hg⟩
    clear hn hn0 hrd hg
    go_wp2_with fail
    go_ret2
    exact HF.out

/-- A signed number that stands here. -/
def OkSig (l : List Nat) (v : Value) (rest : List Nat) (_ : World) : Prop := ∃ s : Int, -9223372036854775808 ≤ s ∧ s ≤ 9223372036854775807 ∧ Begins l (zz s) rest ∧ v = .int .i64 s

theorem ofInt_i64n (a : Nat) (ha : a < 9223372036854775808) : (BitVec.ofInt 64 (a : Int)).toNat = a := by
  rw [BitVec.ofInt_natCast, BitVec.toNat_ofNat]; exact Nat.mod_eq_of_lt (by omega)

theorem unzig (n : Nat) (h : n < 18446744073709551616) :
    ∃ s : Int, bits BinOp.xor IntKind.i64 (wrap64 ((n : Int) / 2)) (wrap64 (-wrap64 (bits BinOp.and IntKind.u64 (n : Int) 1))) = s ∧ -9223372036854775808 ≤ s ∧ s ≤ 9223372036854775807 ∧ zz s = n := by
  have e1 : bits BinOp.and IntKind.u64 (n : Int) 1 = ((n % 2 : Nat) : Int) := by
    have := u64_and_nat n 1 h (by omega)
    rw [nat_mask1] at this
    exact this
  have e2 : wrap64 ((n : Int) / 2) = ((n / 2 : Nat) : Int) := by unfold wrap64; omega
  rw [e1, e2]
  have hs : n / 2 < 9223372036854775808 := by omega
  rcases Nat.mod_two_eq_zero_or_one n with h2 | h2
  · have e3 : wrap64 (-wrap64 ((n % 2 : Nat) : Int)) = 0 := by rw [h2]; unfold wrap64; omega
    rw [e3]
    refine ⟨((n / 2 : Nat) : Int), ?_, by omega, by omega, ?_⟩
    · show IntKind.i64.wrap ((BitVec.ofInt 64 ((n / 2 : Nat) : Int) ^^^ BitVec.ofInt 64 0).toNat : Int) = _
      have e4 : BitVec.ofInt 64 0 = 0#64 := by rfl
      rw [e4, BitVec.xor_zero, ofInt_i64n _ hs, IntKind.wrap_i64]
      omega
    · unfold zz; rw [if_pos (by omega)]; omega
  · have e3 : wrap64 (-wrap64 ((n % 2 : Nat) : Int)) = -1 := by rw [h2]; unfold wrap64; omega
    rw [e3]
    refine ⟨-((n / 2 : Nat) : Int) - 1, ?_, by omega, by omega, ?_⟩
    · show IntKind.i64.wrap ((BitVec.ofInt 64 ((n / 2 : Nat) : Int) ^^^ BitVec.ofInt 64 (-1)).toNat : Int) = _
      have e4 : BitVec.ofInt 64 (-1) = BitVec.allOnes 64 := by decide
      rw [e4, BitVec.xor_allOnes, BitVec.toNat_not, ofInt_i64n _ hs, IntKind.wrap_i64]
      omega
    · unfold zz; rw [if_neg (by omega)]; omega

theorem holds_sig (l : List Nat) (B : Nat) : Holds2 (OkSig l) B := fun _ _ _ _ _ _ h _ => h

/-- A flag that stands here. -/
def OkFlag (l : List Nat) (v : Value) (rest : List Nat) (_ : World) : Prop := ∃ b : Bool, l = flagForm b ++ rest ∧ v = .bool b
def ErrFlag (l : List Nat) (n : Int) : Prop := n = 4 ∧ ∀ b rest, l ≠ flagForm b ++ rest

/-- A reader whose next bytes are taken off, in the world behind that store. -/
theorem rd_cut {w : World} {r lo hi c c2 : Nat} {l : List Nat} {A A2 : Option Addr} (k : Nat) (h : Rd w r lo hi l) (h1 : RObj w r (.slice A l.length c) true)
    (hc2 : l.length - k ≤ c2) (hcm : c2 ≤ maxLen) (hnil : A2 = none → c2 = 0) (hby : By w lo hi A2 (l.drop k)) :
    Rd (w.setCell ⟨r, 0, none⟩ (.slice A2 (l.length - k) c2)) r lo hi (l.drop k) := by
  have hl2 : (l.drop k).length = l.length - k := by simp
  have hap := h.apart
  have ht := h.top
  exact ⟨⟨_, h1.set _, A2, c2, by rw [hl2], by omega, hcm, hnil, Sl.setCell hby (by simpa using hap) _⟩, hap, by simpa [World.setCell] using ht, fun q hq => h.byt q (List.mem_of_mem_drop hq)⟩

theorem holds_flag (l : List Nat) (B : Nat) : Holds2 (OkFlag l) B := fun _ _ _ _ _ _ h _ => h

/-- A count: a number that stands here, at most so many. -/
def OkCount (most : Int) (l : List Nat) (v : Value) (rest : List Nat) : Prop := ∃ n : Nat, Begins l n rest ∧ (n : Int) ≤ most ∧ v = .int .u64 (n : Int)
/-- Why it is none, in the order in which it is asked. -/
def ErrCount (most : Int) (l : List Nat) (n : Int) : Prop := (n = 2 ∧ most < 0) ∨ (0 ≤ most ∧ n = 4 ∧ NoNum l) ∨ (0 ≤ most ∧ n = 3 ∧ ∃ m rest, Begins l m rest ∧ most < (m : Int))

set_option maxHeartbeats 800000 in
theorem count_loose (most : Int) (hm1 : -9223372036854775808 ≤ most) (hm2 : most ≤ 9223372036854775807) (r lo hi : Nat) (l : List Nat) (w : World) (h : Rd w r lo hi l) :
    Calls Try.prog 112 #[.pointer (some ⟨r, 0, none⟩), .int .i64 most] w (LoosePost (fun v rest _ => OkCount most l v rest) (ErrCount most l) w r lo hi) := by
  by_cases h0 : most < 0
  · have hd : decide (most < 0) = true := by simp [h0]
    have HF : Hid (LoosePost (fun v rest _ => OkCount most l v rest) (ErrCount most l) w r lo hi (.returned (.tuple #[.int .u64 0, .int .i64 2])) w) := .inr ⟨_, 2, .inl ⟨rfl, h0⟩, by decide, rfl, World.grownBy.refl w _⟩
    clear h hm1 hm2
    go_enter Try.func112, Try.ntmps112
    go_wp2_with fail
    go_ret2
    exact HF.out
  · have hd : decide (most < 0) = false := by simp; omega
    have h1 : 0 ≤ most := by omega
    have HC := Lib.hid (num_any r lo hi l w h)
    have H2 := Lib.hid hm2
    clear h h0 hm1
    go_enter Try.func112, Try.ntmps112
    go_wp2_with fail
    refine Calls.mono HC.out ?_
    rintro e w1 (⟨n, rest, hb, rfl, hr, hg⟩ | ⟨hno, rfl, _, hg⟩)
    · have hrest : Rd w1 r lo hi rest := hr
      by_cases hle : (n : Int) ≤ most
      · have hd2 : decide (most < (n : Int)) = false := by simp; omega
        have HF : Hid (LoosePost (fun v rest _ => OkCount most l v rest) (ErrCount most l) w r lo hi (.returned (.tuple #[.int .u64 (n : Int), .int .i64 0])) w1) := .inl ⟨_, rest, ⟨n, hb, hle, rfl⟩, rfl, hr, hg⟩
        clear hb hr hg hrest
        go_wp2_with fail
        go_ret2
        exact HF.out
      · have hd2 : decide (most < (n : Int)) = true := by simp; omega
        have HF : Hid (LoosePost (fun v rest _ => OkCount most l v rest) (ErrCount most l) w r lo hi (.returned (.tuple #[.int .u64 0, .int .i64 3])) w1) := .inr ⟨_, 3, .inr (.inr ⟨h1, rfl, n, rest, hb, by omega⟩), by decide, rfl, hg⟩
        clear hb hr hg hrest
        go_wp2_with fail
        go_ret2
        exact HF.out
    · have HF : Hid (LoosePost (fun v rest _ => OkCount most l v rest) (ErrCount most l) w r lo hi (.returned (.tuple #[.int .u64 0, .int .i64 4])) w1) := .inr ⟨_, 4, .inr (.inl ⟨h1, rfl, hno⟩), by decide, rfl, hg⟩
      clear hno hg
      go_wp2_with fail
      go_ret2
      exact HF.out
end Go.Proofs.Ytgflhbpmkcggnaa

/- The reader of bytes. -/
namespace Go.Proofs.Ytgflhbpmkcggnaa
open Go.ChangeShapes Go.WideShapes Go.ChangeAt Go.RowKit

/-- Bytes that stand here, in new memory from block B on. -/
def OkText (B : Nat) (most : Int) (l : List Nat) (v : Value) (rest : List Nat) (w : World) : Prop :=
  ∃ bs : List Nat, (bs.length : Int) ≤ most ∧ U64 bs.length ∧ l = bytesForm bs ++ rest ∧ w.ownsRow B 5 1 v bs.length (bv bs)
def ErrText (most : Int) (l : List Nat) (n : Int) : Prop := ErrCount most l n ∨ (n = 4 ∧ ∃ m rest, Begins l m rest ∧ (m : Int) ≤ most ∧ rest.length < m)

theorem holds_text (B : Nat) (most : Int) (l : List Nat) (B' : Nat) (h : B' ≤ B) : Holds2 (OkText B most l) B' := by
  rintro v rest w b o u ⟨bs, h1, h2, h3, h4⟩ hb
  exact ⟨bs, h1, h2, h3, ownsRow_setCell_below h4 (by simpa using Nat.lt_of_lt_of_le hb h) u⟩

set_option maxHeartbeats 1000000 in
theorem text_loose (most : Int) (hm1 : -9223372036854775808 ≤ most) (hm2 : most ≤ 9223372036854775807) (r lo hi : Nat) (l : List Nat) (w : World) (h : Rd w r lo hi l) (hl : l.length ≤ 1000000000000) :
    Calls Try.prog 105 #[.pointer (some ⟨r, 0, none⟩), .int .i64 most] w (LoosePost (OkText w.heap.size most l) (ErrText most l) w r lo hi) := by
  have HC := Lib.hid (count_loose most hm1 hm2 r lo hi l w h)
  have HL := Lib.hid hl
  have HR0 := Lib.hid h
  clear h hm1 hm2 hl
  go_enter Try.func105, Try.ntmps105
  go_wp2_with fail
  refine Calls.mono HC.out ?_
  rintro e w1 (⟨v, rest, ⟨n, hb, hle, rfl⟩, rfl, hr, hg⟩ | ⟨v, n, hn, hn0, rfl, hg⟩)
  · obtain ⟨v1, h1, A, c, rfl, hlc, hcm, hnil, hby⟩ := hr.ex
    have c0 := h1.c0
    have f0 := h1.f0
    have hlr : rest.length ≤ l.length := by have := congrArg List.length hb.eq; simp at this; omega
    have hlI : (rest.length : Int) ≤ 1000000000000 := by have := HL.out; omega
    have H1 := Lib.hid h1
    have HR := Lib.hid hr
    have HB := Lib.hid hb
    have HG := Lib.hid hg
    have HLC := Lib.hid hlc
    have HCM := Lib.hid hcm
    have HLE := Lib.hid hle
    clear h1 hr hb hg hlc hcm hlr hle
    by_cases hlt : rest.length < n
    · have hd : decide (rest.length < n) = true := by simp [hlt]
      have hd2 : decide ((rest.length : Int) < (n : Int)) = true := by simp; omega
      have HF : Hid (LoosePost (OkText w.heap.size most l) (ErrText most l) w r lo hi (.returned (.tuple #[.slice none 0 0, .int .i64 4])) w1) := .inr ⟨_, 4, .inr ⟨rfl, n, rest, HB.out, HLE.out, hlt⟩, by decide, rfl, HG.out⟩
      go_wp2_with fail
      go_ret2
      exact HF.out
    · have hd : decide (rest.length < n) = false := by simp; omega
      have hd2 : decide ((rest.length : Int) < (n : Int)) = false := by simp; omega
      obtain ⟨A1, hA1, hA1n, hrun1⟩ := head_run .u64 A rest.length c n (by omega) HLC.out
      obtain ⟨A2, hA2, hA2n, hrun2⟩ := tail_run' .u64 A rest.length c n (by omega) HLC.out
      have hnl : (rest.take n).length = n := by simp; omega
      have hbs1 : Bs w1 lo hi (.slice A1 n c) (rest.take n) := ⟨A1, c, by rw [hnl], by rw [hnl]; have := HLC.out; omega, HCM.out, fun h => hnil (hA1n h), hA1 rest rfl _ _ _ hby⟩
      have HK := Lib.hid (clone_any _ lo hi _ w1 hbs1 HR.out.top (by have := HL.out; omega))
      have H2 := Lib.hid (hA2 rest rfl w1 lo hi hby)
      have H2n := Lib.hid (fun h => hnil (hA2n h))
      clear hbs1 hA1 hA1n hA2 hA2n hby hnil
      go_wp2_with fail
      refine Calls.mono HK.out ?_
      rintro e w2 ⟨v2, rfl, hown, hbel⟩
      have hsz := HG.out.size
      have hr1 : Rd w2 r lo hi rest := HR.out.below hbel HR.out.top HR.out.lt
      have h2 : RObj w2 r (.slice A rest.length c) true := H1.out.below hbel HR.out.lt
      have hfin : LoosePost (OkText w.heap.size most l) (ErrText most l) w r lo hi (.returned (.tuple #[v2, .int .i64 0])) (w2.setCell ⟨r, 0, none⟩ (.slice A2 (rest.length - n) (c - n))) := by
        have hlc := HLC.out
        have hcm := HCM.out
        have hrlt := HR0.out.lt
        refine .inl ⟨v2, rest.drop n, ⟨rest.take n, by rw [hnl]; exact HLE.out, by rw [hnl]; exact HB.out.n64, ?_, ?_⟩, rfl, rd_cut n hr1 h2 (by omega) (by omega) (fun h => by have := H2n.out h; omega) (Sl.below H2.out hbel HR.out.top), ?_⟩
        · unfold bytesForm
          rw [hnl, List.append_assoc, List.take_append_drop]
          exact HB.out.eq
        · exact ownsRow_setCell_below (own_lower hown hsz) (by simpa using hrlt) _
        · have g1 := HG.out
          refine ⟨hbel.os.trans g1.os, hbel.tape.trans g1.tape, hbel.output.trans g1.output, ?_, fun i hi hne => ?_⟩
          · have := hbel.size; simp [World.setCell]; omega
          · rw [Below.heap_setCell _ _ _ _ (by rintro rfl; exact hne rfl), hbel.block i (by omega)]
            exact g1.block i hi hne
      have HF := Lib.hid hfin
      have c0' := h2.c0
      have f0' := h2.f0
      obtain ⟨A3, c3, rfl, _, _, _, _⟩ := Sl.of_own hown
      rw [hnl] at HF
      clear hfin hr1 h2 hown
      go_wp2_with fail
      go_ret2
      exact HF.out
  · have HF : Hid (LoosePost (OkText w.heap.size most l) (ErrText most l) w r lo hi (.returned (.tuple #[.slice none 0 0, .int .i64 n])) w1) := .inr ⟨_, n, .inl hn, hn0, rfl, hg⟩
    have hn0' : (n != 0) = true := by simpa using hn0
    clear hn hg hn0
    go_wp2_with fail
    go_ret2
    exact HF.out
end Go.Proofs.Ytgflhbpmkcggnaa

/- The method Bytes: the closure that it hands to whole. -/
namespace Go.Proofs.Ytgflhbpmkcggnaa
open Go.ChangeShapes Go.WideShapes Go.ChangeAt Go.RowKit

theorem grown_alloc {w w' : World} {o : Obj} {row : Option Nat} (h : (w.alloc o).grownBy w' row) : w.grownBy w' row :=
  ⟨h.os, h.tape, h.output, by have := h.size; simp at this; omega, fun i hi hne => (h.block i (by simp; omega) hne).trans (Below.heap_alloc w o i hi)⟩

theorem WholePost.weaken {zero : Value} {ok ok' : Value → List Nat → World → Prop} {err err' : Int → Prop} {w wa : World} {r lo hi : Nat} {l : List Nat} (hok : ∀ v rest w', ok v rest w' → ok' v rest w') (herr : ∀ n, err n → err' n)
    (hg : ∀ w', wa.grownBy w' (some r) → w.grownBy w' (some r)) {e : Ending} {w' : World} (h : WholePost zero ok err wa r lo hi l e w') : WholePost zero ok' err' w r lo hi l e w' := by
  rcases h with ⟨v, rest, h1, h2, h3, h4⟩ | ⟨n, h1, h2, h3, h4, h5⟩
  · exact .inl ⟨v, rest, hok _ _ _ h1, h2, h3, hg _ h4⟩
  · exact .inr ⟨n, herr _ h1, h2, h3, h4, hg _ h5⟩

theorem mkf (fn : Fn) (first cap : Array Value) (w : World) : (Instr.makeFunc fn first cap).run Try.prog w = .ok (.func fn first cap) w := rfl

set_option maxHeartbeats 400000 in
theorem bytes_clo (p : Nat) (most : Int) (hm1 : -9223372036854775808 ≤ most) (hm2 : most ≤ 9223372036854775807) (r lo hi : Nat) (l : List Nat) (w : World) (h : Rd w r lo hi l) (hl : l.length ≤ 1000000000000)
    (hp : w.cell? ⟨p, 0, none⟩ = some (.int .i64 most)) :
    Calls Try.prog 104 #[.pointer (some ⟨r, 0, none⟩), .pointer (some ⟨p, 0, none⟩)] w (LoosePost (OkText w.heap.size most l) (ErrText most l) w r lo hi) := by
  have HC := Lib.hid (text_loose most hm1 hm2 r lo hi l w h hl)
  clear h hl hm1 hm2
  go_enter Try.func104, Try.ntmps104
  go_wp2_with fail
  refine Calls.mono HC.out ?_
  rintro e w1 (⟨v1, rest, hv, rfl, hrd, hg⟩ | ⟨v1, n, hn, hn0, rfl, hg⟩)
  · have HF : Hid (LoosePost (OkText w.heap.size most l) (ErrText most l) w r lo hi (.returned (.tuple #[v1, .int .i64 0])) w1) := .inl ⟨v1, rest, hv, rfl, hrd, hg⟩
    clear hv hrd hg
    go_wp2_with fail
    go_ret2
    exact HF.out
  · have HF : Hid (LoosePost (OkText w.heap.size most l) (ErrText most l) w r lo hi (.returned (.tuple #[v1, .int .i64 n])) w1) := .inr ⟨v1, n, hn, hn0, rfl, hg⟩
    clear hn hn0 hg
    go_wp2_with fail
    go_ret2
    exact HF.out

set_option maxHeartbeats 400000 in
theorem Bytes_any (most : Int) (hm1 : -9223372036854775808 ≤ most) (hm2 : most ≤ 9223372036854775807) (r lo hi : Nat) (l : List Nat) (w : World) (h : Rd w r lo hi l) (hl : l.length ≤ 1000000000000) :
    Calls Try.prog 95 #[.pointer (some ⟨r, 0, none⟩), .int .i64 most] w (WholePost (.slice none 0 0) (OkText w.heap.size most l) (ErrText most l) w r lo hi l) := by
  have hmf := mkf
  have HC := Lib.hid (whole_bytes w.heap.size (OkText (w.heap.size + 3) most l) (ErrText most l) r lo hi l (w.alloc (.cells #[.int .i64 most] 3)) (h.alloc _)
    (holds_text _ _ _ _ (by simp)) (fun v hv => by
      have hc := bytes_clo w.heap.size most hm1 hm2 _ lo hi l _ hv hl (by
        rw [World.cell?_alloc_past _ _ _ (by simp; omega), World.cell?_alloc_past _ _ _ (by simp), World.cell?_alloc_at _ _ _ _ rfl]; rfl)
      simpa using hc))
  clear h hm1 hm2 hl
  go_enter Try.func95, Try.ntmps95
  go_wp2_with fail
  refine Calls.mono HC.out ?_
  intro e w1 hpost
  have hpost := WholePost.weaken (ok' := OkText w.heap.size most l) (err' := ErrText most l) (w := w)
    (fun v rest w' => by rintro ⟨bs, h1, h2, h3, h4⟩; exact ⟨bs, h1, h2, h3, own_lower h4 (by omega)⟩) (fun _ h => h) (fun w' hg => grown_alloc hg) hpost
  have HP := Lib.hid hpost
  rcases hpost with ⟨v1, rest, _, rfl, _, _⟩ | ⟨n, _, _, rfl, _, _⟩
  · go_wp2_with fail
    go_ret2
    exact HP.out
  · go_wp2_with fail
    go_ret2
    exact HP.out
end Go.Proofs.Ytgflhbpmkcggnaa

/- The readers where it is known what stands there, or that it does not. -/
namespace Go.Proofs.Ytgflhbpmkcggnaa
open Go.ChangeShapes Go.WideShapes Go.ChangeAt Go.RowKit

/-- Read: this answer, these bytes left; only the reader's block has turned, beside new ones. -/
structure Gone (w : World) (r lo hi : Nat) (v : Value) (n : Int) (rest : List Nat) (e : Ending) (w' : World) : Prop where
  ans : e = .returned (.tuple #[v, .int .i64 n])
  rd : Rd w' r lo hi rest
  grown : w.grownBy w' (some r)

theorem Number_yes {r lo hi : Nat} {l : List Nat} {w : World} (h : Rd w r lo hi l) {n : Nat} {rest : List Nat} (hb : Begins l n rest) :
    Calls Try.prog 94 #[.pointer (some ⟨r, 0, none⟩)] w (Gone w r lo hi (.int .u64 (n : Int)) 0 rest) := by
  refine (Number_any r lo hi l w h).mono ?_
  rintro e w' (⟨v, rest', ⟨n', hb', rfl⟩, rfl, hr, hg⟩ | ⟨k, ⟨_, hno⟩, _⟩)
  · obtain ⟨rfl, rfl⟩ := hb'.unique hb
    exact ⟨rfl, hr, hg⟩
  · exact absurd hb (hno _ _)
theorem Number_no {r lo hi : Nat} {l : List Nat} {w : World} (h : Rd w r lo hi l) (hn : NoNum l) :
    Calls Try.prog 94 #[.pointer (some ⟨r, 0, none⟩)] w (Gone w r lo hi (.int .u64 0) 4 l) := by
  refine (Number_any r lo hi l w h).mono ?_
  rintro e w' (⟨v, rest', ⟨n', hb', rfl⟩, rfl, hr, hg⟩ | ⟨k, ⟨rfl, hno⟩, _, rfl, hr, hg⟩)
  · exact absurd hb' (hn _ _)
  · exact ⟨rfl, hr, hg⟩

theorem zz_inj {a b : Int} (h : zz a = zz b) : a = b := by
  rcases Int.lt_or_le a 0 with h1 | h1 <;> rcases Int.lt_or_le b 0 with h2 | h2
  · have := zz_neg h1; have := zz_neg h2; omega
  · have := zz_neg h1; have := zz_pos h2; omega
  · have := zz_pos h1; have := zz_neg h2; omega
  · have := zz_pos h1; have := zz_pos h2; omega

theorem flagForm_inj {a b : Bool} {r r' : List Nat} (h : flagForm a ++ r = flagForm b ++ r') : a = b ∧ r = r' := by
  cases a <;> cases b <;> simp [flagForm] at h <;> simp [h]

theorem begins_bytes {bs rest : List Nat} (h : U64 bs.length) : Begins (bytesForm bs ++ rest) bs.length (bs ++ rest) := ⟨h, by simp [bytesForm]⟩

/-- Bytes that were read: in new memory. -/
def GoneBy (w : World) (r lo hi : Nat) (bs rest : List Nat) (e : Ending) (w' : World) : Prop :=
  ∃ v, Gone w r lo hi v 0 rest e w' ∧ w'.ownsRow w.heap.size 5 1 v bs.length (bv bs)

theorem Bytes_yes {r lo hi : Nat} {l : List Nat} {w : World} (h : Rd w r lo hi l) (hl : l.length ≤ 1000000000000) {most : Int} (hm2 : most ≤ 9223372036854775807) {bs rest : List Nat} (hb : l = bytesForm bs ++ rest) (h64 : U64 bs.length) (hm : (bs.length : Int) ≤ most) :
    Calls Try.prog 95 #[.pointer (some ⟨r, 0, none⟩), .int .i64 most] w (GoneBy w r lo hi bs rest) := by
  refine (Bytes_any most (by omega) hm2 r lo hi l w h hl).mono ?_
  have hbg : Begins l bs.length (bs ++ rest) := by rw [hb]; exact begins_bytes h64
  rintro e w' (⟨v, rest', ⟨bs', h1, h2, h3, h4⟩, rfl, hr, hg⟩ | ⟨k, herr, _⟩)
  · have hbg' : Begins l bs'.length (bs' ++ rest') := by rw [h3]; exact begins_bytes h2
    obtain ⟨e1, e2⟩ := hbg'.unique hbg
    obtain ⟨rfl, rfl⟩ := List.append_inj e2 e1
    exact ⟨v, ⟨rfl, hr, hg⟩, h4⟩
  · exfalso
    rcases herr with ((⟨_, h⟩ | ⟨_, _, h⟩ | ⟨_, _, m, rest, h1, h2⟩) | ⟨_, m, rest, h1, h2, h3⟩)
    · omega
    · exact h _ _ hbg
    · obtain ⟨rfl, rfl⟩ := h1.unique hbg; omega
    · obtain ⟨rfl, rfl⟩ := h1.unique hbg; simp at h3; omega
/-- Beside an error: which one. -/
theorem Bytes_no {r lo hi : Nat} {l : List Nat} {w : World} (h : Rd w r lo hi l) (hl : l.length ≤ 1000000000000) {most : Int} (hm1 : -9223372036854775808 ≤ most) (hm2 : most ≤ 9223372036854775807) {k : Int}
    (herr : ErrText most l k) : Calls Try.prog 95 #[.pointer (some ⟨r, 0, none⟩), .int .i64 most] w (Gone w r lo hi (.slice none 0 0) k l) := by
  refine (Bytes_any most hm1 hm2 r lo hi l w h hl).mono ?_
  rintro e w' (⟨v, rest', ⟨bs', h1, h2, h3, h4⟩, rfl, hr, hg⟩ | ⟨k', herr', _, rfl, hr, hg⟩)
  · exfalso
    have hbg : Begins l bs'.length (bs' ++ rest') := by rw [h3]; exact begins_bytes h2
    rcases herr with ((⟨_, h⟩ | ⟨_, _, h⟩ | ⟨_, _, m, rest, h1, h2⟩) | ⟨_, m, rest, h1, h2, h3⟩)
    · omega
    · exact h _ _ hbg
    · obtain ⟨rfl, rfl⟩ := h1.unique hbg; omega
    · obtain ⟨rfl, rfl⟩ := h1.unique hbg; simp at h3; omega
  · have e : k' = k := by
      rcases herr with ((⟨_, h⟩ | ⟨_, _, h⟩ | ⟨_, _, m, rest, h1, h2⟩) | ⟨_, m, rest, h1, h2, h3⟩) <;>
      rcases herr' with ((⟨_, h'⟩ | ⟨_, _, h'⟩ | ⟨_, _, m', rest', h1', h2'⟩) | ⟨_, m', rest', h1', h2', h3'⟩)
      all_goals first
        | omega
        | exact absurd h1 (h' _ _)
        | exact absurd h1' (h _ _)
        | (obtain ⟨rfl, rfl⟩ := h1.unique h1'; omega)
    subst e
    exact ⟨rfl, hr, hg⟩
end Go.Proofs.Ytgflhbpmkcggnaa

/- Plain mathematics of entries: which may be, their order, their bytes (no function of the program). -/
namespace Go.Proofs.Ytgflhbpmkcggnaa

/-- An entry. -/
structure Ent where
  key : List Nat
  seq : Int
  kind : Int
  val : List Nat
/-- May it be, by how long its parts are? -/
def mayN (kn : Nat) (s d : Int) (vn : Nat) : Bool := decide (1 ≤ kn) && decide (kn ≤ 32) && decide (1 ≤ s) && decide (s ≤ 2147483647) && (decide (d = 1) && decide (vn ≤ 65536) || decide (d = 2) && decide (vn = 0))
def Ent.may (e : Ent) : Bool := mayN e.key.length e.seq e.kind e.val.length
theorem mayN_iff {kn : Nat} {s d : Int} {vn : Nat} : mayN kn s d vn = true ↔ 1 ≤ kn ∧ kn ≤ 32 ∧ 1 ≤ s ∧ s ≤ 2147483647 ∧ (d = 1 ∧ vn ≤ 65536 ∨ d = 2 ∧ vn = 0) := by
  unfold mayN
  simp only [Bool.and_eq_true, Bool.or_eq_true, decide_eq_true_eq, and_assoc]
/-- An entry's bytes. -/
def Ent.form (e : Ent) : List Nat := bytesForm e.key ++ (Go.Proofs.Ytgflhbpmkcggnaa.form e.seq.toNat ++ (Go.Proofs.Ytgflhbpmkcggnaa.form e.kind.toNat ++ (if e.kind = 1 then bytesForm e.val else [])))

theorem bytesForm_cut {a b r r' : List Nat} (ha : U64 a.length) (hb : U64 b.length) (h : bytesForm a ++ r = bytesForm b ++ r') : a = b ∧ r = r' := by
  unfold bytesForm at h
  rw [List.append_assoc, List.append_assoc] at h
  obtain ⟨e1, e2⟩ := Begins.unique (l := form a.length ++ (a ++ r)) ⟨ha, rfl⟩ ⟨hb, h⟩
  exact List.append_inj e2 e1
theorem form_cut {a b : Nat} {r r' : List Nat} (ha : U64 a) (hb : U64 b) (h : form a ++ r = form b ++ r') : a = b ∧ r = r' :=
  Begins.unique (l := form a ++ r) ⟨ha, rfl⟩ ⟨hb, h⟩

/-- The entry of which these are the bytes. -/
def IsE (b : List Nat) (e : Ent) : Prop := e.may = true ∧ e.form = b
theorem Ent.may_u64 {e : Ent} (h : e.may = true) : U64 e.key.length ∧ U64 e.seq.toNat ∧ U64 e.kind.toNat ∧ U64 e.val.length := by
  obtain ⟨h1, h2, h3, h4, h5⟩ := mayN_iff.1 h
  refine ⟨⟨by omega⟩, ⟨by omega⟩, ⟨?_⟩, ⟨?_⟩⟩ <;> rcases h5 with ⟨h5, h6⟩ | ⟨h5, h6⟩ <;> omega
theorem IsE.unique {b : List Nat} {e e' : Ent} (h : IsE b e) (h' : IsE b e') : e = e' := by
  obtain ⟨u1, u2, u3, u4⟩ := Ent.may_u64 h.1
  obtain ⟨v1, v2, v3, v4⟩ := Ent.may_u64 h'.1
  have hh := h.2.trans h'.2.symm
  unfold Ent.form at hh
  obtain ⟨e1, hh⟩ := bytesForm_cut u1 v1 hh
  obtain ⟨e2, hh⟩ := form_cut u2 v2 hh
  obtain ⟨e3, hh⟩ := form_cut u3 v3 hh
  obtain ⟨a1, a2, a3, a4, a5⟩ := mayN_iff.1 h.1
  obtain ⟨b1, b2, b3, b4, b5⟩ := mayN_iff.1 h'.1
  have k0 : e.kind = e'.kind := by rcases a5 with ⟨a, _⟩ | ⟨a, _⟩ <;> rcases b5 with ⟨b, _⟩ | ⟨b, _⟩ <;> omega
  have s0 : e.seq = e'.seq := by omega
  have w0 : e.val = e'.val := by
    rcases a5 with ⟨a, _⟩ | ⟨a, an⟩
    · rw [if_pos a, if_pos (k0.symm.trans a)] at hh
      exact (bytesForm_cut (r := []) (r' := []) u4 v4 (by simpa using hh)).1
    · rcases b5 with ⟨b, _⟩ | ⟨b, bn⟩
      · omega
      · rw [List.eq_nil_of_length_eq_zero an, List.eq_nil_of_length_eq_zero bn]
  cases e; cases e'; simp_all
theorem bytesForm_len {l : List Nat} (h : U64 l.length) : (bytesForm l).length ≤ l.length + 10 ∧ l.length < (bytesForm l).length := by
  have h1 := form_len64 h
  have h2 : (form l.length) ≠ [] := by
    by_cases h0 : l.length < 128
    · rw [form_lo h0]; simp
    · rw [form_hi h0]; simp
  have h3 : 0 < (form l.length).length := List.length_pos_iff.2 h2
  unfold bytesForm
  rw [List.length_append]
  omega
theorem Ent.form_len {e : Ent} (h : e.may = true) : e.form.length ≤ 65700 := by
  obtain ⟨u1, u2, u3, u4⟩ := Ent.may_u64 h
  obtain ⟨h1, h2, h3, h4, h5⟩ := mayN_iff.1 h
  have a1 := (bytesForm_len u1).1
  have a2 := form_len64 u2
  have a3 := form_len64 u3
  have a4 := (bytesForm_len u4).1
  unfold Ent.form
  split <;> simp only [List.length_append, List.length_nil] <;> rcases h5 with ⟨h5, h6⟩ | ⟨h5, h6⟩ <;> omega
theorem Ent.form_lt {e : Ent} (hk : ∀ x ∈ e.key, x < 256) (hv : ∀ x ∈ e.val, x < 256) : ∀ x ∈ e.form, x < 256 := by
  intro x hx
  unfold Ent.form bytesForm at hx
  simp only [List.mem_append] at hx
  rcases hx with (hx | hx) | hx | hx | hx
  · exact form_bytes _ x hx
  · exact hk x hx
  · exact form_bytes _ x hx
  · exact form_bytes _ x hx
  · split at hx
    · rcases List.mem_append.1 hx with hx | hx
      · exact form_bytes _ x hx
      · exact hv x hx
    · cases hx

/-- Two keys, by their bytes. -/
def cmpK : List Nat → List Nat → Int
  | [], [] => 0
  | [], _ :: _ => -1
  | _ :: _, [] => 1
  | a :: l, b :: bs => if a < b then -1 else if b < a then 1 else cmpK l bs
theorem cmpK_self (a : List Nat) : cmpK a a = 0 := by
  induction a with
  | nil => rfl
  | cons a l ih => simp [cmpK, ih]
theorem cmpK_zero {a b : List Nat} (h : cmpK a b = 0) : a = b := by
  induction a generalizing b with
  | nil => cases b with
    | nil => rfl
    | cons b bs => simp [cmpK] at h
  | cons a l ih =>
    cases b with
    | nil => simp [cmpK] at h
    | cons b bs =>
      simp only [cmpK] at h
      split at h
      · omega
      · split at h
        · omega
        · rw [ih h, show a = b by omega]
theorem cmpK_turn (a b : List Nat) : cmpK b a = -cmpK a b := by
  induction a generalizing b with
  | nil => cases b <;> simp [cmpK]
  | cons a l ih =>
    cases b with
    | nil => simp [cmpK]
    | cons b bs =>
      simp only [cmpK]
      rcases Nat.lt_trichotomy a b with h | h | h
      · rw [if_neg (by omega), if_pos h, if_pos h]; rfl
      · rw [if_neg (by omega), if_neg (by omega), if_neg (by omega), if_neg (by omega)]; exact ih bs
      · rw [if_pos h, if_neg (by omega), if_pos h]
theorem cmpK_range (a b : List Nat) : cmpK a b = -1 ∨ cmpK a b = 0 ∨ cmpK a b = 1 := by
  induction a generalizing b with
  | nil => cases b <;> simp [cmpK]
  | cons a l ih =>
    cases b with
    | nil => simp [cmpK]
    | cons b bs =>
      simp only [cmpK]
      split
      · exact .inl rfl
      · split
        · exact .inr (.inr rfl)
        · exact ih bs
theorem cmpK_lt_trans {a b c : List Nat} (h : cmpK a b = -1) (k : cmpK b c = -1) : cmpK a c = -1 := by
  induction a generalizing b c with
  | nil => cases c with
    | nil => cases b <;> simp [cmpK] at h k
    | cons c cs => rfl
  | cons a l ih =>
    cases b with
    | nil => simp [cmpK] at h
    | cons b bs =>
      cases c with
      | nil => simp [cmpK] at k
      | cons c cs =>
        simp only [cmpK] at h k ⊢
        split at h
        · split at k
          · rw [if_pos (by omega)]
          · split at k
            · omega
            · rw [if_pos (by omega)]
        · split at h
          · omega
          · split at k
            · rw [if_pos (by omega)]
            · split at k
              · omega
              · rw [if_neg (by omega), if_neg (by omega)]; exact ih h k

/-- Two numbers, the greater one first. -/
def cmpS (s t : Int) : Int := if t < s then -1 else if s < t then 1 else 0
/-- Two entries, by their places. -/
def cmpE (a b : Ent) : Int := if cmpK a.key b.key = 0 then cmpS a.seq b.seq else cmpK a.key b.key
theorem cmpE_range (a b : Ent) : cmpE a b = -1 ∨ cmpE a b = 0 ∨ cmpE a b = 1 := by
  unfold cmpE
  split
  · unfold cmpS; split
    · exact .inl rfl
    · split
      · exact .inr (.inr rfl)
      · exact .inr (.inl rfl)
  · exact cmpK_range _ _
theorem cmpE_turn (a b : Ent) : cmpE b a = -cmpE a b := by
  unfold cmpE
  rw [cmpK_turn a.key b.key]
  by_cases h : cmpK a.key b.key = 0
  · rw [if_pos (by omega), if_pos h]
    unfold cmpS
    repeat' split
    all_goals omega
  · rw [if_neg (by omega), if_neg h]
theorem cmpE_zero {a b : Ent} : cmpE a b = 0 ↔ a.key = b.key ∧ a.seq = b.seq := by
  unfold cmpE
  constructor
  · intro h
    split at h
    · rename_i hk
      refine ⟨cmpK_zero hk, ?_⟩
      unfold cmpS at h
      split at h
      · omega
      · split at h
        · omega
        · omega
    · contradiction
  · rintro ⟨h1, h2⟩
    rw [h1, h2, cmpK_self, if_pos rfl]
    simp [cmpS]
theorem cmpE_lt_trans {a b c : Ent} (h : cmpE a b = -1) (k : cmpE b c = -1) : cmpE a c = -1 := by
  unfold cmpE at *
  by_cases h1 : cmpK a.key b.key = 0
  · rw [if_pos h1] at h
    rw [cmpK_zero h1]
    by_cases k1 : cmpK b.key c.key = 0
    · rw [if_pos k1] at k ⊢
      unfold cmpS at *
      split at h <;> split at k <;> (try split at h) <;> (try split at k) <;> (try omega)
    · rw [if_neg k1] at k ⊢
      exact k
  · rw [if_neg h1] at h
    by_cases k1 : cmpK b.key c.key = 0
    · rw [← cmpK_zero k1, if_neg h1]; exact h
    · rw [if_neg k1] at k
      have := cmpK_lt_trans h k
      rw [if_neg (by omega)]; exact this
/-- Three in a row. -/
theorem cmpE_row {a b c : Ent} (h : cmpE a b ≤ 0) (k : cmpE b c ≤ 0) : cmpE a c ≤ 0 := by
  by_cases h1 : cmpE a b = 0
  · obtain ⟨e1, e2⟩ := cmpE_zero.1 h1
    have : cmpE a c = cmpE b c := by unfold cmpE; rw [e1, e2]
    omega
  · by_cases k1 : cmpE b c = 0
    · obtain ⟨e1, e2⟩ := cmpE_zero.1 k1
      have : cmpE a c = cmpE a b := by unfold cmpE; rw [e1, e2]
      omega
    · have h2 := cmpE_range a b
      have k2 := cmpE_range b c
      have := cmpE_lt_trans (a := a) (b := b) (c := c) (by omega) (by omega)
      omega
end Go.Proofs.Ytgflhbpmkcggnaa

/- A region that draws its order, walked in the order of its text: an operation that reads may come whenever it likes, for what it reads stays as it is in every later world; what makes memory comes up alone. -/
namespace Go.Proofs.Ytgflhbpmkcggnaa
open Go.RowKit

/-- A later world: what was there is as it was. -/
def Ext (w w' : World) : Prop := Below w.heap.size w w'
theorem Ext.refl (w : World) : Ext w w := Below.refl _ _
theorem Ext.trans {a b c : World} (h : Ext a b) (k : Ext b c) : Ext a c := Below.trans h (Below.mono k h.size)
theorem Ext.drew (w : World) : Ext w w.drew := (Below.refl _ _).drew

section
variable {P : Program} {ops : Array Oper} {Q : Exit → Act → World → Prop}

/-- Whatever comes up next, the world behind it is a later one, and so on. -/
def Later (P : Program) (ops : Array Oper) (Q : Exit → Act → World → Prop) : Nat → Array Bool → Act → World → Prop
  | 0, seen, a, w => Region.ready .any ops seen = [] ∧ Q .normal a w
  | n + 1, seen, a, w => (Region.ready .any ops seen = [] → Q .normal a w) ∧
      ∀ i ∈ Region.ready .any ops seen, wpOp P ops Q i (fun b u => Ext w u ∧ Later P ops Q n (seen.setIfInBounds i true) b u) a w

theorem Later.any : ∀ (n : Nat) (seen : Array Bool) (a : Act) (w : World), Later P ops Q n seen a w → wpAny P .any ops Q n seen a w := by
  intro n
  induction n with
  | zero => intro seen a w h; exact h
  | succ n ih => intro seen a w h; exact ⟨h.1, fun i hi => wpOp_mono (fun b u hb => ih _ b u hb.2) (h.2 i hi)⟩

theorem yields_later {o : Oper} {v : Value} {a : Act} {w u : World} (h : YieldsIf P ops (Ext w) o v a) (hu : Ext w u) : YieldsIf P ops (Ext u) o v a := by
  rcases h with ⟨h1, h2⟩ | h
  · exact .inl ⟨h1, fun x hx => h2 x (hu.trans hx)⟩
  · exact .inr h

/-- A reading may be done first. -/
theorem Later.first {i : Nat} {oi : Oper} {v : Value} (hi : ops[i]? = some oi) (hsel : Region.noSelect ops = true) (hQ : ∀ c a w, Q (.panic c) (a.put oi.dst v) w → Q (.panic c) a w) :
    ∀ (n : Nat) (seen : Array Bool) (a : Act) (w : World), Region.free .any ops seen i = true → i ∈ Region.ready .any ops seen → YieldsIf P ops (Ext w) oi v a →
      (∀ j oj, ops[j]? = some oj → j ≠ i → seen.getD j true = false → (∀ e ∈ oj.after, Region.binds .any e = true → e.on ≠ i) → oi.apart ops oj = true) →
      Later P ops Q n (seen.setIfInBounds i true) (a.put oi.dst v) w → Later P ops Q (n + 1) seen a w := by
  intro n
  induction n with
  | zero =>
    intro seen a w _ hr hy _ H
    refine ⟨fun h => absurd hr (by rw [h]; simp), fun j hj => ?_⟩
    rcases Decidable.em (j = i) with e | e
    · subst e
      exact YieldsIf.wpOp hi hy (Ext.refl w) ⟨Ext.refl w, H⟩
    · have h1 := ready_mono hj e
      rw [H.1] at h1
      cases h1
  | succ n ih =>
    intro seen a w hf hr hy hap H
    refine ⟨fun h => absurd hr (by rw [h]; simp), fun j hj => ?_⟩
    rcases Decidable.em (j = i) with e | e
    · subst e
      exact YieldsIf.wpOp hi hy (Ext.refl w) ⟨Ext.refl w, H⟩
    · obtain ⟨hun, oj, hoj, hall⟩ := mem_ready.1 hj
      have hun' : seen.getD i false = false := by
        have h0 := (mem_ready.1 hr).1
        rcases Nat.lt_or_ge i seen.size with hlt | hge
        · simp [hlt] at h0 ⊢; exact h0
        · simp [Array.getElem?_eq_none hge]
      have hno : ∀ e ∈ oj.after, Region.binds .any e = true → e.on ≠ i := fun x hx hb heq => by
        have := hall x hx hb
        rw [heq, hun'] at this
        cases this
      have h2 := wpOp_putIf hoj (hap j oj hoj e hun hno) (fun cs b => Region.noSelect_spec hsel i oi cs b hi) (fun cs b => Region.noSelect_spec hsel j oj cs b hoj) hQ hy (H.2 j (ready_mono hj e))
      have hap' : ∀ k ok, ops[k]? = some ok → k ≠ i → (seen.setIfInBounds j true).getD k true = false → (∀ e ∈ ok.after, Region.binds .any e = true → e.on ≠ i) → oi.apart ops ok = true := by
        intro k ok hk hki hku hkn
        rcases Decidable.em (j = k) with ejk | ejk
        · subst ejk; exact hap j ok hk hki hun hkn
        · rw [getD_set_ne true ejk] at hku; exact hap k ok hk hki hku hkn
      have hr' := ready_mono hr (Ne.symm e)
      have hf' : Region.free .any ops (seen.setIfInBounds j true) i = true := by
        simp only [Region.free, hi, List.all_eq_true, List.mem_range] at hf ⊢
        intro k hk
        rcases Decidable.em (j = k) with ejk | ejk
        · subst ejk
          have : (seen.setIfInBounds j true).getD j true = true := by
            rcases Nat.lt_or_ge j seen.size with hlt | hge
            · simp [hlt]
            · simp [hge]
          simp [this]
        · rw [getD_set_ne true ejk]; exact hf k hk
      refine wpOp_mono (fun b u h3 => ⟨h3.2.1, ih _ b u hf' hr' (yields_later h3.1 h3.2.1) hap' ?_⟩) h2
      rw [Array.setIfInBounds_comm _ _ e]
      exact h3.2.2

/-- The first k have come up. -/
def Done (n k : Nat) : Array Bool := (Array.range n).map fun i => decide (i < k)
theorem Done.zero (n : Nat) : Done n 0 = Array.replicate n false := by
  apply Array.ext
  · simp [Done]
  · intro i h1 h2; simp [Done]
theorem Done.succ {n k : Nat} (_hk : k < n) : (Done n k).setIfInBounds k true = Done n (k + 1) := by
  apply Array.ext
  · simp [Done]
  · intro i h1 h2
    rw [Array.getElem_setIfInBounds]
    · simp [Done]
      rw [Bool.eq_iff_iff]
      simp
      omega
    · simpa [Done] using h1

/-- From the k-th operation on, in the order of the text. -/
def From (P : Program) (ops : Array Oper) (Q : Exit → Act → World → Prop) (k : Nat) (rest : List Oper) (a : Act) (w : World) : Prop :=
  ops.toList.drop k = rest → Later P ops Q (ops.size - k) (Done ops.size k) a w

theorem From.here {k : Nat} {o : Oper} {rest : List Oper} (h : ops.toList.drop k = o :: rest) : k < ops.size ∧ ops[k]? = some o ∧ ops.toList.drop (k + 1) = rest := by
  have hk : k < ops.toList.length := by
    rcases Nat.lt_or_ge k ops.toList.length with hlt | hge
    · exact hlt
    · rw [List.drop_of_length_le hge] at h; cases h
  rw [List.drop_eq_getElem_cons hk] at h
  injection h with h1 h2
  refine ⟨by simpa using hk, ?_, h2⟩
  rw [← Array.getElem?_toList, List.getElem?_eq_getElem hk, h1]

theorem From.read {k : Nat} {o : Oper} {rest : List Oper} {v : Value} {a : Act} {w : World} (hsel : Region.noSelect ops = true) (hf : Region.free .any ops (Done ops.size k) k = true) (hr : (Region.ready .any ops (Done ops.size k)).contains k = true)
    (hQ : ∀ c a w, Q (.panic c) (a.put o.dst v) w → Q (.panic c) a w) (hy : YieldsIf P ops (Ext w) o v a) (h : From P ops Q (k + 1) rest (a.put o.dst v) w) : From P ops Q k (o :: rest) a w := by
  intro hd
  obtain ⟨hk, ho, hrest⟩ := From.here hd
  have h1 := h hrest
  rw [← Done.succ hk] at h1
  have e : ops.size - k = (ops.size - (k + 1)) + 1 := by omega
  rw [e]
  exact Later.first ho hsel hQ _ _ a w hf (by simpa using hr) hy (Region.free_spec ho hf) h1

theorem From.make {k : Nat} {o : Oper} {rest : List Oper} {a : Act} {w : World} (hr : Region.ready .any ops (Done ops.size k) = [k])
    (h : ∀ K : Act → World → Prop, (∀ b u, Ext w u → From P ops Q (k + 1) rest b u → K b u) → if Region.wanted o (yielded ops a.tmps) = true then Oper.wp P o a w K Q else K (a.put o.dst undef) w) : From P ops Q k (o :: rest) a w := by
  intro hd
  obtain ⟨hk, ho, hrest⟩ := From.here hd
  have e : ops.size - k = (ops.size - (k + 1)) + 1 := by omega
  rw [e]
  refine ⟨fun h0 => (by rw [hr] at h0; cases h0), fun j hj => ?_⟩
  rw [hr] at hj
  simp at hj
  subst hj
  have h1 := h (fun b u => Ext w u ∧ Later P ops Q (ops.size - (j + 1)) ((Done ops.size j).setIfInBounds j true) b u) (fun b u hu hb => ⟨hu, by rw [Done.succ hk]; exact hb hrest⟩)
  unfold wpOp
  simp only [ho]
  split
  · rename_i hw; rw [if_pos hw] at h1; exact .inl h1
  · rename_i hw; rw [if_neg hw] at h1; exact h1

theorem From.done {k : Nat} {a : Act} {w : World} (hr : Region.ready .any ops (Done ops.size k) = []) (h : Q .normal a w) : From P ops Q k [] a w := by
  intro _
  cases ops.size - k with
  | zero => exact ⟨hr, h⟩
  | succ n => exact ⟨fun _ => h, fun i hi => by rw [hr] at hi; cases hi⟩

theorem From.start {id : Nat} {a : Act} {w : World} (hm : P.follows .mixedOrders = true) (h : From P ops Q 0 ops.toList a w.drew) : (Code.region id ops true).wp P Q a w := by
  refine wp_region_any hm (Later.any _ _ _ _ ?_)
  have h1 := h rfl
  rw [Done.zero] at h1
  exact h1
end
end Go.Proofs.Ytgflhbpmkcggnaa

/- A loop over a function: what the function owes, and what the loop's body owes (no function of the program stands here). -/
namespace Go.Proofs.Ytgflhbpmkcggnaa
open Go.RowKit

/-- A world in which no block but those of S, and new ones, is another. -/
structure Chg (S : Nat → Prop) (w w' : World) : Prop where
  os : w'.os = w.os
  tape : w'.tape = w.tape
  output : w'.output = w.output
  size : w.heap.size ≤ w'.heap.size
  block : ∀ k, k < w.heap.size → ¬ S k → w'.heap[k]? = w.heap[k]?

section
variable {S S' : Nat → Prop} {w w' w'' : World}
theorem Chg.refl (S : Nat → Prop) (w : World) : Chg S w w := ⟨rfl, rfl, rfl, Nat.le_refl _, fun _ _ _ => rfl⟩
theorem Chg.trans (h : Chg S w w') (k : Chg S w' w'') : Chg S w w'' :=
  ⟨k.os.trans h.os, k.tape.trans h.tape, k.output.trans h.output, Nat.le_trans h.size k.size, fun i hi hs => (k.block i (Nat.lt_of_lt_of_le hi h.size) hs).trans (h.block i hi hs)⟩
theorem Chg.mono (h : Chg S w w') (hS : ∀ k, k < w.heap.size → S k → S' k) : Chg S' w w' := ⟨h.os, h.tape, h.output, h.size, fun i hi hs => h.block i hi (fun x => hs (hS i hi x))⟩
/-- A step that touches what is new since, too. -/
theorem Chg.trans_new (h : Chg S w w') (k : Chg S' w' w'') (hS : ∀ i, i < w.heap.size → S' i → S i) : Chg S w w'' :=
  ⟨k.os.trans h.os, k.tape.trans h.tape, k.output.trans h.output, Nat.le_trans h.size k.size, fun i hi hs => (k.block i (Nat.lt_of_lt_of_le hi h.size) (fun x => hs (hS i hi x))).trans (h.block i hi hs)⟩
theorem Chg.of_below (h : Below w.heap.size w w') : Chg S w w' := ⟨h.os, h.tape, h.output, h.size, fun i hi _ => h.block i hi⟩
theorem Chg.of_ext (h : Ext w w') : Chg S w w' := Chg.of_below h
theorem Chg.below {B : Nat} (h : Chg S w w') (hS : ∀ k, S k → B ≤ k) (hB : B ≤ w.heap.size) : Below B w w' := ⟨h.os, h.tape, h.output, h.size, fun i hi => h.block i (by omega) (fun x => by have := hS i x; omega)⟩
theorem Chg.grown {row : Option Nat} (hg : w.grownBy w' row) (hr : ∀ k, row = some k → S k) : Chg S w w' := ⟨hg.os, hg.tape, hg.output, hg.size, fun i hi hs => hg.block i hi (fun e => hs (hr i e.symm))⟩
theorem Chg.setCell (w : World) (p : Addr) (u : Value) (hp : S p.block) : Chg S w (w.setCell p u) := ⟨rfl, rfl, rfl, by simp [World.setCell], fun i _ hs => Below.heap_setCell _ _ _ _ (fun e => hs (e ▸ hp))⟩
theorem Chg.alloc (w : World) (o : Obj) : Chg S w (w.alloc o) := Chg.of_below ((Below.refl _ _).alloc (Nat.le_refl _) _)
theorem Chg.drew (w : World) : Chg S w w.drew := Chg.of_below (Below.refl _ _).drew
theorem Chg.nothing (h : Chg (fun _ => False) w w') : Below w.heap.size w w' := ⟨h.os, h.tape, h.output, h.size, fun i hi => h.block i hi id⟩
end

/-- A row of the call's own stays where its block stays. -/
theorem row_kept {w w' : World} {base : Nat} {e : TypeId} {n : Nat} {v : Value} {xs : List Value} (h : w.ownsRow base e 1 v n xs) (hk : ∀ g, v.ownBlock = some g → w'.heap[g]? = w.heap[g]?) : w'.ownsRow base e 1 v n xs := by
  obtain ⟨h1, h2⟩ := h
  refine ⟨h1, ?_⟩
  rcases h2 with h2 | ⟨g, cap, cur, hv, hg, hh, r⟩
  · exact Or.inl h2
  · exact Or.inr ⟨g, cap, cur, hv, hg, (hk g (by rw [hv]; rfl)).trans hh, r⟩
theorem row_lt {w : World} {base : Nat} {e : TypeId} {n : Nat} {v : Value} {xs : List Value} (h : w.ownsRow base e 1 v n xs) : ∀ g, v.ownBlock = some g → base ≤ g ∧ g < w.heap.size := by
  intro g hg
  rcases h.2 with ⟨rfl, _⟩ | ⟨g', cap, cur, hv, hb, hh, r⟩
  · cases hg
  · rw [hv] at hg
    injection hg with hg
    subst hg
    exact ⟨hb, (Array.getElem?_eq_some_iff.1 hh).1⟩

/-- The blocks from a up to b are as they were. -/
def Stay (a b : Nat) (w w' : World) : Prop := ∀ k, a ≤ k → k < b → w'.heap[k]? = w.heap[k]?
theorem Stay.refl (a b : Nat) (w : World) : Stay a b w w := fun _ _ _ => rfl
theorem Stay.trans {a b : Nat} {w w' w'' : World} (h : Stay a b w w') (k : Stay a b w' w'') : Stay a b w w'' := fun i h1 h2 => (k i h1 h2).trans (h i h1 h2)
theorem Stay.ext {a b : Nat} {w w' : World} (h : Ext w w') (hb : b ≤ w.heap.size) : Stay a b w w' := fun k _ h2 => h.block k (by omega)
/-- Blocks from a up to b. -/
def Btw (a b : Nat) (k : Nat) : Prop := a ≤ k ∧ k < b
/-- Blocks from a on. -/
def Frm (a : Nat) (k : Nat) : Prop := a ≤ k

/-- A step of a round: its blocks stay, none is lost. -/
structure Step (a b : Nat) (w w' : World) : Prop where
  stay : Stay a b w w'
  os : w'.os = w.os
  tape : w'.tape = w.tape
  output : w'.output = w.output
  size : w.heap.size ≤ w'.heap.size
theorem Step.refl (a b : Nat) (w : World) : Step a b w w := ⟨Stay.refl _ _ _, rfl, rfl, rfl, Nat.le_refl _⟩
theorem Step.trans {a b : Nat} {w w' w'' : World} (h : Step a b w w') (k : Step a b w' w'') : Step a b w w'' := ⟨h.stay.trans k.stay, k.os.trans h.os, k.tape.trans h.tape, k.output.trans h.output, Nat.le_trans h.size k.size⟩
theorem Step.of_chg {S : Nat → Prop} {a b : Nat} {w w' : World} (h : Chg S w w') (hb : b ≤ w.heap.size) (hS : ∀ k, a ≤ k → k < b → ¬ S k) : Step a b w w' := ⟨fun k h1 h2 => h.block k (by omega) (hS k h1 h2), h.os, h.tape, h.output, h.size⟩

theorem putObj_chg (W : World) (l : Nat) (o : Obj) : Chg (fun i => i = l) W (W.putObj l o) := ⟨rfl, rfl, rfl, by simp, fun k _ hk => World.putObj_heap_other hk⟩

theorem roundIn_any {P : Program} {m m' l : Nat} {f : FuncId} {tmps : Array Value} {assign body : Code} {w : World} {R : Ending → World → Prop} (h : RoundIn Fence.wide m P l f tmps assign body w R) : RoundIn Fence.wide m' P l f tmps assign body w R :=
  ⟨h.1, fun c cs _ => h.2 c cs (room_wide _)⟩

/-- What a function owes over which one ranges: it hands over, one behind the other, so many x; of the k-th 'Ok' holds. From its beginning (world W) to the first call of yield it makes memory alone (up to block n₁); between two calls it changes no memory but that. C: what the one who goes over it promises. -/
def Iter (P : Program) {α : Type} (gf : Nat) (lb : Array Value) (len : Nat) (encs : α → Array Value) (Ok : Nat → Nat → α → World → Prop) (C : World → Prop) (w : World) : Prop :=
  ∀ (m l : Nat) (J : Nat → Nat → World → Prop) (Jx : World → Prop) (W : World), Ext w W →
    (∀ n₁ k A, J n₁ k A → C A) → (∀ n₁ k A A', W.heap.size ≤ n₁ → J n₁ k A → Chg (Btw W.heap.size n₁) A A' → J n₁ k A') → (∀ A A', Jx A → Chg (Frm W.heap.size) A A' → Jx A') → (∀ A, Ext W A → J A.heap.size 0 A) →
    (∀ n₁ k x A, W.heap.size ≤ n₁ → n₁ ≤ A.heap.size → J n₁ k A → k < len → Ok n₁ k x A → YieldAt Fence.wide m P l (encs x) A fun e A' => Step W.heap.size n₁ A A' ∧ ((e = .returned (.bool true) ∧ J n₁ (k + 1) A') ∨ (e = .returned (.bool false) ∧ Jx A'))) →
    Calls P gf (#[.func (.yield l) #[] #[]] ++ lb) W fun e A => (∃ v, e = .returned v) ∧ ((∃ n₁, W.heap.size ≤ n₁ ∧ J n₁ len A) ∨ Jx A)

/-- What a round's body owes. -/
def bodyOwes (a b : Nat) (I : World → Prop) (Ix : Code → World → Prop) (A : World) : Exit → Act → World → Prop
  | .normal, _, A' => Step a b A A' ∧ I A'
  | .ret, _, A' => Step a b A A' ∧ Ix .ret A'
  | .exit id, _, A' => Step a b A A' ∧ Ix (.exit id) A'
  | .goto t, _, A' => Step a b A A' ∧ Ix (.goto t) A'
  | .panic _, _, _ => False
  | .outgrown, _, _ => False

/-- The loop. -/
theorem wpIn_over {P : Program} {n : Nat} {α : Type} {g : Operand} {ps : Array Tmp} {assign body : Code} {Q : Exit → Act → World → Prop} {a : Act} {w : World}
    {gf : Nat} {lb : Array Value} (hg : a.eval g = .func (.func gf) #[] lb) (eg : ∀ args w, (callFunc gf args).run P w = .ok (.enter gf args) w)
    {encs : α → Array Value} {len : Nat} {Ok : Nat → Nat → α → World → Prop} {C : World → Prop} (hseq : Iter P gf lb len encs Ok C w) (hps : ∀ x, (encs x).size = ps.size)
    (I : Nat → Nat → World → Prop) (Ix : Code → World → Prop) (hC : ∀ n₁ k A, I n₁ k A → C A)
    (hI : ∀ n₁ k A A', w.heap.size + 2 ≤ n₁ → I n₁ k A → Chg (Btw w.heap.size n₁) A A' → I n₁ k A') (hIx : ∀ c A A', Ix c A → Chg (Frm w.heap.size) A A' → Ix c A') (h0 : ∀ A, Ext w A → I A.heap.size 0 A)
    (hround : ∀ l n₁ k x A, w.heap.size ≤ l → l < n₁ → w.heap.size + 2 ≤ n₁ → n₁ ≤ A.heap.size → I n₁ k A → k < len → Ok n₁ k x A →
      assign.wpIn (Fence.wide.inRound l) (n - 1 - 1) P (Exit.then (fun a₁ A1 => Step w.heap.size n₁ A A1 ∧ ∀ A2, Chg (fun i => i = l) A1 A2 → body.wpIn (Fence.wide.inRound l) (n - 1 - 1) P (bodyOwes w.heap.size n₁ (I n₁ (k + 1)) Ix A2) a₁ A2) (fun _ _ _ => False))
        { tmps := (ps.zip (encs x)).foldl (fun t (p, v) => t.setIfInBounds p v) a.tmps, defers := [] } A)
    (hdone : ∀ D n₁ W, w.heap.size ≤ D → D < n₁ → w.heap.size + 2 ≤ n₁ → I n₁ len W → W.heap[D]? = some (.deferred (some [])) → Q .normal { a with defers := { target := .collected D, args := #[] } :: a.defers } W)
    (hstop : ∀ D c W, w.heap.size ≤ D → Ix c W → W.heap[D]? = some (.deferred (some [])) → c.wpIn Fence.wide n P Q { a with defers := { target := .collected D, args := #[] } :: a.defers } W) :
    (Code.rangeFunc g ps assign body).wpIn Fence.wide n P Q a w := by
  refine wpIn_rangeFunc ?_
  intro fn hfn
  obtain ⟨rec, hrec⟩ : ∃ rec : LoopState → Option Code → Loop, rec = fun st pe => { state := st, pending := pe, fn, tmps := a.tmps, params := ps, assign, body, defers := w.heap.size } := ⟨_, rfl⟩
  obtain ⟨W1, hW1⟩ : ∃ W1, W1 = (w.alloc (.deferred (some []))).alloc (.loop (rec .ready none)) := ⟨_, rfl⟩
  have hx1 : Ext w W1 := by rw [hW1]; exact ((Below.refl _ w).alloc (Nat.le_refl _) _).alloc (by simp) _
  have hz1 : W1.heap.size = w.heap.size + 2 := by rw [hW1]; simp
  have hL1 : W1.heap[w.heap.size + 1]? = some (.loop (rec .ready none)) := by
    rw [hW1]; have := World.alloc_heap_new (w.alloc (.deferred (some []))) (.loop (rec .ready none)); rwa [World.size_alloc] at this
  have hD1 : W1.heap[w.heap.size]? = some (.deferred (some [])) := by
    rw [hW1]; exact (Below.heap_alloc _ _ _ (by simp)).trans (World.alloc_heap_new w _)
  refine ⟨w.heap.size + 1, [{ target := .collected w.heap.size, args := #[] }], W1, { target := .fn (.func gf) lb, args := #[.func (.yield (w.heap.size + 1)) #[] #[]] }, W1, gf,
    #[.func (.yield (w.heap.size + 1)) #[] #[]] ++ lb, W1, ?_, ?_, (fun _ _ => trivial), ?_, (fun h => (by cases h)), ?_⟩
  · rw [hW1, hrec]; exact run_enterLoop_outer _ _ _ _ _
  · simp only [resolve, hg]
    simp [go_sem]
  · simp [invoke, go_sem, eg]
  · refine callsIn_wide.2 ((hseq (n - 1 - 1) (w.heap.size + 1)
      (fun n₁ k A => I n₁ k A ∧ A.heap[w.heap.size + 1]? = some (.loop (rec .ready none)) ∧ A.heap[w.heap.size]? = some (.deferred (some [])))
      (fun A => ∃ c, Ix c A ∧ A.heap[w.heap.size + 1]? = some (.loop (rec .done (some c))) ∧ A.heap[w.heap.size]? = some (.deferred (some [])))
      W1 hx1 (fun n₁ k A h => hC n₁ k A h.1) ?_ ?_ ?_ ?_).mono ?_)
    · rintro n₁ k A A' hn ⟨hi, hl, hd⟩ hc
      have lt1 := (Array.getElem?_eq_some_iff.1 hl).1
      have lt2 := (Array.getElem?_eq_some_iff.1 hd).1
      exact ⟨hI n₁ k A A' (by omega) hi (hc.mono fun i _ hb => ⟨by have := hb.1; omega, hb.2⟩), (hc.block _ lt1 (fun hb => by have := hb.1; omega)).trans hl, (hc.block _ lt2 (fun hb => by have := hb.1; omega)).trans hd⟩
    · rintro A A' ⟨c, hi, hl, hd⟩ hc
      have lt1 := (Array.getElem?_eq_some_iff.1 hl).1
      have lt2 := (Array.getElem?_eq_some_iff.1 hd).1
      exact ⟨c, hIx c A A' hi (hc.mono fun i _ hb => by have : W1.heap.size ≤ i := hb; show w.heap.size ≤ i; omega), (hc.block _ lt1 (fun hb => by have : W1.heap.size ≤ _ := hb; omega)).trans hl, (hc.block _ lt2 (fun hb => by have : W1.heap.size ≤ _ := hb; omega)).trans hd⟩
    · intro A hx
      exact ⟨h0 A (hx1.trans hx), (hx.block _ (by omega)).trans hL1, (hx.block _ (by omega)).trans hD1⟩
    · rintro n₁ k x A hn hnA ⟨hi, hl, hd⟩ hk hok
      have hy := run_yield (P := P) (args := encs x) hl (by rw [hrec]; exact hps x)
      rw [hrec] at hy
      refine ⟨fn, _, assign, body, hy, roundIn_of_wpIn hfn ?_⟩
      refine wpIn_mono (hround (w.heap.size + 1) n₁ k x A (by omega) (by omega) (by omega) hnA hi hk hok) ?_
      intro e a₁ A1 hp
      cases e with
      | normal =>
        obtain ⟨hst, hb⟩ := hp
        have hl1 := (hst.stay (w.heap.size + 1) (by omega) (by omega)).trans hl
        have hd1 := (hst.stay w.heap.size (Nat.le_refl _) (by omega)).trans hd
        have lt1 := (Array.getElem?_eq_some_iff.1 hl1).1
        refine ⟨_, run_beginRound hl1 (by rw [hrec]), ?_⟩
        have hc2 := putObj_chg A1 (w.heap.size + 1) (.loop { rec .ready none with state := .busy })
        have hl2 : (A1.putObj (w.heap.size + 1) (.loop { rec .ready none with state := .busy })).heap[w.heap.size + 1]? = some (.loop { rec .ready none with state := .busy }) := World.putObj_heap_same lt1
        have hd2 := (hc2.block w.heap.size (by omega) (by omega)).trans hd1
        have fin : ∀ (jump : Option Code) (W3 : World), Step w.heap.size n₁ (A1.putObj (w.heap.size + 1) (.loop { rec .ready none with state := .busy })) W3 →
            (Instr.endRound (w.heap.size + 1) jump).run P W3 = .ok (.bool jump.isNone) (W3.putObj (w.heap.size + 1) (.loop (rec (if jump.isNone then .ready else .done) jump))) ∧
            (W3.putObj (w.heap.size + 1) (.loop (rec (if jump.isNone then .ready else .done) jump))).heap[w.heap.size + 1]? = some (.loop (rec (if jump.isNone then .ready else .done) jump)) ∧
            (W3.putObj (w.heap.size + 1) (.loop (rec (if jump.isNone then .ready else .done) jump))).heap[w.heap.size]? = some (.deferred (some [])) ∧
            Step W1.heap.size n₁ A (W3.putObj (w.heap.size + 1) (.loop (rec (if jump.isNone then .ready else .done) jump))) := fun jump W3 hs3 => by
          have hl3 := (hs3.stay _ (by omega) (by omega)).trans hl2
          have hd3 := (hs3.stay _ (Nat.le_refl _) (by omega)).trans hd2
          have lt3 := (Array.getElem?_eq_some_iff.1 hl3).1
          have hr := run_endRound (P := P) jump hl3
          rw [hrec] at hr ⊢
          refine ⟨hr, World.putObj_heap_same lt3, (World.putObj_heap_other (by omega)).trans hd3, ?_⟩
          have s1 : Step W1.heap.size n₁ A A1 := ⟨fun i h1 h2 => hst.stay i (by omega) h2, hst.os, hst.tape, hst.output, hst.size⟩
          have s2 : Step W1.heap.size n₁ A1 (A1.putObj (w.heap.size + 1) (.loop { rec .ready none with state := .busy })) := ⟨fun i h1 h2 => World.putObj_heap_other (by omega), rfl, rfl, rfl, by simp⟩
          have s3 : Step W1.heap.size n₁ (A1.putObj (w.heap.size + 1) (.loop { rec .ready none with state := .busy })) W3 := ⟨fun i h1 h2 => hs3.stay i (by omega) h2, hs3.os, hs3.tape, hs3.output, hs3.size⟩
          exact ((s1.trans s2).trans s3).trans ⟨fun i h1 h2 => World.putObj_heap_other (by omega), rfl, rfl, rfl, by simp⟩
        have hchg : ∀ (W3 : World) (o : Obj), Chg (Btw w.heap.size n₁) W3 (W3.putObj (w.heap.size + 1) o) := fun W3 o => (putObj_chg W3 _ o).mono fun i _ e => ⟨by omega, by omega⟩
        have hchg2 : ∀ (W3 : World) (o : Obj), Chg (Frm w.heap.size) W3 (W3.putObj (w.heap.size + 1) o) := fun W3 o => (putObj_chg W3 _ o).mono fun i _ e => show w.heap.size ≤ i by omega
        refine wpIn_mono (hb _ hc2) ?_
        intro e a3 W3 hp
        cases e with
        | normal =>
          obtain ⟨hs3, hi3⟩ := hp
          obtain ⟨hr, hl4, hd4, hst4⟩ := fin none W3 hs3
          exact ⟨_, _, hr, hst4, .inl ⟨rfl, hI n₁ (k + 1) _ _ (by omega) hi3 (hchg _ _), hl4, hd4⟩⟩
        | ret =>
          obtain ⟨hs3, hi3⟩ := hp
          obtain ⟨hr, hl4, hd4, hst4⟩ := fin (some .ret) W3 hs3
          exact ⟨_, _, hr, hst4, .inr ⟨rfl, .ret, hIx _ _ _ hi3 (hchg2 _ _), hl4, hd4⟩⟩
        | exit id =>
          obtain ⟨hs3, hi3⟩ := hp
          obtain ⟨hr, hl4, hd4, hst4⟩ := fin (some (.exit id)) W3 hs3
          exact ⟨_, _, hr, hst4, .inr ⟨rfl, .exit id, hIx _ _ _ hi3 (hchg2 _ _), hl4, hd4⟩⟩
        | goto t =>
          obtain ⟨hs3, hi3⟩ := hp
          obtain ⟨hr, hl4, hd4, hst4⟩ := fin (some (.goto t)) W3 hs3
          exact ⟨_, _, hr, hst4, .inr ⟨rfl, .goto t, hIx _ _ _ hi3 (hchg2 _ _), hl4, hd4⟩⟩
        | panic ch => exact hp.elim
        | outgrown => exact hp.elim
      | ret => exact hp.elim
      | exit id => exact hp.elim
      | goto t => exact hp.elim
      | panic ch => exact hp.elim
      | outgrown => exact hp.elim
    · rintro e W2 ⟨⟨v, rfl⟩, (⟨n₁, hn, hi, hl, hd⟩ | ⟨c, hi, hl, hd⟩)⟩
      · have hr := run_endLoop (P := P) hl (by rw [hrec]; simp)
        rw [hrec] at hr
        exact ⟨none, _, hr, hdone _ n₁ _ (Nat.le_refl _) (by omega) (by omega) (hI n₁ len _ _ (by omega) hi ((putObj_chg _ _ _).mono fun i _ e => ⟨by omega, by omega⟩)) ((World.putObj_heap_other (by omega)).trans hd)⟩
      · have hr := run_endLoop (P := P) hl (by rw [hrec]; simp)
        rw [hrec] at hr
        exact ⟨some c, _, hr, hstop _ c _ (Nat.le_refl _) (hIx c _ _ hi ((putObj_chg _ _ _).mono fun i _ e => show w.heap.size ≤ i by omega)) ((World.putObj_heap_other (by omega)).trans hd)⟩


theorem row_chg {A A' : World} {S : Nat → Prop} {B n : Nat} {t : TypeId} {v : Value} {xs : List Value} (h : A.ownsRow B t 1 v n xs) (hc : Chg S A A') (hS : ∀ k, B ≤ k → ¬ S k) : A'.ownsRow B t 1 v n xs :=
  row_kept h fun g hg => hc.block g (row_lt h g hg).2 (hS g (row_lt h g hg).1)
theorem boxed_chg {A A' : World} {S : Nat → Prop} {b : Nat} {t : TypeId} {v : Value} (h : Boxed A b t v) (hc : Chg S A A') (hS : ¬ S b) : Boxed A' b t v := (hc.block b h.lt hS).trans h
theorem ext_alloc (w : World) (o : Obj) : Ext w (w.alloc o) := (Below.refl _ _).alloc (Nat.le_refl _) _
theorem ext_cell {w u : World} {p : Addr} {v : Value} (hu : Ext w u) (h : w.cell? p = some v) : u.cell? p = some v := (hu.cell (World.block_lt_of_cell? w _ h)).trans h
theorem cell_new {w : World} {p : Addr} {v : Value} (h : w.cell? p = some v) (o : Obj) : (w.alloc o).cell? p = some v := (World.cell?_alloc_lt w o p (World.block_lt_of_cell? w _ h)).trans h
theorem heap_at (w : World) (o : Obj) {k : Nat} (h : k = w.heap.size) : (w.alloc o).heap[k]? = some o := by subst h; exact World.alloc_heap_new w o
theorem cell_of {w : World} {b k : Nat} {c : Array Value} {t : TypeId} {v : Value} (h : w.heap[b]? = some (.cells c t (0, 0))) (hv : c[k]? = some v) : w.cell? ⟨b, k, none⟩ = some v := by simp [World.cell?, h, hv]
theorem ext_heap {w u : World} (h : Ext w u) {b : Nat} {o : Obj} (hb : w.heap[b]? = some o) : u.heap[b]? = some o := (h.block b (Array.getElem?_eq_some_iff.1 hb).1).trans hb
theorem ownsRow_base {w : World} {b b' : Nat} {e : TypeId} {v : Value} {n : Nat} {xs : List Value} (h : w.ownsRow b e 1 v n xs) (hb : b' ≤ b) : w.ownsRow b' e 1 v n xs := by
  obtain ⟨h1, h2⟩ := h
  refine ⟨h1, ?_⟩
  rcases h2 with h2 | ⟨g, cap, cur, hv, hg, hh, r⟩
  · exact Or.inl h2
  · exact Or.inr ⟨g, cap, cur, hv, Nat.le_trans hb hg, hh, r⟩
end Go.Proofs.Ytgflhbpmkcggnaa
