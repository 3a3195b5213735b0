/- The reference's reader. -/
import Derived.Test.YtfalpagimmaipaaWyes
import Derived.Test.YtfalpagimmaipaaWtake
import Derived.Test.YtfalpagimmaipaaRmore
import Derived.Test.YtfalpagimmaipaaOrd
import Derived.Deep.DeepCutAuto
import Derived.Deep.QuietTactic
import Derived.BigQuiet
namespace Go.Proofs.Ytfalpagimmaipaa
open Go.ChangeShapes Go.WideShapes Go.ChangeAt Go.RowKit
theorem below_drewN {B : Nat} {w w' : World} (h : Below B w w') (n : Nat) : Below B w (w'.drewN n) := h.trans ⟨rfl, rfl, rfl, Nat.le_refl _, fun _ _ => rfl⟩
theorem grown_refl (w : World) (row : Option Nat) : w.grownBy w row := ⟨rfl, rfl, rfl, Nat.le_refl _, fun _ _ _ => rfl⟩
theorem grown_then {a b c : World} {r : Nat} (h : a.grownBy b (some r)) (k : Below b.heap.size b c) : a.grownBy c (some r) := grownBy_below h (k.mono h.size)

/-- The reference's reader, in its own block. -/
def QObj (w : World) (q : Nat) (v : Value) : Prop := w.heap[q]? = some (.cells #[v] 75 (0, 0))
theorem QObj.set {w : World} {q : Nat} {v : Value} (h : QObj w q v) (u : Value) : QObj (w.setCell ⟨q, 0, none⟩ u) q u := by
  unfold QObj
  rw [heap_setCell_same w q 0 _ _ _ h]; rfl
theorem QObj.lt {w : World} {q : Nat} {v : Value} (h : QObj w q v) : q < w.heap.size := by
  rcases Nat.lt_or_ge q w.heap.size with h1 | h1
  · exact h1
  · unfold QObj at h; rw [Array.getElem?_eq_none h1] at h; cases h
structure Qd (w : World) (q lo hi : Nat) (l : List Nat) : Prop where
  ex : ∃ v, QObj w q v ∧ Bs w lo hi v l
  apart : q < lo ∨ hi ≤ q
  top : hi ≤ w.heap.size
  byt : ∀ b ∈ l, b < 256
theorem Qd.lt {w : World} {q lo hi : Nat} {l : List Nat} (h : Qd w q lo hi l) : q < w.heap.size := by obtain ⟨v, h1, _⟩ := h.ex; exact h1.lt
theorem Qd.grown {w w' : World} {q lo hi : Nat} {l : List Nat} {r : Nat} (h : Qd w q lo hi l) (hg : w.grownBy w' (some r)) (hne : q ≠ r) (hr : r < lo ∨ hi ≤ r) : Qd w' q lo hi l := by
  obtain ⟨⟨v, h1, h2⟩, h3, h4, h5⟩ := h
  exact ⟨⟨v, (hg.block q h1.lt (by intro e; injection e with e; exact hne e)).trans h1, h2.grown hg h4 (fun k hk => by injection hk with hk; omega)⟩, h3, Nat.le_trans h4 hg.size, h5⟩
theorem Qd.below {w w' : World} {q lo hi B : Nat} {l : List Nat} (h : Qd w q lo hi l) (hb : Below B w w') (hB : hi ≤ B) (hq : q < B) : Qd w' q lo hi l := by
  obtain ⟨⟨v, h1, h2⟩, h3, h4, h5⟩ := h
  exact ⟨⟨v, (hb.block q hq).trans h1, h2.below hb hB⟩, h3, Nat.le_trans h4 hb.size, h5⟩

/-- How many bytes the form has that stands first. -/
def Wh (l : List Nat) (m : Nat) : Prop := (m = 0 ∧ NoNum l) ∨ ∃ (i : Nat) (hi : i < l.length), m = i + 1 ∧ i ≤ 9 ∧ l[i] < 128 ∧ Begins l (val (l.take i) + 128 ^ i * l[i]) (l.drop (i + 1))

set_option maxHeartbeats 2000000 in
theorem rwhole_any (v : Value) (lo hi : Nat) (l : List Nat) (w : World) (hv : Bs w lo hi v l) (hb : ∀ b ∈ l, b < 256) :
    Calls Try.prog 81 #[v] w fun e w' => ∃ m : Nat, e = .returned (.int .i64 (m : Int)) ∧ w = w' ∧ Wh l m := by
  obtain ⟨A, c, rfl, x1, x2, x3, hby⟩ := hv
  have hlen : l.length ≤ 9223372036854775807 := by unfold maxLen at x2; omega
  have HBY := Lib.hid hby
  have HB := Lib.hid hb
  clear x1 x2 x3 hby hb
  go_enter Try.func81, Try.ntmps81
  go_wp2_with fail
  go_loop [3] (fun i => ∃ k : Nat, k ≤ l.length ∧ i = .int .i64 (k : Int) ∧ Hid (More (l.take k))) (fun i => l.length - (intOf i).toNat)
  case atStart => exact ⟨0, Nat.zero_le _, rfl, more_nil l⟩
  case round =>
    obtain ⟨k, hk, rfl, HM⟩ := hrel
    by_cases hlt : k < l.length
    · obtain ⟨b, o, rfl, _, _, hcell⟩ := HBY.out.at_ hlt
      have hxb : l[k] < 256 := HB.out _ (List.getElem_mem hlt)
      obtain ⟨x, hx⟩ : ∃ x, x = l[k] := ⟨_, rfl⟩
      have HX := Lib.hid hx
      rw [← hx] at hcell hxb
      have d1 : decide ((k : Int) < (l.length : Int)) = true := decide_eq_true (by omega)
      have d1n : decide (k < l.length) = true := decide_eq_true hlt
      have d0 : ((k : Int) == (l.length : Int)) = false := by rw [beq_eq_false_iff_ne]; omega
      have d0n : (k == l.length) = false := by rw [beq_eq_false_iff_ne]; omega
      clear hx
      by_cases hmore : 127 < x
      · have d2 : decide ((127 : Int) < (x : Int)) = true := decide_eq_true (by omega)
        have d2n : decide (127 < x) = true := decide_eq_true hmore
        have HS := Lib.hid (more_succ hlt HM.out (by rw [← HX.out]; omega) (by rw [← HX.out]; omega))
        clear hmore d0 d0n
        go_wp2_with fail
        go_round
        case rel => exact ⟨k + 1, by omega, by go_num, HS⟩
        case measure => simp [intOf]; omega
      · have d2 : decide ((127 : Int) < (x : Int)) = false := decide_eq_false (by omega)
        have d2n : decide (127 < x) = false := decide_eq_false hmore
        have HLT := Lib.hid hlt
        have HX128 := Lib.hid (show x < 128 by omega)
        clear hmore hxb
        rcases Nat.lt_trichotomy k 9 with h9 | h9 | h9
        · have d3 : decide ((9 : Int) < (k : Int)) = false := decide_eq_false (by omega)
          have d3n : decide (9 < k) = false := decide_eq_false (by omega)
          have d4 : ((k : Int) == 9) = false := by rw [beq_eq_false_iff_ne]; omega
          have d4n : (k == 9) = false := by rw [beq_eq_false_iff_ne]; omega
          by_cases h0 : k = 0
          · have d5 : decide ((0 : Int) < (k : Int)) = false := decide_eq_false (by omega)
            have d5n : decide (0 < k) = false := decide_eq_false (by omega)
            have HW : Hid (Wh l (k + 1)) := .inr ⟨k, hlt, rfl, by omega, by rw [← HX.out]; exact HX128.out, begins_of hlt HM.out (by rw [← HX.out]; exact HX128.out) (fun h => absurd h0 h) (.inl h9)⟩
            clear h9 h0
            go_wp2_with fail
            go_ret
            exact ⟨k + 1, by go_num, rfl, HW.out⟩
          · have d5 : decide ((0 : Int) < (k : Int)) = true := decide_eq_true (by omega)
            have d5n : decide (0 < k) = true := decide_eq_true (by omega)
            by_cases hx0 : x = 0
            · have d6 : ((x : Int) == 0) = true := by rw [hx0]; rfl
              have d6n : (x == 0) = true := by rw [hx0]; rfl
              have HW : Hid (Wh l 0) := .inl ⟨rfl, not_begins_zero hlt HM.out h0 (by rw [← HX.out]; exact hx0)⟩
              clear h9 h0 hx0
              go_wp2_with fail
              go_ret
              exact ⟨0, rfl, rfl, HW.out⟩
            · have d6 : ((x : Int) == 0) = false := by rw [beq_eq_false_iff_ne]; omega
              have d6n : (x == 0) = false := by rw [beq_eq_false_iff_ne]; omega
              have HW : Hid (Wh l (k + 1)) := .inr ⟨k, hlt, rfl, by omega, by rw [← HX.out]; exact HX128.out, begins_of hlt HM.out (by rw [← HX.out]; exact HX128.out) (fun _ => by rw [← HX.out]; exact hx0) (.inl h9)⟩
              clear h9 h0 hx0
              go_wp2_with fail
              go_ret
              exact ⟨k + 1, by go_num, rfl, HW.out⟩
        · have d3 : decide ((9 : Int) < (k : Int)) = false := decide_eq_false (by omega)
          have d3n : decide (9 < k) = false := decide_eq_false (by omega)
          have d4 : ((k : Int) == 9) = true := by rw [h9]; rfl
          have d4n : (k == 9) = true := by rw [h9]; rfl
          have d5 : decide ((0 : Int) < (k : Int)) = true := decide_eq_true (by omega)
          have d5n : decide (0 < k) = true := decide_eq_true (by omega)
          have hcell9 : w.cell? ⟨b, o + 9, none⟩ = some (.int .u8 (x : Int)) := by rw [← h9]; exact hcell
          have g9 : (9 : Int) < (l.length : Int) := by omega
          have g9n : 9 < l.length := by omega
          by_cases hx1 : 1 < x
          · have d7 : decide ((1 : Int) < (x : Int)) = true := decide_eq_true (by omega)
            have d7n : decide (1 < x) = true := decide_eq_true hx1
            have HW : Hid (Wh l 0) := .inl ⟨rfl, not_begins_nine g9n (by have := HM.out; rw [h9] at this; exact this) (by have := HX.out; subst h9; rw [← this]; exact hx1)⟩
            clear h9 hx1
            go_wp2_with fail
            go_ret
            exact ⟨0, rfl, rfl, HW.out⟩
          · have d7 : decide ((1 : Int) < (x : Int)) = false := decide_eq_false (by omega)
            have d7n : decide (1 < x) = false := decide_eq_false hx1
            by_cases hx0 : x = 0
            · have d6 : ((x : Int) == 0) = true := by rw [hx0]; rfl
              have d6n : (x == 0) = true := by rw [hx0]; rfl
              have HW : Hid (Wh l 0) := .inl ⟨rfl, not_begins_zero hlt HM.out (by omega) (by rw [← HX.out]; exact hx0)⟩
              clear h9 hx0 hx1
              go_wp2_with fail
              go_ret
              exact ⟨0, rfl, rfl, HW.out⟩
            · have d6 : ((x : Int) == 0) = false := by rw [beq_eq_false_iff_ne]; omega
              have d6n : (x == 0) = false := by rw [beq_eq_false_iff_ne]; omega
              have HW : Hid (Wh l (k + 1)) := .inr ⟨k, hlt, rfl, by omega, by rw [← HX.out]; exact HX128.out, begins_of hlt HM.out (by rw [← HX.out]; exact HX128.out) (fun _ => by rw [← HX.out]; exact hx0) (.inr ⟨h9, by rw [← HX.out]; omega⟩)⟩
              clear h9 hx0 hx1
              go_wp2_with fail
              go_ret
              exact ⟨k + 1, by go_num, rfl, HW.out⟩
        · have d3 : decide ((9 : Int) < (k : Int)) = true := decide_eq_true (by omega)
          have d3n : decide (9 < k) = true := decide_eq_true h9
          have hl9 : l[9]'(by omega) ∈ l.take k := by
            rw [List.mem_iff_getElem]
            exact ⟨9, by simp; omega, by simp⟩
          have HW : Hid (Wh l 0) := .inl ⟨rfl, not_begins_nine (by omega) (fun y hy => HM.out y (by
            have : l.take 9 = (l.take k).take 9 := by rw [List.take_take, Nat.min_eq_left (by omega)]
            rw [this] at hy; exact List.mem_of_mem_take hy)) (by have := (HM.out _ hl9).1; omega)⟩
          clear h9 hl9
          go_wp2_with fail
          go_ret
          exact ⟨0, rfl, rfl, HW.out⟩
    · have d1 : decide ((k : Int) < (l.length : Int)) = false := decide_eq_false (by omega)
      have d1n : decide (k < l.length) = false := decide_eq_false hlt
      have d0 : ((k : Int) == (l.length : Int)) = true := by rw [beq_iff_eq]; omega
      have d0n : (k == l.length) = true := by rw [beq_iff_eq]; omega
      have HW : Hid (Wh l 0) := .inl ⟨rfl, not_begins_more (by have := HM.out; rw [List.take_of_length_le (by omega)] at this; exact this)⟩
      clear hlt
      go_wp2_with fail
      go_ret
      exact ⟨0, rfl, rfl, HW.out⟩
end Go.Proofs.Ytfalpagimmaipaa
