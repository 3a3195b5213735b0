/- Rread Rnumb Rtext Rlist Rboth Iread Tail Icopy Ilit Ilist Irise Iref Flowin, joined. -/
import Derived.Test.YtgflhbpmkcggnaaMa2
import Derived.Test.YtgflhbpmkcggnaaMa3
import Derived.Deep.DeepCutAuto
import Derived.Deep.QuietTactic
import Derived.BigQuiet
import Derived.Laws.ResultCell
import Derived.Laws.Rows
import Derived.Lib.ConvBytes
import Derived.Laws.AppendOwn
import Derived.LoopTactic
import Derived.Laws.OwnMore
import Derived.OrdersIn

/- The reference's reader. -/
namespace Go.Proofs.Ytgflhbpmkcggnaa
open Go.ChangeShapes Go.WideShapes Go.ChangeAt Go.RowKit
theorem below_drewN {B : Nat} {w w' : World} (h : Below B w w') (n : Nat) : Below B w (w'.drewN n) := h.trans ⟨rfl, rfl, rfl, Nat.le_refl _, fun _ _ => rfl⟩
theorem grown_refl (w : World) (row : Option Nat) : w.grownBy w row := ⟨rfl, rfl, rfl, Nat.le_refl _, fun _ _ _ => rfl⟩
theorem grown_then {a b c : World} {r : Nat} (h : a.grownBy b (some r)) (k : Below b.heap.size b c) : a.grownBy c (some r) := grownBy_below h (k.mono h.size)

/-- The reference's reader, in its own block. -/
def QObj (w : World) (q : Nat) (v : Value) : Prop := w.heap[q]? = some (.cells #[v] 98 (0, 0))
theorem QObj.set {w : World} {q : Nat} {v : Value} (h : QObj w q v) (u : Value) : QObj (w.setCell ⟨q, 0, none⟩ u) q u := by
  unfold QObj
  rw [heap_setCell_same w q 0 _ _ _ h]; rfl
theorem QObj.lt {w : World} {q : Nat} {v : Value} (h : QObj w q v) : q < w.heap.size := by
  rcases Nat.lt_or_ge q w.heap.size with h1 | h1
  · exact h1
  · unfold QObj at h; rw [Array.getElem?_eq_none h1] at h; cases h
structure Qd (w : World) (q lo hi : Nat) (l : List Nat) : Prop where
  ex : ∃ v, QObj w q v ∧ Bs w lo hi v l
  apart : q < lo ∨ hi ≤ q
  top : hi ≤ w.heap.size
  byt : ∀ b ∈ l, b < 256
theorem Qd.lt {w : World} {q lo hi : Nat} {l : List Nat} (h : Qd w q lo hi l) : q < w.heap.size := by obtain ⟨v, h1, _⟩ := h.ex; exact h1.lt
theorem Qd.grown {w w' : World} {q lo hi : Nat} {l : List Nat} {r : Nat} (h : Qd w q lo hi l) (hg : w.grownBy w' (some r)) (hne : q ≠ r) (hr : r < lo ∨ hi ≤ r) : Qd w' q lo hi l := by
  obtain ⟨⟨v, h1, h2⟩, h3, h4, h5⟩ := h
  exact ⟨⟨v, (hg.block q h1.lt (by intro e; injection e with e; exact hne e)).trans h1, h2.grown hg h4 (fun k hk => by injection hk with hk; omega)⟩, h3, Nat.le_trans h4 hg.size, h5⟩
theorem Qd.below {w w' : World} {q lo hi B : Nat} {l : List Nat} (h : Qd w q lo hi l) (hb : Below B w w') (hB : hi ≤ B) (hq : q < B) : Qd w' q lo hi l := by
  obtain ⟨⟨v, h1, h2⟩, h3, h4, h5⟩ := h
  exact ⟨⟨v, (hb.block q hq).trans h1, h2.below hb hB⟩, h3, Nat.le_trans h4 hb.size, h5⟩

/-- How many bytes the form has that stands first. -/
def Wh (l : List Nat) (m : Nat) : Prop := (m = 0 ∧ NoNum l) ∨ ∃ (i : Nat) (hi : i < l.length), m = i + 1 ∧ i ≤ 9 ∧ l[i] < 128 ∧ Begins l (val (l.take i) + 128 ^ i * l[i]) (l.drop (i + 1))

set_option maxHeartbeats 2000000 in
theorem rwhole_any (v : Value) (lo hi : Nat) (l : List Nat) (w : World) (hv : Bs w lo hi v l) (hb : ∀ b ∈ l, b < 256) :
    Calls Try.prog 87 #[v] w fun e w' => ∃ m : Nat, e = .returned (.int .i64 (m : Int)) ∧ w = w' ∧ Wh l m := by
  obtain ⟨A, c, rfl, x1, x2, x3, hby⟩ := hv
  have hlen : l.length ≤ 9223372036854775807 := by unfold maxLen at x2; omega
  have HBY := Lib.hid hby
  have HB := Lib.hid hb
  clear x1 x2 x3 hby hb
  go_enter Try.func87, Try.ntmps87
  go_wp2_with fail
  go_loop [3] (fun i => ∃ k : Nat, k ≤ l.length ∧ i = .int .i64 (k : Int) ∧ Hid (More (l.take k))) (fun i => l.length - (intOf i).toNat)
  case atStart => exact ⟨0, Nat.zero_le _, rfl, more_nil l⟩
  case round =>
    obtain ⟨k, hk, rfl, HM⟩ := hrel
    by_cases hlt : k < l.length
    · obtain ⟨b, o, rfl, _, _, hcell⟩ := HBY.out.at_ hlt
      have hxb : l[k] < 256 := HB.out _ (List.getElem_mem hlt)
      obtain ⟨x, hx⟩ : ∃ x, x = l[k] := ⟨_, rfl⟩
      have HX := Lib.hid hx
      rw [← hx] at hcell hxb
      have d1 : decide ((k : Int) < (l.length : Int)) = true := decide_eq_true (by omega)
      have d1n : decide (k < l.length) = true := decide_eq_true hlt
      have d0 : ((k : Int) == (l.length : Int)) = false := by rw [beq_eq_false_iff_ne]; omega
      have d0n : (k == l.length) = false := by rw [beq_eq_false_iff_ne]; omega
      clear hx
      by_cases hmore : 127 < x
      · have d2 : decide ((127 : Int) < (x : Int)) = true := decide_eq_true (by omega)
        have d2n : decide (127 < x) = true := decide_eq_true hmore
        have HS := Lib.hid (more_succ hlt HM.out (by rw [← HX.out]; omega) (by rw [← HX.out]; omega))
        clear hmore d0 d0n
        go_wp2_with fail
        go_round
        case rel => exact ⟨k + 1, by omega, by go_num, HS⟩
        case measure => simp [intOf]; omega
      · have d2 : decide ((127 : Int) < (x : Int)) = false := decide_eq_false (by omega)
        have d2n : decide (127 < x) = false := decide_eq_false hmore
        have HLT := Lib.hid hlt
        have HX128 := Lib.hid (show x < 128 by omega)
        clear hmore hxb
        rcases Nat.lt_trichotomy k 9 with h9 | h9 | h9
        · have d3 : decide ((9 : Int) < (k : Int)) = false := decide_eq_false (by omega)
          have d3n : decide (9 < k) = false := decide_eq_false (by omega)
          have d4 : ((k : Int) == 9) = false := by rw [beq_eq_false_iff_ne]; omega
          have d4n : (k == 9) = false := by rw [beq_eq_false_iff_ne]; omega
          by_cases h0 : k = 0
          · have d5 : decide ((0 : Int) < (k : Int)) = false := decide_eq_false (by omega)
            have d5n : decide (0 < k) = false := decide_eq_false (by omega)
            have HW : Hid (Wh l (k + 1)) := .inr ⟨k, hlt, rfl, by omega, by rw [← HX.out]; exact HX128.out, begins_of hlt HM.out (by rw [← HX.out]; exact HX128.out) (fun h => absurd h0 h) (.inl h9)⟩
            clear h9 h0
            go_wp2_with fail
            go_ret
            exact ⟨k + 1, by go_num, rfl, HW.out⟩
          · have d5 : decide ((0 : Int) < (k : Int)) = true := decide_eq_true (by omega)
            have d5n : decide (0 < k) = true := decide_eq_true (by omega)
            by_cases hx0 : x = 0
            · have d6 : ((x : Int) == 0) = true := by rw [hx0]; rfl
              have d6n : (x == 0) = true := by rw [hx0]; rfl
              have HW : Hid (Wh l 0) := .inl ⟨rfl, not_begins_zero hlt HM.out h0 (by rw [← HX.out]; exact hx0)⟩
              clear h9 h0 hx0
              go_wp2_with fail
              go_ret
              exact ⟨0, rfl, rfl, HW.out⟩
            · have d6 : ((x : Int) == 0) = false := by rw [beq_eq_false_iff_ne]; omega
              have d6n : (x == 0) = false := by rw [beq_eq_false_iff_ne]; omega
              have HW : Hid (Wh l (k + 1)) := .inr ⟨k, hlt, rfl, by omega, by rw [← HX.out]; exact HX128.out, begins_of hlt HM.out (by rw [← HX.out]; exact HX128.out) (fun _ => by rw [← HX.out]; exact hx0) (.inl h9)⟩
              clear h9 h0 hx0
              go_wp2_with fail
              go_ret
              exact ⟨k + 1, by go_num, rfl, HW.out⟩
        · have d3 : decide ((9 : Int) < (k : Int)) = false := decide_eq_false (by omega)
          have d3n : decide (9 < k) = false := decide_eq_false (by omega)
          have d4 : ((k : Int) == 9) = true := by rw [h9]; rfl
          have d4n : (k == 9) = true := by rw [h9]; rfl
          have d5 : decide ((0 : Int) < (k : Int)) = true := decide_eq_true (by omega)
          have d5n : decide (0 < k) = true := decide_eq_true (by omega)
          have hcell9 : w.cell? ⟨b, o + 9, none⟩ = some (.int .u8 (x : Int)) := by rw [← h9]; exact hcell
          have g9 : (9 : Int) < (l.length : Int) := by omega
          have g9n : 9 < l.length := by omega
          by_cases hx1 : 1 < x
          · have d7 : decide ((1 : Int) < (x : Int)) = true := decide_eq_true (by omega)
            have d7n : decide (1 < x) = true := decide_eq_true hx1
            have HW : Hid (Wh l 0) := .inl ⟨rfl, not_begins_nine g9n (by have := HM.out; rw [h9] at this; exact this) (by have := HX.out; subst h9; rw [← this]; exact hx1)⟩
            clear h9 hx1
            go_wp2_with fail
            go_ret
            exact ⟨0, rfl, rfl, HW.out⟩
          · have d7 : decide ((1 : Int) < (x : Int)) = false := decide_eq_false (by omega)
            have d7n : decide (1 < x) = false := decide_eq_false hx1
            by_cases hx0 : x = 0
            · have d6 : ((x : Int) == 0) = true := by rw [hx0]; rfl
              have d6n : (x == 0) = true := by rw [hx0]; rfl
              have HW : Hid (Wh l 0) := .inl ⟨rfl, not_begins_zero hlt HM.out (by omega) (by rw [← HX.out]; exact hx0)⟩
              clear h9 hx0 hx1
              go_wp2_with fail
              go_ret
              exact ⟨0, rfl, rfl, HW.out⟩
            · have d6 : ((x : Int) == 0) = false := by rw [beq_eq_false_iff_ne]; omega
              have d6n : (x == 0) = false := by rw [beq_eq_false_iff_ne]; omega
              have HW : Hid (Wh l (k + 1)) := .inr ⟨k, hlt, rfl, by omega, by rw [← HX.out]; exact HX128.out, begins_of hlt HM.out (by rw [← HX.out]; exact HX128.out) (fun _ => by rw [← HX.out]; exact hx0) (.inr ⟨h9, by rw [← HX.out]; omega⟩)⟩
              clear h9 hx0 hx1
              go_wp2_with fail
              go_ret
              exact ⟨k + 1, by go_num, rfl, HW.out⟩
        · have d3 : decide ((9 : Int) < (k : Int)) = true := decide_eq_true (by omega)
          have d3n : decide (9 < k) = true := decide_eq_true h9
          have hl9 : l[9]'(by omega) ∈ l.take k := by
            rw [List.mem_iff_getElem]
            exact ⟨9, by simp; omega, by simp⟩
          have HW : Hid (Wh l 0) := .inl ⟨rfl, not_begins_nine (by omega) (fun y hy => HM.out y (by
            have : l.take 9 = (l.take k).take 9 := by rw [List.take_take, Nat.min_eq_left (by omega)]
            rw [this] at hy; exact List.mem_of_mem_take hy)) (by have := (HM.out _ hl9).1; omega)⟩
          clear h9 hl9
          go_wp2_with fail
          go_ret
          exact ⟨0, rfl, rfl, HW.out⟩
    · have d1 : decide ((k : Int) < (l.length : Int)) = false := decide_eq_false (by omega)
      have d1n : decide (k < l.length) = false := decide_eq_false hlt
      have d0 : ((k : Int) == (l.length : Int)) = true := by rw [beq_iff_eq]; omega
      have d0n : (k == l.length) = true := by rw [beq_iff_eq]; omega
      have HW : Hid (Wh l 0) := .inl ⟨rfl, not_begins_more (by have := HM.out; rw [List.take_of_length_le (by omega)] at this; exact this)⟩
      clear hlt
      go_wp2_with fail
      go_ret
      exact ⟨0, rfl, rfl, HW.out⟩
end Go.Proofs.Ytgflhbpmkcggnaa

/- The reference's reader: its numbers. -/
namespace Go.Proofs.Ytgflhbpmkcggnaa
open Go.ChangeShapes Go.WideShapes Go.ChangeAt Go.RowKit

theorem QObj.c0 {w : World} {q : Nat} {v : Value} (h : QObj w q v) : w.cell? ⟨q, 0, none⟩ = some v := cell_of_row w q 0 _ _ (0, 0) h
theorem QObj.f0 {w : World} {q : Nat} {v : Value} (h : QObj w q v) : w.frozen? ⟨q, 0, none⟩ = false := by unfold QObj at h; simp [World.frozen?, h]

/-- What the reference's reader answers. -/
def QPost (zero : Value) (ok : Value → List Nat → World → Prop) (err : Int → Prop) (w : World) (q lo hi : Nat) (l : List Nat) (e : Ending) (w' : World) : Prop :=
  (∃ v rest, ok v rest w' ∧ e = .returned (.tuple #[v, .int .i64 0]) ∧ Qd w' q lo hi rest ∧ w.grownBy w' (some q)) ∨
  (∃ n, err n ∧ n ≠ 0 ∧ e = .returned (.tuple #[zero, .int .i64 n]) ∧ Qd w' q lo hi l ∧ w.grownBy w' (some q))

theorem qd_cut {w : World} {q lo hi c c2 : Nat} {l : List Nat} {A A2 : Option Addr} (k : Nat) (h : Qd w q lo hi l) (h1 : QObj w q (.slice A l.length c))
    (hc2 : l.length - k ≤ c2) (hcm : c2 ≤ maxLen) (hnil : A2 = none → c2 = 0) (hby : By w lo hi A2 (l.drop k)) :
    Qd (w.setCell ⟨q, 0, none⟩ (.slice A2 (l.length - k) c2)) q lo hi (l.drop k) := by
  have hl2 : (l.drop k).length = l.length - k := by simp
  have hap := h.apart
  have ht := h.top
  exact ⟨⟨_, h1.set _, A2, c2, by rw [hl2], by omega, hcm, hnil, Sl.setCell hby (by simpa using hap) _⟩, hap, by simpa [World.setCell] using ht, fun q hq => h.byt q (List.mem_of_mem_drop hq)⟩

/-- The digits from place j on. -/
def Vd (l : List Nat) (m j : Nat) : Nat := val ((l.take m).drop j)
theorem vd_step {l : List Nat} {m j : Nat} (hm : m ≤ l.length) (hj : j < m) : Vd l m j = l[j]'(by omega) % 128 + 128 * Vd l m (j + 1) := by
  unfold Vd
  have h1 : j < (l.take m).length := by simp; omega
  rw [List.drop_eq_getElem_cons h1, val]
  simp
theorem vd_le (l : List Nat) (m : Nat) : ∀ j, Vd l m j ≤ val (l.take m) := by
  intro j
  have h := val_append ((l.take m).take j) ((l.take m).drop j)
  rw [List.take_append_drop] at h
  unfold Vd
  have h2 : 0 < 128 ^ ((l.take m).take j).length := Nat.pow_pos (by omega)
  have := Nat.le_mul_of_pos_left (val ((l.take m).drop j)) h2
  omega
theorem vd_top (l : List Nat) (m : Nat) (hm : m ≤ l.length) : Vd l m m = 0 := by
  unfold Vd; rw [List.drop_of_length_le (by simp; omega)]; rfl
theorem vd_zero (l : List Nat) (m : Nat) : Vd l m 0 = val (l.take m) := by simp [Vd]
theorem vd_sum {a x s : Nat} (h : s = x % 128 + 128 * a) (h2 : s < 18446744073709551616) : a * 128 < 18446744073709551616 ∧ a * 128 + x % 128 = s := by omega

theorem wrap_step {a x s : Nat} (h : a * 128 < 18446744073709551616) (h2 : a * 128 + x % 128 = s) (hs : s < 18446744073709551616) :
    IntKind.u64.wrap (IntKind.u64.wrap ((a : Int) * 128) + (x : Int) % 128) = (s : Int) := by
  have e1 : ∀ n : Int, 0 ≤ n → n < 18446744073709551616 → IntKind.u64.wrap n = n := fun n h0 h1 => by
    simp only [IntKind.wrap_u64]; omega
  have h3 : (a : Int) * 128 < 18446744073709551616 := by omega
  rw [e1 _ (by omega) h3, e1 _ (by omega) (by omega)]
  omega

set_option maxHeartbeats 2000000 in
theorem RNumber_any (q lo hi : Nat) (l : List Nat) (w : World) (h : Qd w q lo hi l) :
    Calls Try.prog 67 #[.pointer (some ⟨q, 0, none⟩)] w (QPost (.int .u64 0) (OkNum l) (ErrNum l) w q lo hi l) := by
  obtain ⟨v, h1, hv⟩ := h.ex
  have HC := Lib.hid (rwhole_any v lo hi l w hv h.byt)
  obtain ⟨A, c, rfl, hlc, hcm, hnil, hby⟩ := hv
  have c0 := h1.c0
  have f0 := h1.f0
  have H1 := Lib.hid h1
  have HR := Lib.hid h
  have HBY := Lib.hid hby
  have HLC := Lib.hid hlc
  have HCM := Lib.hid hcm
  have HNL := Lib.hid hnil
  clear h h1 hby hlc hcm hnil
  go_enter Try.func67, Try.ntmps67
  go_wp2_with fail
  refine Calls.mono HC.out ?_
  rintro e w1 ⟨m, rfl, rfl, ⟨rfl, hno⟩ | ⟨i, hil, rfl, hi9, hi128, hb⟩⟩
  · have HF : Hid (QPost (.int .u64 0) (OkNum l) (ErrNum l) w q lo hi l (.returned (.tuple #[.int .u64 0, .int .i64 4])) w) := .inr ⟨4, ⟨rfl, hno⟩, by decide, rfl, HR.out, World.grownBy.refl w _⟩
    clear hno
    go_wp2_with fail
    go_ret2
    exact HF.out
  · obtain ⟨m, hm⟩ : ∃ m, m = i + 1 := ⟨_, rfl⟩
    rw [← hm]
    have hml : m ≤ l.length := by omega
    have hval : val (l.take m) = val (l.take i) + 128 ^ i * l[i] := by rw [hm, val_succ hil, Nat.mod_eq_of_lt hi128]
    rw [← hval, ← hm] at hb
    have d0 : ((m : Int) == 0) = false := by rw [beq_eq_false_iff_ne]; omega
    have d0n : (m == 0) = false := by rw [beq_eq_false_iff_ne]; omega
    have HB := Lib.hid hb
    have HM := Lib.hid hm
    have HML := Lib.hid hml
    have hi9' : i ≤ 9 := hi9
    have hm10 : m ≤ 10 := by omega
    clear hb hval hi128 hm
    go_wp2_with fail
    go_loop [5, 6] (fun n i => (∃ k a : Nat, k < m ∧ i = .int .i64 (k : Int) ∧ n = .int .u64 (a : Int) ∧ Hid (a = Vd l m (k + 1))) ∨ (∃ a : Nat, i = .int .i64 (-1) ∧ n = .int .u64 (a : Int) ∧ Hid (a = Vd l m 0))) (fun _ i => (intOf i + 1).toNat)
    case atStart => exact .inl ⟨i, 0, by have := HM.out; omega, by have := HM.out; congr 1; omega, rfl, Lib.hid (by rw [← HM.out, vd_top _ _ hml])⟩
    case round =>
      rcases hrel with ⟨k, a, hk, rfl, rfl, HV⟩ | ⟨a, rfl, rfl, HV⟩
      · have hkl : k < l.length := by omega
        obtain ⟨b, o, rfl, _, _, hcell⟩ := HBY.out.at_ hkl
        obtain ⟨x, hx⟩ : ∃ x, x = l[k] := ⟨_, rfl⟩
        rw [← hx] at hcell
        obtain ⟨s, hs⟩ : ∃ s, s = Vd l m k := ⟨_, rfl⟩
        have hstep := vd_step hml hk
        have hs64 : s < 18446744073709551616 := by rw [hs]; exact Nat.lt_of_le_of_lt (vd_le l m k) HB.out.n64.lt
        rw [← hs, ← hx, ← HV.out] at hstep
        obtain ⟨y1, y2⟩ := vd_sum hstep hs64
        have HS := Lib.hid hs
        have HY1 := Lib.hid y1
        have HY2 := Lib.hid y2
        have HW := Lib.hid (wrap_step y1 y2 hs64)
        clear hs hx hstep y1 y2 HV hs64
        go_wp2_with fail
        go_round
        case rel =>
          rw [HW.out]
          rcases Nat.eq_zero_or_pos k with h0 | h0
          · exact .inr ⟨s, by congr 1; omega, rfl, Lib.hid (by rw [HS.out, h0])⟩
          · exact .inl ⟨k - 1, s, by omega, by congr 1; omega, rfl, Lib.hid (by rw [HS.out]; congr 1; omega)⟩
        case measure => simp only [intOf]; omega
      · have hml2 := hml
        obtain ⟨A2, hA2, hA2n, hrun⟩ := tail_run A l.length c m hml HLC.out
        have hlc2 := HLC.out
        have hcm2 := HCM.out
        have hrd := qd_cut (c2 := c - m) m HR.out H1.out (by omega) (by omega) (fun hn => by have := HNL.out (hA2n hn); omega) (hA2 l rfl _ _ _ HBY.out)
        have hav : a = val (l.take m) := by rw [HV.out, vd_zero]
        have HF : Hid (QPost (.int .u64 0) (OkNum l) (ErrNum l) w q lo hi l (.returned (.tuple #[.int .u64 (a : Int), .int .i64 0])) (w.setCell ⟨q, 0, none⟩ (.slice A2 (l.length - m) (c - m)))) :=
          .inl ⟨_, l.drop m, ⟨a, by rw [hav]; exact HB.out, rfl⟩, rfl, hrd, grownBy_set _ _ _ _⟩
        clear hrd hA2 hA2n hlc2 hcm2 hav HV hml2
        go_wp2_with fail
        go_ret2
        exact HF.out

theorem half_even {n : Nat} (h : n < 18446744073709551616) : ((n : Int) / 2) < 9223372036854775808 := by omega
theorem zz_half (n : Nat) : (n % 2 = 0 → zz ((n : Int) / 2) = n) ∧ (n % 2 = 1 → zz (-1 - (n : Int) / 2) = n) := by
  constructor
  · intro h; unfold zz; rw [if_pos (by omega)]; omega
  · intro h; unfold zz; rw [if_neg (by omega)]; omega

theorem RLeft_any (q lo hi : Nat) (l : List Nat) (w : World) (h : Qd w q lo hi l) :
    Calls Try.prog 69 #[.pointer (some ⟨q, 0, none⟩)] w fun e w' => e = .returned (.int .i64 (l.length : Int)) ∧ w = w' := by
  obtain ⟨v, h1, A, c, rfl, hlc, hcm, hnil, hby⟩ := h.ex
  have c0 := h1.c0
  have f0 := h1.f0
  clear h h1 hlc hcm hnil hby
  go_enter Try.func69, Try.ntmps69
  go_wp2_with fail
  go_ret
  exact ⟨rfl, rfl⟩

/-- Why the reference counts none. -/
def RErrCount (most : Int) (l : List Nat) (n : Int) : Prop := (n = 4 ∧ NoNum l) ∨ (n = 3 ∧ ∃ m rest, Begins l m rest ∧ most < (m : Int))

set_option maxHeartbeats 1000000 in
theorem Rmany_any (most : Int) (hm1 : 0 ≤ most) (hm2 : most ≤ 9223372036854775807) (q lo hi : Nat) (l : List Nat) (w : World) (h : Qd w q lo hi l) :
    Calls Try.prog 88 #[.pointer (some ⟨q, 0, none⟩), .int .i64 most] w fun e w' => w.grownBy w' (some q) ∧ ((∃ (n : Nat) (rest : List Nat), Begins l n rest ∧ (n : Int) ≤ most ∧ e = .returned (.tuple #[.int .u64 (n : Int), .int .i64 0]) ∧ Qd w' q lo hi rest) ∨
      (∃ n rest, RErrCount most l n ∧ n ≠ 0 ∧ e = .returned (.tuple #[.int .u64 0, .int .i64 n]) ∧ rest.length ≤ l.length ∧ Qd w' q lo hi rest)) := by
  obtain ⟨m, rfl⟩ : ∃ m : Nat, most = m := ⟨most.toNat, by omega⟩
  have hm64 : IntKind.u64.wrap (m : Int) = (m : Int) := by rw [IntKind.wrap_u64]; omega
  have HC := Lib.hid (RNumber_any q lo hi l w h)
  clear h hm1
  go_enter Try.func88, Try.ntmps88
  go_wp2_with fail
  refine Calls.mono HC.out ?_
  rintro e w1 (⟨v, rest, ⟨n, hb, rfl⟩, rfl, hr, hg⟩ | ⟨k, ⟨rfl, hno⟩, _, rfl, hr, hg⟩)
  · have HR := Lib.hid hr
    have HG := Lib.hid hg
    have HB := Lib.hid hb
    clear hr hg hb
    by_cases hle : m < n
    · have d : decide ((m : Int) < (n : Int)) = true := decide_eq_true (by omega)
      have dn : decide (m < n) = true := decide_eq_true hle
      have HLE := Lib.hid hle
      clear hle
      go_wp2_with fail
      go_ret2
      exact ⟨HG.out, .inr ⟨3, rest, .inr ⟨rfl, n, rest, HB.out, by have := HLE.out; omega⟩, by decide, rfl, by have := congrArg List.length HB.out.eq; simp at this; omega, HR.out⟩⟩
    · have d : decide ((m : Int) < (n : Int)) = false := decide_eq_false (by omega)
      have dn : decide (m < n) = false := decide_eq_false hle
      have HLE := Lib.hid hle
      clear hle
      go_wp2_with fail
      go_ret2
      exact ⟨HG.out, .inl ⟨n, rest, HB.out, by have := HLE.out; omega, rfl, HR.out⟩⟩
  · have HR := Lib.hid hr
    have HG := Lib.hid hg
    have HN := Lib.hid hno
    clear hr hg hno
    go_wp2_with fail
    go_ret2
    exact ⟨HG.out, .inr ⟨4, l, .inl ⟨rfl, HN.out⟩, by decide, rfl, Nat.le_refl _, HR.out⟩⟩
end Go.Proofs.Ytgflhbpmkcggnaa

/- The reference's reader: bytes. -/
namespace Go.Proofs.Ytgflhbpmkcggnaa
open Go.ChangeShapes Go.WideShapes Go.ChangeAt Go.RowKit

theorem Qd.back {w w' : World} {q lo hi : Nat} {l rest : List Nat} {v : Value} (h0 : Qd w q lo hi l) (hv : Bs w lo hi v l) (hg : w.grownBy w' (some q)) (h : Qd w' q lo hi rest) :
    Qd (w'.setCell ⟨q, 0, none⟩ v) q lo hi l := by
  obtain ⟨v', h1, _⟩ := h.ex
  have hap := h0.apart
  have ht := h.top
  exact ⟨⟨v, h1.set v, (hv.grown hg h0.top (fun k hk => by injection hk with hk; omega)).setCell (by simpa using hap) _⟩, hap, by simpa [World.setCell] using ht, h0.byt⟩
theorem Qd.room {w : World} {q lo hi : Nat} {l : List Nat} (h : Qd w q lo hi l) : ∃ A c, QObj w q (.slice A l.length c) ∧ l.length ≤ c ∧ c ≤ maxLen ∧ (A = none → c = 0) ∧ By w lo hi A l := by
  obtain ⟨v, h1, A, c, rfl, h2, h3, h4, h5⟩ := h.ex
  exact ⟨A, c, h1, h2, h3, h4, h5⟩
theorem QObj.below {w w' : World} {q B : Nat} {v : Value} (h : QObj w q v) (hb : Below B w w') (hq : q < B) : QObj w' q v := (hb.block q hq).trans h

def RErrText (most : Int) (l : List Nat) (n : Int) : Prop := RErrCount most l n ∨ (n = 4 ∧ ∃ m rest, Begins l m rest ∧ (m : Int) ≤ most ∧ rest.length < m)

set_option maxHeartbeats 2000000 in
theorem RBytes_any (most : Int) (hm1 : 0 ≤ most) (hm2 : most ≤ 9223372036854775807) (q lo hi : Nat) (l : List Nat) (w : World) (h : Qd w q lo hi l) (hl : l.length ≤ 1000000000000) :
    Calls Try.prog 68 #[.pointer (some ⟨q, 0, none⟩), .int .i64 most] w (QPost (.slice none 0 0) (OkText w.heap.size most l) (RErrText most l) w q lo hi l) := by
  obtain ⟨i0, hi0, ix0, ix1, ix2⟩ := info_parts t5info
  have HI := Lib.hid hi0
  have HC := Lib.hid (Rmany_any most hm1 hm2 q lo hi l w h)
  obtain ⟨A0, c0, h1, hlc, hcm, hnil, hby⟩ := h.room
  have e0 := h1.c0
  have g0 := h1.f0
  have HBS := Lib.hid (show Bs w lo hi (.slice A0 l.length c0) l from ⟨A0, c0, rfl, hlc, hcm, hnil, hby⟩)
  have HR := Lib.hid h
  have HL := Lib.hid hl
  have HQ := Lib.hid h.lt
  clear h h1 hlc hcm hnil hby hm1 hm2 hl hi0
  go_enter Try.func68, Try.ntmps68
  go_wp2_with fail
  refine Calls.mono HC.out ?_
  rintro e w1 ⟨hg, ⟨n, rest, hb, hle, rfl, hr⟩ | ⟨n, rest, hn, hn0, rfl, hrl, hr⟩⟩
  · obtain ⟨A, c, h1, hlc, hcm, hnil, hby⟩ := hr.room
    have e1 := h1.c0
    have g1 := h1.f0
    have hlr : rest.length ≤ l.length := by have := congrArg List.length hb.eq; simp at this; omega
    have hlI : (rest.length : Int) ≤ 1000000000000 := by have := HL.out; omega
    have HH1 := Lib.hid h1
    have HR1 := Lib.hid hr
    have HB := Lib.hid hb
    have HG := Lib.hid hg
    have HLC := Lib.hid hlc
    have HCM := Lib.hid hcm
    have HNL := Lib.hid hnil
    have HBY := Lib.hid hby
    have HLE := Lib.hid hle
    clear h1 hr hb hg hlc hcm hnil hby hlr hle
    by_cases hlt : rest.length < n
    · have hd : decide (rest.length < n) = true := by simp [hlt]
      have hd2 : decide ((rest.length : Int) < (n : Int)) = true := by simp; omega
      have HF : Hid (QPost (.slice none 0 0) (OkText w.heap.size most l) (RErrText most l) w q lo hi l (.returned (.tuple #[.slice none 0 0, .int .i64 4])) (w1.setCell ⟨q, 0, none⟩ (.slice A0 l.length c0))) :=
        .inr ⟨4, .inr ⟨rfl, n, rest, HB.out, HLE.out, hlt⟩, by decide, rfl, HR.out.back HBS.out HG.out HR1.out, grownBy_trans HG.out (grownBy_set _ _ _ _)⟩
      go_wp2_with fail
      go_ret2
      exact HF.out
    · have hd : decide (rest.length < n) = false := by simp; omega
      have hd2 : decide ((rest.length : Int) < (n : Int)) = false := by simp; omega
      obtain ⟨A1, hA1, hA1n, hrun1⟩ := head_run .u64 A rest.length c n (by omega) HLC.out
      obtain ⟨A2, hA2, hA2n, hrun2⟩ := tail_run' .u64 A rest.length c n (by omega) HLC.out
      have hnl : (rest.take n).length = n := by simp; omega
      have hn12 : n ≤ 1000000000000 := by omega
      have H2 := Lib.hid hA2
      have H2n := Lib.hid (fun h => HNL.out (hA2n h))
      have HA1 := Lib.hid (hA1 rest rfl w1 lo hi HBY.out)
      have HN1 := Lib.hid (fun h => HNL.out (hA1n h))
      have HLT := Lib.hid hlt
      have HNL2 := Lib.hid hnl
      clear hA1 hA1n hA2 hA2n hlt hnl
      go_wp2_with (at_builtin; refine wpList_addall rfl (.const (.slice none 0 0)) (.tmp 44) 29 rfl w1.heap.size 5 i0 (.int .u8 0) 1 Try.underlying29 HI.out ix0 ix1 ix2 rfl _ _ _ rfl (World.ownsRow_nil _ _ _ _) lo hi A1 n c (bv (rest.take n)) rfl HN1.out (by rw [bv_length]; exact HNL2.out) HA1.out (bv_one _) (by unfold maxLen; omega) (by omega) (Nat.le_refl _) ?_)
      intro v2 w2 hown hbel
      have hbel := hbel w1 (Below.refl _ _)
      have e2 := (HH1.out.below hbel HH1.out.lt).c0
      have g2 := (HH1.out.below hbel HH1.out.lt).f0
      have HH2 := Lib.hid (HH1.out.below hbel HH1.out.lt)
      have HR2 := Lib.hid (HR1.out.below hbel HR1.out.top HR1.out.lt)
      have HOWN := Lib.hid (show w2.ownsRow w1.heap.size 5 1 v2 (rest.take n).length (bv (rest.take n)) by simpa [HNL2.out] using hown)
      have HBEL := Lib.hid hbel
      clear hown hbel e1 g1
      have hby2 : By w2 lo hi A rest := Sl.below HBY.out HBEL.out HR1.out.top
      have hrd := qd_cut (c2 := c - n) n HR2.out HH2.out (by have := HLC.out; omega) (by have := HCM.out; omega) (fun h => by have := H2n.out h; omega) (H2.out rest rfl _ _ _ hby2)
      have hsz := HG.out.size
      have HF : Hid (QPost (.slice none 0 0) (OkText w.heap.size most l) (RErrText most l) w q lo hi l (.returned (.tuple #[v2, .int .i64 0])) (w2.setCell ⟨q, 0, none⟩ (.slice A2 (rest.length - n) (c - n)))) := by
        refine .inl ⟨_, rest.drop n, ⟨rest.take n, by rw [HNL2.out]; exact HLE.out, by rw [HNL2.out]; exact HB.out.n64, ?_, ?_⟩, rfl, hrd, grownBy_trans (grown_then HG.out HBEL.out) (grownBy_set _ _ _ _)⟩
        · unfold bytesForm
          rw [HNL2.out, List.append_assoc, List.take_append_drop]
          exact HB.out.eq
        · exact own_lower (ownsRow_setCell_below HOWN.out (by have := HQ.out; show q < _; omega) _) hsz
      clear hrd hby2 hsz
      go_wp2_with fail
      go_ret2
      exact HF.out
  · have hnb : (n != 0) = true := by simpa using hn0
    have hnq : (n == 0) = false := by simpa using hn0
    have h1 : ∃ v, QObj w1 q v := by obtain ⟨v, h, _⟩ := hr.ex; exact ⟨v, h⟩
    obtain ⟨v, h1⟩ := h1
    have e1 := h1.c0
    have g1 := h1.f0
    have HF : Hid (QPost (.slice none 0 0) (OkText w.heap.size most l) (RErrText most l) w q lo hi l (.returned (.tuple #[.slice none 0 0, .int .i64 n])) (w1.setCell ⟨q, 0, none⟩ (.slice A0 l.length c0))) :=
      .inr ⟨n, .inl hn, hn0, rfl, HR.out.back HBS.out hg hr, grownBy_trans hg (grownBy_set _ _ _ _)⟩
    clear hn hn0 hrl hr hg h1
    go_wp2_with fail
    go_ret2
    exact HF.out
end Go.Proofs.Ytgflhbpmkcggnaa

/- The reference's reader: a list of numbers. -/
namespace Go.Proofs.Ytgflhbpmkcggnaa
open Go.ChangeShapes Go.WideShapes Go.ChangeAt Go.RowKit

def RErrList (most : Int) (l : List Nat) (n : Int) : Prop := RErrCount most l n ∨ (n = 4 ∧ ∃ m mid, Begins l m mid ∧ (m : Int) ≤ most ∧ ∃ xs rest, xs.length < m ∧ AllNum mid xs rest ∧ NoNum rest)
def lenOf : Value → Nat
  | .slice _ n _ => n
  | _ => 0

def RIn (w : World) (q lo hi n : Nat) (mid : List Nat) (e v : Value) (wr : World) : Prop :=
  w.grownBy wr (some q) ∧ ((∃ (xs rest : List Nat), xs.length ≤ n ∧ e = .int .i64 0 ∧ AllNum mid xs rest ∧ Qd wr q lo hi rest ∧ wr.ownsRow w.heap.size 59 1 v xs.length (uv xs)) ∨
    (∃ (xs ys rest : List Nat), e = .int .i64 4 ∧ xs.length < n ∧ AllNum mid xs rest ∧ NoNum rest ∧ Qd wr q lo hi rest ∧ wr.ownsRow w.heap.size 59 1 v ys.length (uv ys) ∧ ys.length = xs.length + 1))

end Go.Proofs.Ytgflhbpmkcggnaa

/- What is read, by the program's reader and by the reference's, said at once; it is told. -/
namespace Go.Proofs.Ytgflhbpmkcggnaa
open Go.ChangeShapes Go.WideShapes Go.ChangeAt Go.RowKit

def OutNum (l : List Nat) (n : Nat) (k : Int) (rest : List Nat) : Prop := (k = 0 ∧ Begins l n rest) ∨ (k = 4 ∧ NoNum l ∧ rest = l ∧ n = 0)
def OutSig (l : List Nat) (s : Int) (k : Int) (rest : List Nat) : Prop := (k = 0 ∧ Begins l (zz s) rest) ∨ (k = 4 ∧ NoNum l ∧ rest = l ∧ s = 0)
def OutFlag (l : List Nat) (b : Bool) (k : Int) (rest : List Nat) : Prop := (k = 0 ∧ l = flagForm b ++ rest) ∨ (k = 4 ∧ (∀ b rest, l ≠ flagForm b ++ rest) ∧ rest = l ∧ b = false)
def OutText (most : Int) (l bs : List Nat) (k : Int) (rest : List Nat) : Prop := (k = 0 ∧ (bs.length : Int) ≤ most ∧ U64 bs.length ∧ l = bytesForm bs ++ rest) ∨ (k ≠ 0 ∧ ErrText most l k ∧ rest = l ∧ bs = [])
theorem OutNum.same {l r r' : List Nat} {n n' : Nat} {k k' : Int} (h : OutNum l n k r) (h' : OutNum l n' k' r') : n = n' ∧ k = k' ∧ r = r' := by
  rcases h with ⟨rfl, hb⟩ | ⟨rfl, hno, rfl, rfl⟩ <;> rcases h' with ⟨rfl, hb'⟩ | ⟨rfl, hno', rfl, rfl⟩
  · obtain ⟨h1, h2⟩ := hb.unique hb'; exact ⟨h1, rfl, h2⟩
  · exact absurd hb (hno' _ _)
  · exact absurd hb' (hno _ _)
  · exact ⟨rfl, rfl, rfl⟩
theorem OutSig.same {l r r' : List Nat} {n n' : Int} {k k' : Int} (h : OutSig l n k r) (h' : OutSig l n' k' r') : n = n' ∧ k = k' ∧ r = r' := by
  rcases h with ⟨rfl, hb⟩ | ⟨rfl, hno, rfl, rfl⟩ <;> rcases h' with ⟨rfl, hb'⟩ | ⟨rfl, hno', rfl, rfl⟩
  · obtain ⟨h1, h2⟩ := hb.unique hb'; exact ⟨zz_inj h1, rfl, h2⟩
  · exact absurd hb (hno' _ _)
  · exact absurd hb' (hno _ _)
  · exact ⟨rfl, rfl, rfl⟩
theorem OutFlag.same {l r r' : List Nat} {n n' : Bool} {k k' : Int} (h : OutFlag l n k r) (h' : OutFlag l n' k' r') : n = n' ∧ k = k' ∧ r = r' := by
  rcases h with ⟨rfl, hb⟩ | ⟨rfl, hno, rfl, rfl⟩ <;> rcases h' with ⟨rfl, hb'⟩ | ⟨rfl, hno', rfl, rfl⟩
  · rw [hb] at hb'
    cases n <;> cases n' <;> simp [flagForm] at hb' <;> simp [hb']
  · exact absurd hb (hno' _ _)
  · exact absurd hb' (hno _ _)
  · exact ⟨rfl, rfl, rfl⟩
theorem begins_text {l bs rest : List Nat} (h : U64 bs.length) (he : l = bytesForm bs ++ rest) : Begins l bs.length (bs ++ rest) := ⟨h, by rw [he]; simp [bytesForm]⟩
theorem ErrCount.not {most : Int} {l : List Nat} {n : Int} {m : Nat} {rest : List Nat} (h : ErrCount most l n) (hb : Begins l m rest) (hle : (m : Int) ≤ most) : False := by
  rcases h with ⟨_, h0⟩ | ⟨_, _, hno⟩ | ⟨_, _, m', r', hb', hlt⟩
  · omega
  · exact hno _ _ hb
  · obtain ⟨e1, _⟩ := hb.unique hb'; omega
theorem ErrCount.same {most : Int} {l : List Nat} {n n' : Int} (h : ErrCount most l n) (h' : ErrCount most l n') : n = n' := by
  rcases h with ⟨rfl, h0⟩ | ⟨_, rfl, hno⟩ | ⟨_, rfl, m, r, hb, hlt⟩ <;> rcases h' with ⟨rfl, h0'⟩ | ⟨_, rfl, hno'⟩ | ⟨_, rfl, m', r', hb', hlt'⟩ <;> first | rfl | omega | exact absurd hb' (hno _ _) | exact absurd hb (hno' _ _)
theorem ErrText.same {most : Int} {l : List Nat} {n n' : Int} (h : ErrText most l n) (h' : ErrText most l n') : n = n' := by
  rcases h with h | ⟨rfl, m, r, hb, hle, hlt⟩ <;> rcases h' with h' | ⟨rfl, m', r', hb', hle', hlt'⟩
  · exact h.same h'
  · exact (h.not hb' hle').elim
  · exact (h'.not hb hle).elim
  · rfl
theorem ErrText.not {most : Int} {l : List Nat} {n : Int} (h : ErrText most l n) {bs rest : List Nat} (h1 : (bs.length : Int) ≤ most) (h2 : U64 bs.length) (h3 : l = bytesForm bs ++ rest) : False := by
  have hb := begins_text h2 h3
  rcases h with h | ⟨rfl, m, r, hb', hle, hlt⟩
  · exact h.not hb h1
  · obtain ⟨rfl, rfl⟩ := hb.unique hb'; simp at hlt; omega
theorem OutText.same {most : Int} {l r r' n n' : List Nat} {k k' : Int} (h : OutText most l n k r) (h' : OutText most l n' k' r') : n = n' ∧ k = k' ∧ r = r' := by
  rcases h with ⟨rfl, h1, h2, h3⟩ | ⟨_, he, rfl, rfl⟩ <;> rcases h' with ⟨rfl, h1', h2', h3'⟩ | ⟨_, he', rfl, rfl⟩
  · obtain ⟨e1, e2⟩ := (begins_text h2 h3).unique (begins_text h2' h3')
    obtain ⟨a1, a2⟩ := List.append_inj e2 e1
    exact ⟨a1, rfl, a2⟩
  · exact (he'.not h1 h2 h3).elim
  · exact (he.not h1' h2' h3').elim
  · exact ⟨rfl, he.same he', rfl⟩
theorem rcount {most : Int} (h0 : 0 ≤ most) {l : List Nat} {n : Int} (h : RErrCount most l n) : ErrCount most l n := by
  rcases h with ⟨rfl, h⟩ | ⟨rfl, m, r, h1, h2⟩
  · exact .inr (.inl ⟨h0, rfl, h⟩)
  · exact .inr (.inr ⟨h0, rfl, m, r, h1, h2⟩)
theorem OutText.neg {most : Int} {l bs rest : List Nat} {k : Int} (hm : most < 0) (h : OutText most l bs k rest) : k = 2 ∧ rest = l ∧ bs = [] := by
  rcases h with ⟨rfl, h1, _⟩ | ⟨_, he, rfl, rfl⟩
  · omega
  · exact ⟨he.same (.inl (.inl ⟨rfl, hm⟩)), rfl, rfl⟩
/-- The two readers, at the same bytes. -/
structure Both (w : World) (r lo hi q lo2 hi2 : Nat) (l : List Nat) : Prop where
  rd : Rd w r lo hi l
  qd : Qd w q lo2 hi2 l
  ne : r ≠ q
  a1 : q < lo ∨ hi ≤ q
  a2 : r < lo2 ∨ hi2 ≤ r
/-- Nothing that stood is other than it was, but the two readers. -/
structure G2 (r q : Nat) (w w' : World) : Prop where
  os : w'.os = w.os
  tape : w'.tape = w.tape
  output : w'.output = w.output
  size : w.heap.size ≤ w'.heap.size
  block : ∀ i, i < w.heap.size → i ≠ r → i ≠ q → w'.heap[i]? = w.heap[i]?
theorem G2.refl (r q : Nat) (w : World) : G2 r q w w := ⟨rfl, rfl, rfl, Nat.le_refl _, fun _ _ _ _ => rfl⟩
theorem G2.trans {r q : Nat} {a b c : World} (h : G2 r q a b) (k : G2 r q b c) : G2 r q a c :=
  ⟨k.os.trans h.os, k.tape.trans h.tape, k.output.trans h.output, Nat.le_trans h.size k.size, fun i hi h1 h2 => (k.block i (Nat.lt_of_lt_of_le hi h.size) h1 h2).trans (h.block i hi h1 h2)⟩
theorem g2_r {r q : Nat} {a b : World} (h : a.grownBy b (some r)) : G2 r q a b := ⟨h.os, h.tape, h.output, h.size, fun i hi h1 _ => h.block i hi (by intro e; injection e with e; exact h1 e)⟩
theorem g2_q {r q : Nat} {a b : World} (h : a.grownBy b (some q)) : G2 r q a b := ⟨h.os, h.tape, h.output, h.size, fun i hi _ h2 => h.block i hi (by intro e; injection e with e; exact h2 e)⟩
theorem g2_b {r q : Nat} {a b : World} (h : Below a.heap.size a b) : G2 r q a b := ⟨h.os, h.tape, h.output, h.size, fun i hi _ _ => h.block i hi⟩
theorem Both.q1 {w w' : World} {r lo hi q lo2 hi2 : Nat} {l : List Nat} (h : Both w r lo hi q lo2 hi2 l) (hg : w.grownBy w' (some r)) : Qd w' q lo2 hi2 l := h.qd.grown hg (fun e => h.ne e.symm) h.a2
theorem Both.then {w w1 w2 : World} {r lo hi q lo2 hi2 : Nat} {l rest : List Nat} (h : Both w r lo hi q lo2 hi2 l) (hr : Rd w1 r lo hi rest) (hg2 : w1.grownBy w2 (some q)) (hq : Qd w2 q lo2 hi2 rest) : Both w2 r lo hi q lo2 hi2 rest :=
  ⟨hr.grown hg2 (by intro e; injection e with e; exact h.ne e) (fun k hk => by injection hk with hk; have := h.a1; omega), hq, h.ne, h.a1, h.a2⟩
theorem Both.alloc {w : World} {r lo hi q lo2 hi2 : Nat} {l : List Nat} (h : Both w r lo hi q lo2 hi2 l) (o : Obj) : Both (w.alloc o) r lo hi q lo2 hi2 l :=
  ⟨h.rd.alloc o, h.qd.below ((Below.refl _ _).alloc (Nat.le_refl _) o) h.qd.top h.qd.lt, h.ne, h.a1, h.a2⟩
theorem Both.below {w w' : World} {r lo hi q lo2 hi2 : Nat} {l : List Nat} (h : Both w r lo hi q lo2 hi2 l) (hb : Below w.heap.size w w') : Both w' r lo hi q lo2 hi2 l :=
  ⟨h.rd.below hb h.rd.top h.rd.lt, h.qd.below hb h.qd.top h.qd.lt, h.ne, h.a1, h.a2⟩

theorem Number_out {r lo hi : Nat} {l : List Nat} {w : World} (h : Rd w r lo hi l) :
    Calls Try.prog 94 #[.pointer (some ⟨r, 0, none⟩)] w fun e w' => ∃ (n : Nat) (k : Int) (rest : List Nat), OutNum l n k rest ∧ e = .returned (.tuple #[.int .u64 (n : Int), .int .i64 k]) ∧ Rd w' r lo hi rest ∧ w.grownBy w' (some r) := by
  refine (Number_any r lo hi l w h).mono ?_
  rintro e w' (⟨v, rest, ⟨n, hb, rfl⟩, rfl, hr, hg⟩ | ⟨k, ⟨rfl, hno⟩, hk, rfl, hr, hg⟩)
  · exact ⟨n, 0, rest, .inl ⟨rfl, hb⟩, rfl, hr, hg⟩
  · exact ⟨0, 4, l, .inr ⟨rfl, hno, rfl, rfl⟩, rfl, hr, hg⟩
theorem RNumber_out {q lo hi : Nat} {l : List Nat} {w : World} (h : Qd w q lo hi l) :
    Calls Try.prog 67 #[.pointer (some ⟨q, 0, none⟩)] w fun e w' => ∃ (n : Nat) (k : Int) (rest : List Nat), OutNum l n k rest ∧ e = .returned (.tuple #[.int .u64 (n : Int), .int .i64 k]) ∧ Qd w' q lo hi rest ∧ w.grownBy w' (some q) := by
  refine (RNumber_any q lo hi l w h).mono ?_
  rintro e w' (⟨v, rest, ⟨n, hb, rfl⟩, rfl, hr, hg⟩ | ⟨k, ⟨rfl, hno⟩, hk, rfl, hr, hg⟩)
  · exact ⟨n, 0, rest, .inl ⟨rfl, hb⟩, rfl, hr, hg⟩
  · exact ⟨0, 4, l, .inr ⟨rfl, hno, rfl, rfl⟩, rfl, hr, hg⟩
theorem Bytes_out {r lo hi : Nat} {l : List Nat} {w : World} (h : Rd w r lo hi l) (hl : l.length ≤ 1000000000000) {most : Int} (hm1 : -9223372036854775808 ≤ most) (hm2 : most ≤ 9223372036854775807) :
    Calls Try.prog 95 #[.pointer (some ⟨r, 0, none⟩), .int .i64 most] w fun e w' => ∃ (v : Value) (bs : List Nat) (k : Int) (rest : List Nat), OutText most l bs k rest ∧ Bs w' w.heap.size w'.heap.size v bs ∧ e = .returned (.tuple #[v, .int .i64 k]) ∧ Rd w' r lo hi rest ∧ w.grownBy w' (some r) := by
  refine (Bytes_any most hm1 hm2 r lo hi l w h hl).mono ?_
  rintro e w' (⟨v, rest, ⟨bs, h1, h2, h3, h4⟩, rfl, hr, hg⟩ | ⟨k, he, hk, rfl, hr, hg⟩)
  · exact ⟨v, bs, 0, rest, .inl ⟨rfl, h1, h2, h3⟩, Bs.of_own h4, rfl, hr, hg⟩
  · exact ⟨_, [], k, l, .inr ⟨hk, he, rfl, rfl⟩, Bs.nil _ _ _, rfl, hr, hg⟩
theorem RBytes_out {q lo hi : Nat} {l : List Nat} {w : World} (h : Qd w q lo hi l) (hl : l.length ≤ 1000000000000) {most : Int} (hm1 : 0 ≤ most) (hm2 : most ≤ 9223372036854775807) :
    Calls Try.prog 68 #[.pointer (some ⟨q, 0, none⟩), .int .i64 most] w fun e w' => ∃ (v : Value) (bs : List Nat) (k : Int) (rest : List Nat), OutText most l bs k rest ∧ Bs w' w.heap.size w'.heap.size v bs ∧ e = .returned (.tuple #[v, .int .i64 k]) ∧ Qd w' q lo hi rest ∧ w.grownBy w' (some q) := by
  refine (RBytes_any most hm1 hm2 q lo hi l w h hl).mono ?_
  rintro e w' (⟨v, rest, ⟨bs, h1, h2, h3, h4⟩, rfl, hr, hg⟩ | ⟨k, he, hk, rfl, hr, hg⟩)
  · exact ⟨v, bs, 0, rest, .inl ⟨rfl, h1, h2, h3⟩, Bs.of_own h4, rfl, hr, hg⟩
  · refine ⟨_, [], k, l, .inr ⟨hk, ?_, rfl, rfl⟩, Bs.nil _ _ _, rfl, hr, hg⟩
    rcases he with he | he
    · exact .inl (rcount hm1 he)
    · exact .inr he
end Go.Proofs.Ytgflhbpmkcggnaa

/- ikey's Read. -/
namespace Go.Proofs.Ytgflhbpmkcggnaa
open Go.ChangeShapes Go.WideShapes Go.ChangeAt Go.RowKit

theorem Own.nil (B : Nat) (w : World) : Own B [] (.slice none 0 0) w := World.ownsRow_nil _ _ _ _
theorem Own.grown {B r : Nat} {l : List Nat} {v : Value} {w w' : World} (h : Own B l v w) (hg : w.grownBy w' (some r)) (hr : r < B) : Own B l v w' := own_grown h hg hr
theorem Bytes_own {r lo hi : Nat} {l : List Nat} {w : World} (h : Rd w r lo hi l) (hl : l.length ≤ 1000000000000) {most : Int} (hm1 : -9223372036854775808 ≤ most) (hm2 : most ≤ 9223372036854775807) :
    Calls Try.prog 95 #[.pointer (some ⟨r, 0, none⟩), .int .i64 most] w fun e w' => ∃ (A : Option Addr) (c : Nat) (bs : List Nat) (k : Int) (rest : List Nat), OutText most l bs k rest ∧ Own w.heap.size bs (.slice A bs.length c) w' ∧ e = .returned (.tuple #[.slice A bs.length c, .int .i64 k]) ∧ Rd w' r lo hi rest ∧ w.grownBy w' (some r) := by
  refine (Bytes_any most hm1 hm2 r lo hi l w h hl).mono ?_
  rintro e w' (⟨v, rest, ⟨bs, h1, h2, h3, h4⟩, rfl, hr, hg⟩ | ⟨k, he, hk, rfl, hr, hg⟩)
  · have h5 : Own w.heap.size bs v w' := h4
    obtain ⟨A, c, rfl⟩ := h5.slice
    exact ⟨A, c, bs, 0, rest, .inl ⟨rfl, h1, h2, h3⟩, h5, rfl, hr, hg⟩
  · exact ⟨none, 0, [], k, l, .inr ⟨hk, he, rfl, rfl⟩, Own.nil _ _, rfl, hr, hg⟩

theorem OutText.len {most : Int} {l bs rest : List Nat} {k : Int} (h : OutText most l bs k rest) : bs.length ≤ l.length ∧ rest.length ≤ l.length ∧ (∀ x ∈ bs, x ∈ l) := by
  rcases h with ⟨_, _, _, rfl⟩ | ⟨_, _, rfl, rfl⟩
  · refine ⟨?_, ?_, fun x hx => ?_⟩
    · unfold bytesForm; simp only [List.length_append]; omega
    · simp only [List.length_append]; omega
    · unfold bytesForm; simp [hx]
  · simp
theorem OutNum.len {l rest : List Nat} {n : Nat} {k : Int} (h : OutNum l n k rest) : rest.length ≤ l.length ∧ U64 n := by
  rcases h with ⟨_, hb⟩ | ⟨_, _, rfl, rfl⟩
  · refine ⟨?_, hb.n64⟩
    rw [hb.eq, List.length_append]; omega
  · exact ⟨Nat.le_refl _, ⟨by omega⟩⟩

/-- What is read in a row, where an entry stands. -/
theorem read_is {b kb vb r1 r2 r3 r4 : List Nat} {n d : Nat} {k1 k2 k3 k4 : Int} (h1 : OutText 32 b kb k1 r1) (h2 : OutNum r1 n k2 r2) (h3 : OutNum r2 d k3 r3) (h4 : OutText 65536 r3 vb k4 r4) {e : Ent} (he : IsE b e) :
    e = ⟨kb, n, d, vb⟩ ∧ k1 = 0 ∧ k2 = 0 ∧ k3 = 0 ∧ (e.kind = 1 → k4 = 0) ∧ (e.kind = 2 → r3 = []) ∧ r4 = [] := by
  obtain ⟨hm, rfl⟩ := he
  obtain ⟨u1, u2, u3, u4⟩ := Ent.may_u64 hm
  obtain ⟨a1, a2, a3, a4, a5⟩ := mayN_iff.1 hm
  unfold Ent.form at h1
  obtain ⟨rfl, rfl, rfl⟩ := h1.same (.inl ⟨rfl, by omega, u1, rfl⟩)
  obtain ⟨rfl, rfl, rfl⟩ := h2.same (.inl ⟨rfl, u2, rfl⟩)
  obtain ⟨rfl, rfl, rfl⟩ := h3.same (.inl ⟨rfl, u3, rfl⟩)
  have e1 : ((e.seq.toNat : Nat) : Int) = e.seq := by omega
  have e2 : ((e.kind.toNat : Nat) : Int) = e.kind := by omega
  rcases a5 with ⟨a5, a6⟩ | ⟨a5, a6⟩
  · rw [if_pos a5] at h4
    obtain ⟨rfl, rfl, rfl⟩ := h4.same (.inl ⟨rfl, by omega, u4, (List.append_nil _).symm⟩)
    refine ⟨Ent.ext rfl e1.symm e2.symm rfl, rfl, rfl, rfl, fun _ => rfl, fun h => by omega, rfl⟩
  · rw [if_neg (by omega)] at h4
    have hv : vb = [] ∧ r4 = [] := by
      rcases h4 with ⟨_, _, _, h⟩ | ⟨_, _, rfl, rfl⟩
      · have h5 := congrArg List.length h
        have h6 := (bytesForm_len (l := vb) ⟨by omega⟩)
        simp only [List.length_append, List.length_nil] at h5
        omega
      · exact ⟨rfl, rfl⟩
    obtain ⟨rfl, rfl⟩ := hv
    refine ⟨Ent.ext rfl e1.symm e2.symm (List.eq_nil_of_length_eq_zero a6), rfl, rfl, rfl, fun h => by omega, fun _ => by rw [if_neg (by omega)], rfl⟩

/-- An entry of nothing. -/
def noE : Value := .agg #[.slice none 0 0, .int .i64 0, .int .i64 0, .slice none 0 0]
/-- What Read answers. -/
def ReadAns (w : World) (b : List Nat) (x : Ending) (w' : World) : Prop :=
  Ext w w' ∧ ((∃ (e : Ent) (g : Hd), IsE b e ∧ x = .returned (.tuple #[e.at_ g, .int .i64 0]) ∧ Own w.heap.size e.key (.slice g.kA e.key.length g.kc) w' ∧ Own w.heap.size e.val (.slice g.vA e.val.length g.vc) w') ∨
    ((∀ e, ¬ IsE b e) ∧ x = .returned (.tuple #[noE, .int .i64 4])))

theorem entry_ret {fn : Func} {tmps : Array Value} {w : World} {g : Nat} {p q : Tmp} {c : Array Value} {k : Value} {R : Ending → World → Prop} (hr : fn.results = #[.cell p 48, .tmp q]) (h2 : tmps.getD p undef = .pointer (some ⟨g, 0, none⟩)) (h3 : tmps.getD q undef = k)
    (hc : c.size = 4) (hg : w.heap[g]? = some (.cells c 48 (0, 0))) (h : R (.returned (.tuple #[.agg c, k])) w) : bodyPost Try.prog fn R .ret { tmps := tmps, defers := [] } w := by
  refine ⟨rfl, .tuple #[.agg c, k], ?_, h⟩
  have hi : (Try.prog.info? 48).map (·.size) = some 4 := by kernel_rfl
  have hl := run_loadVar_row (P := Try.prog) w g 48 48 c (0, 0) _ hg Try.underlying48 rfl (by rw [hc]; exact hi)
  have ha : (asAddr (.pointer (some ⟨g, 0, none⟩))).run Try.prog w = .ok ⟨g, 0, none⟩ w := rfl
  rw [results_cell_tmp hr, h2, h3, ha, Result.andThen_ok, hl, Result.andThen_ok]
/-- Four cells of a block, set. -/
theorem set_four {u : World} {g : Nat} {a b c d x y z t : Value} {ty : TypeId} (h : u.heap[g]? = some (.cells #[a, b, c, d] ty (0, 0))) :
    ((((u.setCell ⟨g, 0, none⟩ x).setCell ⟨g, 1, none⟩ y).setCell ⟨g, 2, none⟩ z).setCell ⟨g, 3, none⟩ t).heap[g]? = some (.cells #[x, y, z, t] ty (0, 0)) := by
  have h1 := heap_setCell_same u g 0 _ _ x h
  have h2 := heap_setCell_same (u.setCell ⟨g, 0, none⟩ x) g 1 _ _ y h1
  have h3 := heap_setCell_same ((u.setCell ⟨g, 0, none⟩ x).setCell ⟨g, 1, none⟩ y) g 2 _ _ z h2
  have h4 := heap_setCell_same (((u.setCell ⟨g, 0, none⟩ x).setCell ⟨g, 1, none⟩ y).setCell ⟨g, 2, none⟩ z) g 3 _ _ t h3
  rw [h4]; rfl
theorem frozen_four {u : World} {g j : Nat} {c : Array Value} {ty : TypeId} (h : u.heap[g]? = some (.cells c ty (0, 0))) : u.frozen? ⟨g, j, none⟩ = false := by simp [World.frozen?, h]

set_option maxRecDepth 100000 in
set_option maxHeartbeats 4000000 in
theorem read_any {w : World} {lo hi : Nat} {v : Value} {b : List Nat} (hv : Bs w lo hi v b) (hhi : hi ≤ w.heap.size) (hb : ∀ x ∈ b, x < 256) (hl : b.length ≤ 1000000000000) : Calls Try.prog 109 #[v] w (ReadAns w b) := by
  obtain ⟨w1, hw1⟩ : ∃ w1, w1 = w.alloc (.cells #[.slice none 0 0, .int .i64 0, .int .i64 0, .slice none 0 0] 48) := ⟨_, rfl⟩
  have HX1 : Hid (Ext w w1) := by rw [hw1]; exact ext_alloc _ _
  have HZ1 : Hid (w1.heap.size = w.heap.size + 1) := by rw [hw1]; simp [Hid]
  have HR1 : Hid (w1.heap[w.heap.size]? = some (.cells #[.slice none 0 0, .int .i64 0, .int .i64 0, .slice none 0 0] 48 (0, 0))) := by rw [hw1]; exact heap_at _ _ rfl
  have HV := Lib.hid hv
  have HO := Lib.hid (open_any v lo hi b w1 (hv.below HX1.out hhi) (Nat.le_trans hhi HX1.out.size) hl hb)
  have HHI := Lib.hid hhi
  have HL := Lib.hid hl
  have HBY := Lib.hid hb
  obtain ⟨A, c, rfl, _, _, _, _⟩ := hv
  clear hhi hb hl
  go_enter Try.func109, Try.ntmps109
  go_wp2_with fail
  rw [← hw1]
  refine Calls.mono HO.out ?_
  rintro x w2 ⟨r, rlo, rhi, rfl, hrd, hr, hlo, hb2⟩
  have HRD := Lib.hid hrd
  have HR := Lib.hid hr
  have HX2 : Hid (Below w1.heap.size w1 w2) := hb2
  clear hrd hr hlo hb2 HO
  go_wp2_with fail
  refine (Bytes_own HRD.out HL.out (by decide) (by decide)).mono ?_
  rintro x w3 ⟨kA, kc, kb, k1, r1, ho1, hown, rfl, hrd, hg⟩
  have HO1 := Lib.hid ho1
  have HK3 := Lib.hid hown
  have HX3 : Hid (Below w1.heap.size w1 w3) := HX2.out.grown hg HX2.out.size (fun k hk => by injection hk with hk; have := HR.out; omega)
  have HRD3 := Lib.hid hrd
  have HRL : Hid (r < w2.heap.size) := HRD.out.lt
  clear ho1 hown hrd hg HRD
  go_wp2_with fail
  refine (Number_out HRD3.out).mono ?_
  rintro x w4 ⟨n, k2, r2, ho2, rfl, hrd, hg⟩
  have HO2 := Lib.hid ho2
  have HK4 := Lib.hid (HK3.out.grown hg HRL.out)
  have HX4 : Hid (Below w1.heap.size w1 w4) := HX3.out.grown hg HX3.out.size (fun k hk => by injection hk with hk; have := HR.out; omega)
  have HRD4 := Lib.hid hrd
  clear ho2 hrd hg HRD3
  go_wp2_with fail
  refine (Number_out HRD4.out).mono ?_
  rintro x w5 ⟨d, k3, r3, ho3, rfl, hrd, hg⟩
  have HO3 := Lib.hid ho3
  have HK5 := Lib.hid (HK4.out.grown hg HRL.out)
  have HX5 : Hid (Below w1.heap.size w1 w5) := HX4.out.grown hg HX4.out.size (fun k hk => by injection hk with hk; have := HR.out; omega)
  have HRD5 := Lib.hid hrd
  clear ho3 hrd hg HRD4
  have HL3 : Hid (r3.length ≤ 1000000000000) := by
    have a1 := HO1.out.len.2.1; have a2 := HO2.out.len.1; have a3 := HO3.out.len.1; have a4 := HL.out
    unfold Hid; omega
  go_wp2_with fail
  refine (Bytes_own HRD5.out HL3.out (by decide) (by decide)).mono ?_
  rintro x w6 ⟨vA, vc, vb, k4, r4, ho4, hown, rfl, hrd, hg⟩
  have HO4 := Lib.hid ho4
  have HV6 : Hid (Own w1.heap.size vb (.slice vA vb.length vc) w6) := hown.base HX5.out.size
  have HK6 := Lib.hid (HK5.out.grown hg HRL.out)
  have HX6 : Hid (Below w1.heap.size w1 w6) := HX5.out.grown hg HX5.out.size (fun k hk => by injection hk with hk; have := HR.out; omega)
  clear ho4 hrd hg hown HRD5
  go_wp2_with fail
  obtain ⟨s, hs⟩ : ∃ s, s = wrap64 (n : Int) := ⟨_, rfl⟩
  obtain ⟨t, ht⟩ : ∃ t, t = wrap64 (d : Int) := ⟨_, rfl⟩
  rw [← hs, ← ht]
  have HS := Lib.hid (And.intro hs ht)
  clear hs ht
  obtain ⟨e, he⟩ : ∃ e : Ent, e = ⟨kb, s, t, vb⟩ := ⟨_, rfl⟩
  obtain ⟨g, hg⟩ : ∃ g : Hd, g = ⟨kA, kc, vA, vc⟩ := ⟨_, rfl⟩
  have HONE : Hid (∀ e', IsE b e' → e' = e) := fun e' h => by
    have h1 := (read_is HO1.out HO2.out HO3.out HO4.out h).1
    have h2 := mayN_iff.1 h.1
    rw [h1] at h2 ⊢
    dsimp only at h2
    rw [he, HS.out.1, HS.out.2]
    unfold wrap64
    refine Ent.ext rfl ?_ ?_ rfl <;> dsimp only <;> omega
  obtain ⟨w7, hw7⟩ : ∃ w7, w7 = w6.alloc (.cells #[.slice kA kb.length kc, .int .i64 s, .int .i64 t, .slice vA vb.length vc] 48) := ⟨_, rfl⟩
  have HX67 : Hid (Ext w6 w7) := by rw [hw7]; exact ext_alloc _ _
  have HX7 : Hid (Below w1.heap.size w1 w7) := HX6.out.trans (HX67.out.mono HX6.out.size)
  have HE7 : Hid (w7.heap[w6.heap.size]? = some (.cells #[.slice kA kb.length kc, .int .i64 s, .int .i64 t, .slice vA vb.length vc] 48 (0, 0))) := by rw [hw7]; exact heap_at _ _ rfl
  have HL6 : Hid (w1.heap.size ≤ w6.heap.size) := HX6.out.size
  have HK7 : Hid (Own w1.heap.size kb (.slice kA kb.length kc) w7) := (HK6.out.base HX2.out.size).below HX67.out
  have HV7 : Hid (Own w1.heap.size vb (.slice vA vb.length vc) w7) := HV6.out.below HX67.out
  have HM7 : Hid (Em w7 0 w7.heap.size e g) := by
    have b1 : ∀ x ∈ kb, x < 256 := fun x hx => HBY.out x (HO1.out.len.2.2 x hx)
    rw [he, hg]
    refine ⟨HK7.out.bs, HV7.out.bs, b1, fun x hx => ?_, ?_, ?_, ?_, ?_⟩
    · have h3 := HO4.out.len.2.2 x hx
      have sub2 : ∀ y ∈ r1, y ∈ b := fun y hy => by
        rcases HO1.out with ⟨_, _, _, h⟩ | ⟨_, _, h, _⟩
        · rw [h]; simp [hy]
        · rw [h] at hy; exact hy
      have sub3 : ∀ y ∈ r2, y ∈ r1 := fun y hy => by
        rcases HO2.out with ⟨_, h⟩ | ⟨_, _, h, _⟩
        · rw [h.eq]; simp [hy]
        · rw [h] at hy; exact hy
      have sub4 : ∀ y ∈ r3, y ∈ r2 := fun y hy => by
        rcases HO3.out with ⟨_, h⟩ | ⟨_, _, h, _⟩
        · rw [h.eq]; simp [hy]
        · rw [h] at hy; exact hy
      exact HBY.out x (sub2 x (sub3 x (sub4 x h3)))
    all_goals dsimp only; first | rw [HS.out.1] | rw [HS.out.2]
    all_goals unfold wrap64; omega
  rw [← hw7]
  have HW : Hid (w7.heap.size = w6.heap.size + 1) := by rw [hw7]; simp [Hid]
  have hv : (.agg #[.slice kA kb.length kc, .int .i64 s, .int .i64 t, .slice vA vb.length vc] : Value) = e.at_ g := by rw [he, hg]; rfl
  clear hw7
  have HB := Lib.hid (ebytes_any HM7.out (Nat.le_refl _))
  rw [← hv] at HB
  have HE := Lib.hid he
  have HG := Lib.hid hg
  have HVE := Lib.hid hv
  clear he hg hv
  refine Calls.mono HB.out ?_
  rintro x w8 ⟨hx8, (⟨hmay, A', c', rfl, ho8⟩ | ⟨hmay, rfl⟩)⟩
  · have HX8 : Hid (Below w1.heap.size w1 w8) := HX7.out.trans (hx8.mono HX7.out.size)
    have HXX := Lib.hid hx8
    have HMAY := Lib.hid hmay
    have HF8 := Lib.hid (equal_any ho8.bs (HV.out.below (Ext.trans HX1.out HX8.out) HHI.out) (Ent.form_lt HM7.out.bk HM7.out.bv) HBY.out)
    have hblk := HX8.out.block w.heap.size (by have := HZ1.out; omega)
    rw [HR1.out] at hblk
    have q0 := cell_of hblk (k := 0) rfl
    have q1 := cell_of hblk (k := 1) rfl
    have q2 := cell_of hblk (k := 2) rfl
    have q3 := cell_of hblk (k := 3) rfl
    have z0 := frozen_four hblk (j := 0)
    have z1 := frozen_four hblk (j := 1)
    have z2 := frozen_four hblk (j := 2)
    have z3 := frozen_four hblk (j := 3)
    have HBLK := Lib.hid hblk
    have hblk2 := (ext_heap hx8 HE7.out)
    have y0 := cell_of hblk2 (k := 0) rfl
    have y1 := cell_of hblk2 (k := 1) rfl
    have y2 := cell_of hblk2 (k := 2) rfl
    have y3 := cell_of hblk2 (k := 3) rfl
    obtain ⟨z, hz⟩ : ∃ z, z = decide (e.form = b) := ⟨_, rfl⟩
    rw [← hz] at HF8
    have HZ := Lib.hid hz
    clear hx8 hmay ho8 hblk hblk2 hz
    go_wp2_with fail
    refine Calls.mono HF8.out ?_
    rintro x w9 ⟨rfl, rfl⟩
    have HEXT : Hid (Ext w w9) := Ext.trans HX1.out HX8.out
    cases z
    · go_wp2_with fail
      refine entry_ret (p := 2) (q := 3) (by kernel_rfl) rfl rfl rfl (set_four HBLK.out) ?_
      refine ⟨Below.setCell (Below.setCell (Below.setCell (Below.setCell HEXT.out (Nat.le_refl _) _) (Nat.le_refl _) _) (Nat.le_refl _) _) (Nat.le_refl _) _, .inr ⟨fun e' h => ?_, rfl⟩⟩
      have h1 := HONE.out e' h
      subst h1
      exact absurd h.2 (of_decide_eq_false HZ.out.symm)
    · go_wp2_with fail
      refine entry_ret (p := 2) (q := 3) (by kernel_rfl) rfl rfl rfl (set_four HBLK.out) ?_
      refine ⟨Below.setCell (Below.setCell (Below.setCell (Below.setCell HEXT.out (Nat.le_refl _) _) (Nat.le_refl _) _) (Nat.le_refl _) _) (Nat.le_refl _) _, .inl ⟨e, g, ⟨HMAY.out, of_decide_eq_true HZ.out.symm⟩, by rw [← HVE.out]; rfl, ?_, ?_⟩⟩
      · rw [HE.out, HG.out]
        refine row_kept (HK7.out.below HXX.out |>.base HX1.out.size) (fun q hq => ?_)
        have := (row_lt (HK7.out.below HXX.out) q hq).1
        have := HZ1.out
        iterate 4 rw [Below.heap_setCell _ _ _ _ (by show q ≠ w.heap.size; omega)]
      · rw [HE.out, HG.out]
        refine row_kept (HV7.out.below HXX.out |>.base HX1.out.size) (fun q hq => ?_)
        have := (row_lt (HV7.out.below HXX.out) q hq).1
        have := HZ1.out
        iterate 4 rw [Below.heap_setCell _ _ _ _ (by show q ≠ w.heap.size; omega)]
  · have HX8 : Hid (Below w1.heap.size w1 w8) := HX7.out.trans (hx8.mono HX7.out.size)
    have HMAY := Lib.hid hmay
    have hblk := HX8.out.block w.heap.size (by have := HZ1.out; omega)
    rw [HR1.out] at hblk
    have q0 := cell_of hblk (k := 0) rfl
    have q1 := cell_of hblk (k := 1) rfl
    have q2 := cell_of hblk (k := 2) rfl
    have q3 := cell_of hblk (k := 3) rfl
    have z0 := frozen_four hblk (j := 0)
    have z1 := frozen_four hblk (j := 1)
    have z2 := frozen_four hblk (j := 2)
    have z3 := frozen_four hblk (j := 3)
    have HBLK := Lib.hid hblk
    have HEXT : Hid (Ext w w8) := Ext.trans HX1.out HX8.out
    clear hx8 hmay hblk
    go_wp2_with fail
    refine entry_ret (p := 2) (q := 3) (by kernel_rfl) rfl rfl rfl (set_four HBLK.out) ?_
    refine ⟨Below.setCell (Below.setCell (Below.setCell (Below.setCell HEXT.out (Nat.le_refl _) _) (Nat.le_refl _) _) (Nat.le_refl _) _) (Nat.le_refl _) _, .inr ⟨fun e' h => ?_, rfl⟩⟩
    have h1 := HONE.out e' h
    subst h1
    have h2 := h.1
    rw [HMAY.out] at h2
    cases h2
end Go.Proofs.Ytgflhbpmkcggnaa

/- A region that draws its order, by facts, up to an operation from which on each one waits for all ahead of it: from there on it is walked in the order of the text (no function of the program). -/
namespace Go.Proofs.Ytgflhbpmkcggnaa
open Go.RowKit

/-- Operation i waits for the j-th, by way of others. -/
def reachB (ops : Array Oper) : Nat → Nat → Nat → Bool
  | 0, _, _ => false
  | f + 1, i, j => match ops[i]? with | some o => aft o j || (List.range i).any (fun k => aft o k && reachB ops f k j) | none => false
/-- From the m-th operation on, each waits for the one ahead of it, and for all of the first m. -/
def tailOk (ops : Array Oper) (m : Nat) : Bool := (List.range ops.size).all fun i => decide (i < m) || ((decide (i = m) || match ops[i]? with | some o => aft o (i - 1) | none => false) && (List.range m).all (reachB ops ops.size i))

section
variable {P : Program} {ops : Array Oper} {Q : Exit → Act → World → Prop} {φ : List (Value → World → Prop)} {a0 : Act} {w0 : World} {m : Nat}

theorem tail_prev (h : tailOk ops m = true) {i : Nat} {o : Oper} (hi : ops[i]? = some o) (hm : m < i) : aft o (i - 1) = true := by
  have hlt := (Array.getElem?_eq_some_iff.1 hi).1
  have h1 := (List.all_eq_true.1 h) i (List.mem_range.2 hlt)
  simp only [hi, Bool.or_eq_true, Bool.and_eq_true, decide_eq_true_eq] at h1
  rcases h1 with h1 | ⟨h1 | h1, _⟩
  · omega
  · omega
  · exact h1
theorem tail_reach (h : tailOk ops m = true) {i : Nat} {o : Oper} (hi : ops[i]? = some o) (hm : m ≤ i) : ∀ j, j < m → reachB ops ops.size i j = true := by
  intro j hj
  have hlt := (Array.getElem?_eq_some_iff.1 hi).1
  have h1 := (List.all_eq_true.1 h) i (List.mem_range.2 hlt)
  simp only [hi, Bool.or_eq_true, Bool.and_eq_true, decide_eq_true_eq] at h1
  rcases h1 with h1 | ⟨_, h1⟩
  · omega
  · exact (List.all_eq_true.1 h1) j (List.mem_range.2 hj)
theorem reach_seen {seen : Array Bool} {a : Act} {u : World} (hI : Inv ops φ a0 w0 seen a u) : ∀ (f k j : Nat), seen.getD k false = true → reachB ops f k j = true → seen.getD j false = true := by
  intro f
  induction f with
  | zero => intro k j _ h; cases h
  | succ f ih =>
    intro k j hk h
    simp only [reachB] at h
    split at h
    · rename_i o ho
      rcases Bool.or_eq_true_iff.1 h with h | h
      · exact hI.closed k o ho hk j h
      · obtain ⟨k', _, h2⟩ := List.any_eq_true.1 h
        simp only [Bool.and_eq_true] at h2
        exact ih k' j (hI.closed k o ho hk k' h2.1) h2.2
    · cases h
theorem aft_seen {seen : Array Bool} {o : Oper} (hed : ∀ e ∈ o.after, Region.binds .any e = true → seen.getD e.on false = true) {j : Nat} (h : aft o j = true) : seen.getD j false = true := by
  unfold aft at h
  obtain ⟨e, he, hb⟩ := Array.any_eq_true'.1 h
  simp only [Bool.and_eq_true, beq_iff_eq] at hb
  rw [← hb.2]
  exact hed e he hb.1
theorem ready_seen {seen : Array Bool} {a : Act} {u : World} (hI : Inv ops φ a0 w0 seen a u) {i : Nat} {o : Oper} (hi : ops[i]? = some o) (hed : ∀ e ∈ o.after, Region.binds .any e = true → seen.getD e.on false = true) {f j : Nat} (h : reachB ops f i j = true) : seen.getD j false = true := by
  cases f with
  | zero => cases h
  | succ f =>
    simp only [reachB, hi] at h
    rcases Bool.or_eq_true_iff.1 h with h | h
    · exact aft_seen hed h
    · obtain ⟨k', _, h2⟩ := List.any_eq_true.1 h
      simp only [Bool.and_eq_true] at h2
      exact reach_seen hI f k' j (aft_seen hed h2.1) h2.2

theorem done_getD {n k j : Nat} (b : Bool) (hj : j < n) : (Done n k).getD j b = decide (j < k) := by simp [Done, Array.getD, hj]
theorem done_size (n k : Nat) : (Done n k).size = n := by simp [Done]

theorem seq_tail {size : Nat} (hok : flowOk ops size = true) (ht : tailOk ops m = true) : ∀ (r k : Nat) (a : Act) (u : World), k + r = ops.size → m ≤ k → wpList P ops Q (ops.toList.drop k) a u → wpAny P .any ops Q r (Done ops.size k) a u := by
  intro r
  induction r with
  | zero =>
    intro k a u hk hm h
    have hk' : k = ops.size := by omega
    subst hk'
    rw [List.drop_of_length_le (by simp)] at h
    refine ⟨List.eq_nil_iff_forall_not_mem.2 fun i hi => ?_, h⟩
    obtain ⟨hun, oi, hio, _⟩ := mem_ready.1 hi
    have hlt := (Array.getElem?_eq_some_iff.1 hio).1
    rw [done_getD true hlt] at hun
    simp at hun; omega
  | succ r ih =>
    intro k a u hk hm h
    have hlt : k < ops.size := by omega
    have ho : ops[k]? = some ops[k] := Array.getElem?_eq_getElem hlt
    rw [List.drop_eq_getElem_cons (by simpa using hlt)] at h
    have hready : k ∈ Region.ready .any ops (Done ops.size k) := mem_ready.2 ⟨by rw [done_getD true hlt]; simp, ops[k], ho, fun e he hb => by
      have h1 := (flowOk_at hok ho).1 e he hb
      rw [done_getD false (by omega)]; simpa using h1⟩
    refine ⟨fun h0 => absurd hready (by rw [h0]; simp), fun i hi => ?_⟩
    have hik : i = k := by
      obtain ⟨hun, oi, hio, hed⟩ := mem_ready.1 hi
      have hil := (Array.getElem?_eq_some_iff.1 hio).1
      rw [done_getD true hil] at hun
      have hge : k ≤ i := by simpa using hun
      rcases Nat.lt_or_ge k i with hki | hki
      · have h2 := aft_seen hed (tail_prev ht hio (by omega))
        rw [done_getD false (by omega)] at h2
        simp at h2; omega
      · omega
    subst hik
    have hnext : ∀ a u, wpList P ops Q (ops.toList.drop (i + 1)) a u → wpAny P .any ops Q r ((Done ops.size i).setIfInBounds i true) a u := fun a u h => by
      rw [Done.succ hlt]
      exact ih (i + 1) a u (by omega) (by omega) h
    unfold wpOp
    simp only [ho]
    unfold wpList at h
    rw [Array.getElem_toList] at h
    split
    · rename_i hw
      rw [if_pos hw] at h
      rcases h with h | h
      · exact .inl (Oper.wp_mono (fun a u h => hnext a u h) h)
      · exact .inr h
    · rename_i hw
      rw [if_neg hw] at h
      exact hnext _ _ h

theorem act_tail {seen : Array Bool} {a : Act} {u : World} (hok : flowOk ops a0.tmps.size = true) (hI : Inv ops φ a0 w0 seen a u) (hn : ∀ j, m ≤ j → seen.getD j false = false) : a = puts (held ops a) 0 (ops.toList.take m) a0 := by
  have hd : a.defers = (puts (held ops a) 0 (ops.toList.take m) a0).defers := by rw [puts_defers]; exact hI.defs
  have conv : ∀ (j : Nat) (o : Oper), (ops.toList.take m)[j]? = some o → j < m ∧ ops[j]? = some o := fun j o h => by
    rw [List.getElem?_take] at h
    split at h
    · rename_i hj; exact ⟨hj, by rw [← Array.getElem?_toList]; exact h⟩
    · cases h
  have ht : a.tmps = (puts (held ops a) 0 (ops.toList.take m) a0).tmps := by
    apply Array.ext_getElem?
    intro t
    by_cases hsz : t < a0.tmps.size
    · have huniq : ∀ (x y : Nat) (ox oy : Oper), (ops.toList.take m)[x]? = some ox → (ops.toList.take m)[y]? = some oy → ox.dst = some t → oy.dst = some t → x = y := fun x y ox oy hx hy h1 h2 => by
        rcases Nat.decEq x y with hne | he
        · exact absurd h1 (((flowOk_at hok (conv x ox hx).2).2.2.2 y oy t (conv y oy hy).2 h2).1 (fun e => hne e.symm))
        · exact he
      obtain ⟨h1, h2⟩ := puts_get (held ops a) (ops.toList.take m) 0 a0 t hsz huniq
      by_cases hex : ∃ (j : Nat) (oj : Oper), (ops.toList.take m)[j]? = some oj ∧ oj.dst = some t
      · obtain ⟨j, oj, hj, hd⟩ := hex
        rw [h2 j oj hj hd, Nat.zero_add]
        simp only [held, (conv j oj hj).2, slot, hd]
        have hts : t < a.tmps.size := by rw [hI.tsz]; exact hsz
        simp [Array.getD, hts]
      · have hex' : ∀ (j : Nat) (o : Oper), (ops.toList.take m)[j]? = some o → o.dst ≠ some t := fun j o hj hd => hex ⟨j, o, hj, hd⟩
        rw [h1 hex']
        refine hI.old t fun j oj hj hs => ?_
        have hjm : j < m := by
          rcases Nat.lt_or_ge j m with h | h
          · exact h
          · rw [hn j h] at hs; cases hs
        exact hex' j oj (by rw [List.getElem?_take, if_pos hjm, Array.getElem?_toList]; exact hj)
    · rw [Array.getElem?_eq_none (by rw [hI.tsz]; omega), Array.getElem?_eq_none (by rw [puts_size]; omega)]
  have ext : ∀ x y : Act, x.tmps = y.tmps → x.defers = y.defers → x = y := by rintro ⟨_, _⟩ ⟨_, _⟩ rfl rfl; rfl
  exact ext _ _ ht hd

theorem flow_tail_any (hok : flowOk ops a0.tmps.size = true) (hsel : Region.noSelect ops = true) (hmn : m ≤ ops.size) (htl : tailOk ops m = true) (hmono : ∀ p ∈ φ, Mono p)
    (hobl : ∀ f, Obls P ops φ w0 f 0 (ops.toList.take m) a0)
    (hfin : ∀ (g : Nat → Value) u, Ext w0 u → (∀ j, j < m → fact φ j (g j) u) → wpList P ops Q (ops.toList.drop m) (puts g 0 (ops.toList.take m) a0) u) :
    ∀ (n : Nat) (seen : Array Bool) (a : Act) (u : World), Inv ops φ a0 w0 seen a u → (∀ j, m ≤ j → seen.getD j false = false) → left ops seen = n → wpAny P .any ops Q n seen a u := by
  have whole : ∀ (n : Nat) (seen : Array Bool) (a : Act) (u : World), Inv ops φ a0 w0 seen a u → (∀ j, m ≤ j → seen.getD j false = false) → left ops seen = n → (∀ j, j < m → seen.getD j false = true) → wpAny P .any ops Q n seen a u := fun n seen a u hI hn hl hall => by
    have hseen : seen = Done ops.size m := by
      apply Array.ext
      · rw [hI.size, done_size]
      · intro i h1 h2
        have e1 : seen[i] = seen.getD i false := by simp [Array.getD, h1]
        have e2 : (Done ops.size m)[i] = (Done ops.size m).getD i false := by simp [Array.getD, h2]
        rw [e1, e2, done_getD false (by rw [← hI.size]; exact h1)]
        rcases Nat.lt_or_ge i m with h | h
        · rw [hall i h]; simp [h]
        · rw [hn i h]; simp; omega
    have hleft : left ops seen = ops.size - m := by
      unfold left
      have : (List.range ops.size).countP (fun i => !seen.getD i false) = (List.range ops.size).countP (fun i => decide (m ≤ i)) := by
        apply List.countP_congr
        intro j hj
        rcases Nat.lt_or_ge j m with h | h
        · rw [hall j h]; simp; omega
        · rw [hn j h]; simp; omega
      rw [this]
      have cnt : ∀ N, (List.range N).countP (fun i => decide (m ≤ i)) = N - m := by
        intro N
        induction N with
        | zero => simp
        | succ N ih =>
          rw [List.range_succ, List.countP_append, ih, List.countP_singleton]
          by_cases h : m ≤ N
          · simp [h]; omega
          · simp [h]; omega
      exact cnt _
    have hA := act_tail hok hI hn
    have hF := hfin (held ops a) u hI.ext fun j hj => by
      have hoj : ops[j]? = some ops[j] := Array.getElem?_eq_getElem (by omega)
      simp only [held, hoj]
      exact hI.facts j _ hoj (hall j hj)
    rw [← hA] at hF
    rw [← hl, hleft, hseen]
    exact seq_tail hok htl _ _ _ _ (by omega) (Nat.le_refl _) hF
  intro n
  induction n with
  | zero =>
    intro seen a u hI hn hl
    refine whole 0 seen a u hI hn hl fun j hj => ?_
    have := List.countP_eq_zero.1 hl j (List.mem_range.2 (by omega))
    simpa using this
  | succ n ih =>
    intro seen a u hI hn hl
    by_cases hall : ∀ j, j < m → seen.getD j false = true
    · exact whole _ seen a u hI hn hl hall
    · have hread : Region.ready .any ops seen = [] → False := fun hr => hall fun j hj => by
        exact all_seen hok hI hr j (by omega)
      refine ⟨fun hr => (hread hr).elim, fun i hi => ?_⟩
      obtain ⟨hun, oi, hio, hed⟩ := mem_ready.1 hi
      have hlt := (Array.getElem?_eq_some_iff.1 hio).1
      rw [getD_both seen (by rw [hI.size]; exact hlt)] at hun
      have hleft := left_next hI.size hlt hun
      have him : i < m := by
        rcases Nat.lt_or_ge i m with h | h
        · exact h
        · exfalso
          refine hall fun j hj => ?_
          exact ready_seen hI hio hed (tail_reach htl hio h j hj)
      refine wpOp_mono (fun b u' hb => ih _ b u' hb ?_ (by omega)) (flow_step hok hsel hmono hobl hI him hi)
      intro j hj
      rw [set_getD, if_neg (fun h => by have := h.1; omega)]; exact hn j hj

/-- A region that draws its order, whose last operations are done one behind the other. -/
theorem flow_tail {id : Nat} {w : World} (hm0 : P.follows .mixedOrders = true) (φ : List (Value → World → Prop)) (m : Nat) (hok : flowOk ops a0.tmps.size = true) (hsel : Region.noSelect ops = true) (hmn : decide (m ≤ ops.size) = true) (htl : tailOk ops m = true) (hmono : ∀ p ∈ φ, Mono p)
    (hobl : ∀ f, Obls P ops φ w.drew f 0 (ops.toList.take m) a0)
    (hfin : ∀ (g : Nat → Value) u, Ext w.drew u → (∀ j, j < m → fact φ j (g j) u) → wpList P ops Q (ops.toList.drop m) (puts g 0 (ops.toList.take m) a0) u) :
    (Code.region id ops true).wp P Q a0 w := by
  refine wp_region_any hm0 (flow_tail_any hok hsel (of_decide_eq_true hmn) htl hmono hobl hfin ops.size _ a0 w.drew inv_start (fun j _ => ?_) left_start)
  rw [Array.getD_eq_getD_getElem?]
  by_cases hj : j < ops.size
  · simp [hj]
  · simp [hj]
end
end Go.Proofs.Ytgflhbpmkcggnaa

/- ikey's Copy; the law's put and del. -/
namespace Go.Proofs.Ytgflhbpmkcggnaa
open Go.ChangeShapes Go.WideShapes Go.ChangeAt Go.RowKit

theorem entry_ret1 {fn : Func} {tmps : Array Value} {w : World} {g : Nat} {p : Tmp} {c : Array Value} {R : Ending → World → Prop} (hr : fn.results = #[.cell p 48]) (h2 : tmps.getD p undef = .pointer (some ⟨g, 0, none⟩))
    (hc : c.size = 4) (hg : w.heap[g]? = some (.cells c 48 (0, 0))) (h : R (.returned (.agg c)) w) : bodyPost Try.prog fn R .ret { tmps := tmps, defers := [] } w := by
  have hi : (Try.prog.info? 48).map (·.size) = some 4 := by kernel_rfl
  exact ⟨rfl, .agg c, results_cell_row hr _ _ _ _ _ _ _ h2 hg Try.underlying48 rfl (by rw [hc]; exact hi), h⟩

theorem Own.far {B : Nat} {l : List Nat} {v x : Value} {u : World} {p : Addr} (h : Own B l v u) (hp : p.block < B) : Own B l v (u.setCell p x) :=
  row_kept h (fun g hg => Below.heap_setCell _ _ _ _ (by have := (row_lt h g hg).1; omega))
/-- What Copy answers. -/
def CopyAns (w : World) (e : Ent) (x : Ending) (w' : World) : Prop :=
  Ext w w' ∧ ∃ g : Hd, x = .returned (e.at_ g) ∧ Own w.heap.size e.key (.slice g.kA e.key.length g.kc) w' ∧ Own w.heap.size e.val (.slice g.vA e.val.length g.vc) w'

end Go.Proofs.Ytgflhbpmkcggnaa

/- The law's entries: put and del, of texts. -/
namespace Go.Proofs.Ytgflhbpmkcggnaa
open Go.ChangeShapes Go.WideShapes Go.ChangeAt Go.RowKit

/-- '[]byte(s)'. -/
theorem conv_new (w : World) (l : List Nat) (hl : ∀ x ∈ l, x < 256) (hlen : l.length ≤ 1000) : ∃ A c w', (convert 9 29 (.string (tx l))).run Try.prog w = .ok (.slice A l.length c) w' ∧ Ext w w' ∧ Bs w' w.heap.size w'.heap.size (.slice A l.length c) l := by
  have hs : (tx l).size = l.length := by unfold tx; rw [strOfNums_size, List.length_map]
  have hb : ∀ (b : Nat), b < w.heap.size → (Lib.bytesWorld w 5 (tx l)).heap[b]? = w.heap[b]? := fun b hb => Lib.bytesWorld_at_old _ _ _ _ hb
  refine ⟨_, _, _, by rw [← hs]; exact Lib.run_convert_string_bytes w _ _ _ (tx l) Try.underlying9 Try.underlying29 Try.underlying5, ⟨?_, ?_, ?_, ?_, fun b h => hb b h⟩, ?_⟩
  · simp [Lib.bytesWorld, World.freeze, World.alloc, World.drew, -World.alloc_eq, -World.drew_eq]
  · simp [Lib.bytesWorld, World.freeze, World.alloc, World.drew, -World.alloc_eq, -World.drew_eq]
  · simp [Lib.bytesWorld, World.freeze, World.alloc, World.drew, -World.alloc_eq, -World.drew_eq]
  · rw [Lib.bytesWorld_size]; omega
  · refine ⟨_, _, rfl, by rw [← hs]; exact grownCap_ge _ _ _ _, by exact grownCap_le_maxLen _ _ _ _ (by rw [hs]; unfold maxLen; omega), (fun h => by cases h), .inr ⟨w.heap.size, 0, rfl, Nat.le_refl _, by rw [Lib.bytesWorld_size]; omega, fun i u hu => ?_⟩⟩
    have hi : i < l.length := by
      rcases Nat.lt_or_ge i l.length with h | h
      · exact h
      · rw [List.getElem?_eq_none (by rw [bv_length]; exact h)] at hu; cases hu
    rw [Nat.zero_add, Lib.bytesWorld_cell _ _ _ _ (by rw [hs]; exact hi), ← hu]
    have hx := hl l[i] (List.getElem_mem hi)
    unfold tx bv
    rw [strOfNums_data]
    simp [List.getD, List.getElem?_eq_getElem hi, Nat.mod_eq_of_lt hx]

/-- What put and del answer. -/
def LitAns (w : World) (e : Ent) (x : Ending) (w' : World) : Prop := Ext w w' ∧ ∃ g : Hd, x = .returned (e.at_ g) ∧ Em w' w.heap.size w'.heap.size e g

end Go.Proofs.Ytgflhbpmkcggnaa

/- Rows of entries in memory. -/
namespace Go.Proofs.Ytgflhbpmkcggnaa
open Go.ChangeShapes Go.WideShapes Go.ChangeAt Go.RowKit

/-- An entry's cells. -/
def ecells (p : Ent × Hd) : List Value := [.slice p.2.kA p.1.key.length p.2.kc, .int .i64 p.1.seq, .int .i64 p.1.kind, .slice p.2.vA p.1.val.length p.2.vc]
theorem ecells_length (p : Ent × Hd) : (ecells p).length = 4 := rfl
def erow (L : List (Ent × Hd)) : List Value := L.flatMap ecells
theorem erow_length (L : List (Ent × Hd)) : (erow L).length = L.length * 4 := by
  unfold erow
  induction L with
  | nil => rfl
  | cons a l ih => rw [List.flatMap_cons, List.length_append, ih, ecells_length, List.length_cons]; omega
theorem erow_append (L R : List (Ent × Hd)) : erow (L ++ R) = erow L ++ erow R := by simp [erow]
theorem erow_at (L : List (Ent × Hd)) {k j : Nat} (hk : k < L.length) (hj : j < 4) : (erow L)[k * 4 + j]? = (ecells L[k])[j]? := by
  unfold erow
  induction L generalizing k with
  | nil => simp at hk
  | cons a l ih =>
    rw [List.flatMap_cons]
    cases k with
    | zero => rw [List.getElem?_append_left (by rw [ecells_length]; omega)]; simp
    | succ k =>
      rw [List.getElem?_append_right (by rw [ecells_length]; omega), ecells_length, show (k + 1) * 4 + j - 4 = k * 4 + j by omega]
      simpa using ih (k := k) (by simpa using hk)
theorem erow_one (L : List (Ent × Hd)) : ∀ u ∈ erow L, u.oneCell' = true := by
  intro u hu
  unfold erow at hu
  obtain ⟨p, _, h⟩ := List.mem_flatMap.1 hu
  simp only [ecells, List.mem_cons, List.not_mem_nil, or_false] at h
  rcases h with rfl | rfl | rfl | rfl <;> rfl
/-- Entries in a row. -/
structure Es (w : World) (lo hi : Nat) (A : Option Addr) (L : List (Ent × Hd)) : Prop where
  outer : Sl w lo hi A (erow L)
  each : ∀ p ∈ L, Em w lo hi p.1 p.2
theorem Es.below {w w' : World} {lo hi B : Nat} {A : Option Addr} {L : List (Ent × Hd)} (h : Es w lo hi A L) (hb : Below B w w') (hB : hi ≤ B) : Es w' lo hi A L := ⟨h.outer.below hb hB, fun p hp => (h.each p hp).below hb hB⟩
theorem Es.wide {w : World} {lo hi lo' hi' : Nat} {A : Option Addr} {L : List (Ent × Hd)} (h : Es w lo hi A L) (h1 : lo' ≤ lo) (h2 : hi ≤ hi') : Es w lo' hi' A L := ⟨h.outer.wide h1 h2, fun p hp => (h.each p hp).wide h1 h2⟩
/-- Where the row begins, and the k-th entry's cells. -/
theorem Es.at_ {w : World} {lo hi : Nat} {A : Option Addr} {L : List (Ent × Hd)} (h : Es w lo hi A L) {k : Nat} (hk : k < L.length) :
    ∃ b o, A = some ⟨b, o, none⟩ ∧ b < hi ∧ w.cell? ⟨b, o + k * 4, none⟩ = some (.slice L[k].2.kA L[k].1.key.length L[k].2.kc) ∧ w.cell? ⟨b, o + k * 4 + 1, none⟩ = some (.int .i64 L[k].1.seq) ∧
      w.cell? ⟨b, o + k * 4 + 2, none⟩ = some (.int .i64 L[k].1.kind) ∧ w.cell? ⟨b, o + k * 4 + 3, none⟩ = some (.slice L[k].2.vA L[k].1.val.length L[k].2.vc) := by
  obtain ⟨b, o, rfl, _, hb, _⟩ := Sl.at_ h.outer (i := k * 4) (by rw [erow_length]; omega)
  have hc : ∀ j u, (erow L)[j]? = some u → w.cell? ⟨b, o + j, none⟩ = some u := by
    rcases h.outer with h0 | ⟨b', o', he, _, _, hc⟩
    · have := congrArg List.length h0
      rw [erow_length] at this
      simp at this; omega
    · injection he with he
      injection he with e1 e2
      subst e1 e2
      exact hc
  have hj := fun (j : Nat) (hj : j < 4) (u : Value) (hu : (ecells L[k])[j]? = some u) => hc (k * 4 + j) u ((erow_at L hk hj).trans hu)
  refine ⟨b, o, rfl, hb, hj 0 (by decide) _ rfl, ?_, ?_, ?_⟩
  · rw [Nat.add_assoc]; exact hj 1 (by decide) _ rfl
  · rw [Nat.add_assoc]; exact hj 2 (by decide) _ rfl
  · rw [Nat.add_assoc]; exact hj 3 (by decide) _ rfl

theorem Es.base {w : World} {lo hi : Nat} {A : Option Addr} {L : List (Ent × Hd)} (h : Es w lo hi A L) (h0 : 0 < L.length) : ∃ b o, A = some ⟨b, o, none⟩ := by
  obtain ⟨b, o, e, _⟩ := h.at_ h0
  exact ⟨b, o, e⟩
theorem Es.get {w : World} {lo hi b o : Nat} {L : List (Ent × Hd)} (h : Es w lo hi (some ⟨b, o, none⟩) L) {k : Nat} {p : Ent × Hd} (hk : L[k]? = some p) :
    w.cell? ⟨b, o + k * 4, none⟩ = some (.slice p.2.kA p.1.key.length p.2.kc) ∧ w.cell? ⟨b, o + k * 4 + 1, none⟩ = some (.int .i64 p.1.seq) ∧
      w.cell? ⟨b, o + k * 4 + 2, none⟩ = some (.int .i64 p.1.kind) ∧ w.cell? ⟨b, o + k * 4 + 3, none⟩ = some (.slice p.2.vA p.1.val.length p.2.vc) := by
  obtain ⟨hlt, rfl⟩ := List.getElem?_eq_some_iff.1 hk
  obtain ⟨_, _, he, _, c0, c1, c2, c3⟩ := h.at_ hlt
  injection he with he; injection he with e1 e2; subst e1 e2
  exact ⟨c0, c1, c2, c3⟩

/-- So many entries rise. -/
structure RiseAt (L : List Ent) (n : Nat) : Prop where
  le : n ≤ L.length
  rise : ∀ j a b, j + 1 < n → L[j]? = some a → L[j + 1]? = some b → cmpE a b < 0
  stop : n < L.length → ∃ j a b, n = j + 1 ∧ L[j]? = some a ∧ L[j + 1]? = some b ∧ ¬ cmpE a b < 0
end Go.Proofs.Ytgflhbpmkcggnaa

/- How far entries rise. -/
namespace Go.Proofs.Ytgflhbpmkcggnaa
open Go.ChangeShapes Go.WideShapes Go.ChangeAt Go.RowKit

end Go.Proofs.Ytgflhbpmkcggnaa

/- The reference: May, CompareKeys, Compare, Bytes; the law's long. -/
namespace Go.Proofs.Ytgflhbpmkcggnaa
open Go.ChangeShapes Go.WideShapes Go.ChangeAt Go.RowKit

set_option maxHeartbeats 1000000 in
theorem rmay_any (kA vA : Option Addr) (kn kc vn vc : Nat) (s d : Int) (w : World) : Calls Try.prog 30 #[.agg #[.slice kA kn kc, .int .i64 s, .int .i64 d, .slice vA vn vc]] w fun e w' => e = .returned (.bool (mayN kn s d vn)) ∧ Below w.heap.size w w' := by
  obtain ⟨m, hm⟩ : ∃ m, m = mayN kn s d vn := ⟨_, rfl⟩
  rw [← hm]
  have HX : Hid (Ext w (w.alloc (.cells #[.slice kA kn kc, .int .i64 s, .int .i64 d, .slice vA vn vc] 48))) := ext_alloc _ _
  by_cases h1 : kn < 1
  · obtain rfl : m = false := by rw [hm]; simp [mayN]; omega
    have d1 : decide ((kn : Int) < 1) = true := by simp; omega
    clear hm
    go_enter Try.func30, Try.ntmps30
    go_wp2_with fail
    go_ret
    exact ⟨rfl, HX.out⟩
  have d1 : decide ((kn : Int) < 1) = false := by simp; omega
  by_cases h2 : 32 < kn
  · obtain rfl : m = false := by rw [hm]; simp [mayN]; omega
    have d2 : decide ((32 : Int) < (kn : Int)) = true := by simp; omega
    clear hm
    go_enter Try.func30, Try.ntmps30
    go_wp2_with fail
    go_ret
    exact ⟨rfl, HX.out⟩
  have d2 : decide ((32 : Int) < (kn : Int)) = false := by simp; omega
  by_cases h3 : s < 1
  · obtain rfl : m = false := by rw [hm]; simp [mayN]; omega
    have d3 : decide (s < 1) = true := by simp; omega
    clear hm
    go_enter Try.func30, Try.ntmps30
    go_wp2_with fail
    go_ret
    exact ⟨rfl, HX.out⟩
  have d3 : decide (s < 1) = false := by simp; omega
  by_cases h4 : 2147483647 < s
  · obtain rfl : m = false := by rw [hm]; simp [mayN]; omega
    have d4 : decide ((2147483647 : Int) < s) = true := by simp; omega
    clear hm
    go_enter Try.func30, Try.ntmps30
    go_wp2_with fail
    go_ret
    exact ⟨rfl, HX.out⟩
  have d4 : decide ((2147483647 : Int) < s) = false := by simp; omega
  by_cases h5 : d = 1
  · subst h5
    by_cases hv : vn ≤ 65536
    · obtain rfl : m = true := by rw [hm, mayN_iff]; omega
      have dv : decide ((vn : Int) ≤ 65536) = true := by simp; omega
      have dvn : decide (vn ≤ 65536) = true := by simp; omega
      clear hm h1 h2 h3 h4 hv
      go_enter Try.func30, Try.ntmps30
      go_wp2_with fail
      go_ret
      exact ⟨rfl, HX.out⟩
    · obtain rfl : m = false := by rw [hm, Bool.eq_false_iff, ne_eq, mayN_iff]; omega
      have dv : decide ((vn : Int) ≤ 65536) = false := by simp; omega
      have dvn : decide (vn ≤ 65536) = false := by simp; omega
      clear hm h1 h2 h3 h4 hv
      go_enter Try.func30, Try.ntmps30
      go_wp2_with fail
      go_ret
      exact ⟨rfl, HX.out⟩
  have d5 : (d == 1) = false := by simpa using h5
  by_cases h6 : d = 2
  · subst h6
    obtain rfl : m = ((vn : Int) == 0) := by
      rw [hm, Bool.eq_iff_iff, mayN_iff, beq_iff_eq]; omega
    clear hm h1 h2 h3 h4
    go_enter Try.func30, Try.ntmps30
    go_wp2_with fail
    go_ret
    exact ⟨rfl, HX.out⟩
  have d6 : (d == 2) = false := by simpa using h6
  obtain rfl : m = false := by
    rw [hm, Bool.eq_false_iff, ne_eq, mayN_iff]; omega
  clear hm h1 h2 h3 h4
  go_enter Try.func30, Try.ntmps30
  go_wp2_with fail
  go_ret
  exact ⟨rfl, HX.out⟩

theorem cmpK_nil (b : List Nat) : cmpK [] b = if b.length = 0 then 0 else -1 := by cases b <;> simp [cmpK]
theorem cmpK_nil2 (a : List Nat) : cmpK a [] = if a.length = 0 then 0 else 1 := by cases a <;> simp [cmpK]
theorem cmpK_take {a b : List Nat} : ∀ {k : Nat}, k ≤ a.length → k ≤ b.length → a.take k = b.take k → cmpK a b = cmpK (a.drop k) (b.drop k)
  | 0, _, _, _ => by simp
  | k + 1, ha, hb, h => by
    cases a with
    | nil => simp at ha
    | cons x l =>
      cases b with
      | nil => simp at hb
      | cons y r =>
        simp only [List.take_succ_cons, List.cons.injEq] at h
        obtain ⟨rfl, h⟩ := h
        simp only [List.drop_succ_cons, cmpK]
        rw [if_neg (by omega), if_neg (by omega)]
        exact cmpK_take (by simpa using ha) (by simpa using hb) h

end Go.Proofs.Ytgflhbpmkcggnaa

/- A region that draws its order, by facts, within a round of a loop over a function. -/
namespace Go.Proofs.Ytgflhbpmkcggnaa
open Go.RowKit

section
variable {P : Program} {ops : Array Oper} {Q : Exit → Act → World → Prop} {l m : Nat}

theorem op_in {o : Oper} {a : Act} {w : World} {K : Act → World → Prop} (hnd : ∀ c, o.op ≠ .defer c) (h : o.wp P a w K Q) : o.wpIn (Fence.wide.inRound l) m P a w K Q := by
  refine ⟨fun _ _ => trivial, ?_⟩
  rw [show (Fence.wide.inRound l).round = some l from rfl, Oper.semAt_some l a.eval o hnd]
  unfold Oper.wp at h
  generalize (execOp a.eval o).run P w = r at h ⊢
  cases r with
  | ok x w' =>
    cases x with
    | value v => exact h
    | skip => exact h
    | defer d => exact h
    | enter f args => exact ⟨(fun e => (by cases e)), CallsIn.inRound l (callsIn_wide.2 h)⟩
    | row row args =>
      refine ⟨(fun e => (by cases e)), fun c cs _ => ?_⟩
      obtain ⟨v, w2, hr, hs⟩ := h c cs
      exact ⟨v, w2, hr, stepsIn_wide.2 hs⟩
    | _ => exact h.elim
  | halt x w' => cases x <;> first | exact h | exact h.elim

theorem any_in (hnd : ∀ (i : Nat) (o : Oper), ops[i]? = some o → ∀ c, o.op ≠ .defer c) (hQ : ¬ LetsOut Q) : ∀ (n : Nat) (seen : Array Bool) (a : Act) (w : World), wpAny P .any ops Q n seen a w → wpAnyIn (Fence.wide.inRound l) m P .any ops Q n seen a w := by
  intro n
  induction n with
  | zero => intro seen a w h; exact h
  | succ n ih =>
    intro seen a w h
    refine ⟨h.1, fun i hi => ?_⟩
    have h2 := h.2 i hi
    unfold wpOp at h2
    unfold wpOpIn
    cases ho : ops[i]? with
    | none => simp only [ho] at h2 ⊢; exact ih _ _ _ h2
    | some o =>
      simp only [ho] at h2 ⊢
      split
      · rename_i hw
        rw [if_pos hw] at h2
        rcases h2 with h2 | ⟨_, h2⟩
        · exact Oper.wpIn_mono (fun a w h => ih _ a w h) (op_in (hnd i o ho) h2)
        · exact absurd h2 hQ
      · rename_i hw
        rw [if_neg hw] at h2
        exact ⟨fun _ _ => trivial, ih _ _ _ h2⟩

/-- No operation of these is a defer statement. -/
def noDefer (ops : Array Oper) : Bool := ops.all fun o => match o.op with | .defer _ => false | _ => true
theorem noDefer_at (h : noDefer ops = true) (i : Nat) (o : Oper) (ho : ops[i]? = some o) (c : Call) : o.op ≠ .defer c := by
  intro e
  obtain ⟨hi, he⟩ := Array.getElem?_eq_some_iff.1 ho
  have := (Array.all_eq_true.1 h) i hi
  rw [he, e] at this
  cases this

theorem flow_in {a0 : Act} {id : Nat} {w : World} (hm : P.follows .mixedOrders = true) (hnd : noDefer ops = true) (hQ : ∀ a w, ¬ Q .outgrown a w) (φ : List (Value → World → Prop)) (hok : flowOk ops a0.tmps.size = true) (hsel : Region.noSelect ops = true) (hmono : ∀ p ∈ φ, Mono p)
    (hobl : ∀ f, Obls P ops φ w.drew f 0 ops.toList a0)
    (hfin : ∀ (g : Nat → Value) u, Ext w.drew u → (∀ j, j < ops.size → fact φ j (g j) u) → Q .normal (puts g 0 ops.toList a0) u) : (Code.region id ops true).wpIn (Fence.wide.inRound l) m P Q a0 w := by
  refine wpIn_region_any hm (any_in (noDefer_at hnd) (fun ⟨a, w, h⟩ => hQ a w h) _ _ _ _ (flow_any hok hsel hmono hobl hfin _ _ _ _ ⟨Ext.refl _, by simp, rfl, rfl, fun _ _ => rfl, fun j oj hj hs => ?_, fun j oj hj hs => ?_⟩ ?_))
  · have hlt := (Array.getElem?_eq_some_iff.1 hj).1
    simp [Array.getD, hlt] at hs
  · have hlt := (Array.getElem?_eq_some_iff.1 hj).1
    simp [Array.getD, hlt] at hs
  · unfold left
    rw [List.countP_eq_length.2]
    · simp
    · intro i hi
      have hlt := List.mem_range.1 hi
      simp [Array.getD, hlt]
end
end Go.Proofs.Ytgflhbpmkcggnaa
