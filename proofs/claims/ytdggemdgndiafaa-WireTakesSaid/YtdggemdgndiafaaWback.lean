/- written, back, numbers: a thing's form; whether it is read as it was. -/
import Derived.Test.YtdggemdgndiafaaWthing
import Derived.Test.YtdggemdgndiafaaFrame
import Derived.Deep.QuietTactic
import Derived.BigQuiet
namespace Go.Proofs.Ytdggemdgndiafaa
open Go.ChangeShapes Go.WideShapes Go.ChangeAt Go.RowKit

theorem written_any (t : Thg) (w : World) (lo hi : Nat) (h : ThOk w lo hi t) (hhi : hi ≤ w.heap.size) (hb : t.b.length ≤ 1000000) (hl : t.l.length ≤ 1000000) :
    Calls Try.prog 29 #[.agg t.cells] w (NewBy w t.form) := by
  obtain ⟨kind, n, s, f, vb, b, vl, l⟩ := t
  obtain ⟨k1, k2, n64, s1, s2, bs, byt, us, l64⟩ := h
  simp only at k1 k2 n64 s1 s2 bs byt us l64 hb hl
  have HB := Lib.hid bs
  have HU := Lib.hid us
  obtain ⟨A, c, rfl, x1, x2, x3, x4⟩ := bs
  obtain ⟨A2, c2, rfl, y1, y2, y3⟩ := us
  have HY := Lib.hid (And.intro y1 (And.intro y2 y3))
  clear x1 x2 x3 x4 y1 y2 y3
  have HBYT := Lib.hid byt
  have HL64 := Lib.hid l64
  have HN := Lib.hid n64
  have HS := Lib.hid (And.intro s1 s2)
  have HBL := Lib.hid hb
  have HLL := Lib.hid hl
  clear byt l64 n64 s1 s2 hb hl
  unfold Thg.cells Thg.form
  simp only
  by_cases e1 : kind = 1
  · subst e1
    go_enter Try.func29, Try.ntmps29
    go_wp2_with fail
    refine (number_any n HN.out _).mono ?_
    rintro e w1 ⟨v1, rfl, hown, hb1⟩
    have HNB := Lib.hid (NewBy.box ⟨v1, rfl, hown, hb1⟩)
    clear hown hb1
    go_wp2_with fail
    go_ret
    exact HNB.out
  by_cases e2 : kind = 2
  · subst e2
    clear e1
    go_enter Try.func29, Try.ntmps29
    go_wp2_with fail
    refine (signed_any s HS.out.1 HS.out.2 _).mono ?_
    rintro e w1 ⟨v1, rfl, hown, hb1⟩
    have HNB := Lib.hid (NewBy.box ⟨v1, rfl, hown, hb1⟩)
    clear hown hb1
    go_wp2_with fail
    go_ret
    exact HNB.out
  by_cases e3 : kind = 3
  · subst e3
    clear e1 e2
    go_enter Try.func29, Try.ntmps29
    go_wp2_with fail
    refine (flag_any f _).mono ?_
    rintro e w1 ⟨v1, rfl, hown, hb1⟩
    have HNB := Lib.hid (NewBy.box ⟨v1, rfl, hown, hb1⟩)
    clear hown hb1
    go_wp2_with fail
    go_ret
    exact HNB.out
  by_cases e4 : kind = 4
  · subst e4
    clear e1 e2 e3
    go_enter Try.func29, Try.ntmps29
    go_wp2_with fail
    refine (bytes_any _ lo hi b _ (HB.out.alloc hhi _) (by simp; omega) (by have := HBL.out; omega)).mono ?_
    rintro e w1 ⟨v1, rfl, hown, hb1⟩
    have HNB := Lib.hid (NewBy.box ⟨v1, rfl, hown, hb1⟩)
    clear hown hb1
    go_wp2_with fail
    go_ret
    exact HNB.out
  have b1 : (kind == 1) = false := by rw [beq_eq_false_iff_ne]; exact e1
  have b2 : (kind == 2) = false := by rw [beq_eq_false_iff_ne]; exact e2
  have b3 : (kind == 3) = false := by rw [beq_eq_false_iff_ne]; exact e3
  have b4 : (kind == 4) = false := by rw [beq_eq_false_iff_ne]; exact e4
  rw [if_neg e1, if_neg e2, if_neg e3, if_neg e4]
  clear e1 e2 e3 e4
  by_cases e5 : kind = 5
  · subst e5
    go_enter Try.func29, Try.ntmps29
    go_wp2_with fail
    refine (Put_any A2 c2 lo hi l l.length rfl _ (Sl.alloc HY.out.2.2 hhi _) (by simp; omega) HY.out.2.1 HY.out.1 HL64.out (by have := HLL.out; omega)).mono ?_
    rintro e w1 ⟨v1, rfl, hown, hb1⟩
    have HNB := Lib.hid (NewBy.box ⟨v1, rfl, hown, hb1⟩)
    clear hown hb1
    go_wp2_with fail
    go_ret
    exact HNB.out
  · have b5 : (kind == 5) = false := by rw [beq_eq_false_iff_ne]; exact e5
    rw [if_neg e5]
    clear e5
    go_enter Try.func29, Try.ntmps29
    go_wp2_with fail
    go_ret
    exact ⟨_, rfl, World.ownsRow_nil _ _ _ _, (Below.refl _ _).alloc (Nat.le_refl _) _⟩

theorem below_drewN {B : Nat} {w w' : World} (h : Below B w w') (n : Nat) : Below B w (w'.drewN n) := h.trans ⟨rfl, rfl, rfl, Nat.le_refl _, fun _ _ => rfl⟩
set_option maxHeartbeats 1000000 in
theorem numbers_any (u v : Value) (xs ys : List Nat) (w : World) (lo hi lo2 hi2 : Nat) (hu : Us w lo hi u xs) (hv : Us w lo2 hi2 v ys) :
    Calls Try.prog 56 #[u, v] w fun e w' => e = .returned (.bool (decide (xs = ys))) ∧ Below w.heap.size w w' := by
  obtain ⟨A, c, rfl, x1, x2, x3⟩ := hu
  obtain ⟨A2, c2, rfl, y1, y2, y3⟩ := hv
  have hxl : xs.length ≤ 9223372036854775807 := by unfold maxLen at x2; omega
  have hyl : ys.length ≤ 9223372036854775807 := by unfold maxLen at y2; omega
  have HX := Lib.hid x3
  have HY := Lib.hid y3
  clear x1 x2 x3 y1 y2 y3
  by_cases hl : xs.length = ys.length
  · have hd : ((xs.length : Int) != (ys.length : Int)) = false := by simp; omega
    have hd2 : (xs.length != ys.length) = false := by simp; omega
    have HL := Lib.hid hl
    clear hl
    go_enter Try.func56, Try.ntmps56
    go_wp2_with fail
    go_loopw [5] (fun i wr => ∃ k : Nat, k ≤ xs.length ∧ i = .int .i64 (k : Int) ∧ Hid (xs.take k = ys.take k) ∧ Hid (Below w.heap.size w wr) ∧ Hid (wr.heap = w.heap)) (fun i _ => xs.length - (intOf i).toNat)
    case atStart => exact ⟨0, Nat.zero_le _, rfl, Lib.hid (by simp), Below.refl _ _, Lib.hid rfl⟩
    case round =>
      obtain ⟨k, hk, rfl, HE, HB, HH⟩ := hrel
      by_cases hlt : k < xs.length
      · have hlt2 : k < ys.length := by have := HL.out; omega
        obtain ⟨b, o, rfl, hc⟩ := uv_at HX.out hlt
        obtain ⟨b2, o2, rfl, hc2⟩ := uv_at HY.out hlt2
        have hk1 : wr.cell? ⟨b, o + k, none⟩ = some (.int .u64 (xs[k] : Int)) := (World.cell?_of_block (by rw [HH.out])).trans hc
        have hk2 : wr.cell? ⟨b2, o2 + k, none⟩ = some (.int .u64 (ys[k] : Int)) := (World.cell?_of_block (by rw [HH.out])).trans hc2
        have i1 : (k : Int) < (xs.length : Int) := by omega
        have i2 : (k : Int) < (ys.length : Int) := by omega
        obtain ⟨x, hx⟩ : ∃ x, x = xs[k] := ⟨_, rfl⟩
        obtain ⟨y, hy⟩ : ∃ y, y = ys[k] := ⟨_, rfl⟩
        rw [← hx] at hk1
        rw [← hy] at hk2
        have HXK := Lib.hid hx
        have HYK := Lib.hid hy
        clear hc hc2 hx hy
        by_cases hxy : x = y
        · have hd3 : ((x : Int) != (y : Int)) = false := by simp [hxy]
          have HXY := Lib.hid hxy
          clear hxy
          go_wp2_with fail
          go_quiet (fail)
          go_wp2_with fail
          go_roundw
          case rel => exact ⟨k + 1, by omega, by go_num, Lib.hid (by rw [List.take_succ_eq_append_getElem hlt, List.take_succ_eq_append_getElem hlt2, HE.out, ← HXK.out, ← HYK.out, HXY.out]), below_drewN HB.out _, Lib.hid HH.out⟩
          case measure => simp [intOf]; omega
        · have hd3 : ((x : Int) != (y : Int)) = true := by simp; omega
          have HXY := Lib.hid hxy
          clear hxy
          go_wp2_with fail
          go_quiet (fail)
          go_wp2_with fail
          go_ret
          refine ⟨?_, below_drewN HB.out _⟩
          have hne : decide (xs = ys) = false := by
            simp; intro h; subst h; exact HXY.out (HXK.out.trans HYK.out.symm)
          rw [hne]; rfl
      · go_wp2_with fail
        go_ret
        obtain rfl : k = xs.length := by omega
        refine ⟨?_, HB.out⟩
        have h1 := HE.out
        rw [List.take_length, HL.out, List.take_length] at h1
        simp [h1]
  · have hd : ((xs.length : Int) != (ys.length : Int)) = true := by simp; omega
    have hd2 : (xs.length != ys.length) = true := by simp; omega
    have hne : decide (xs = ys) = false := by simp; intro h; exact hl (by rw [h])
    have HNE := Lib.hid hne
    clear hl hne
    go_enter Try.func56, Try.ntmps56
    go_wp2_with fail
    go_ret
    exact ⟨by rw [HNE.out]; rfl, Below.refl _ _⟩
theorem tx_ne' {l r : List Nat} (hl : ∀ n ∈ l, n < 256) (hr : ∀ n ∈ r, n < 256) (h : l ≠ r) : ((tx l).toList == (tx r).toList) = false := by
  rw [beq_eq_false_iff_ne]
  intro he
  apply h
  apply tx_inj hl hr
  rw [ByteArray.toList_eq, ByteArray.toList_eq] at he
  cases hx : tx l with
  | mk d =>
    cases hy : tx r with
    | mk e =>
      rw [hx, hy] at he
      have := Array.toList_inj.1 he
      simp at this
      rw [this]
theorem Us.grown {w w' : World} {lo hi : Nat} {v : Value} {xs : List Nat} {row : Option Nat} (h : Us w lo hi v xs) (hg : w.grownBy w' row) (hB : hi ≤ w.heap.size) (hr : ∀ k, row = some k → k < lo ∨ hi ≤ k) : Us w' lo hi v xs := by
  obtain ⟨A, c, e, h1, h2, h3⟩ := h
  exact ⟨A, c, e, h1, h2, h3.grown hg hB hr⟩
/-- Read back, or not. -/
def Back (w : World) (r lo hi : Nat) (l fm : List Nat) (e : Ending) (w' : World) : Prop :=
  ∃ ok : Bool, e = .returned (.bool ok) ∧ w.grownBy w' (some r) ∧ ((ok = true ∧ ∃ rest, l = fm ++ rest ∧ Rd w' r lo hi rest) ∨ (ok = false ∧ ∀ rest, l ≠ fm ++ rest))
theorem grown_refl (w : World) (row : Option Nat) : w.grownBy w row := ⟨rfl, rfl, rfl, Nat.le_refl _, fun _ _ _ => rfl⟩
theorem grown_then {a b c : World} {r : Nat} (h : a.grownBy b (some r)) (k : Below b.heap.size b c) : a.grownBy c (some r) := grownBy_below h (k.mono h.size)

set_option maxRecDepth 100000 in
set_option maxHeartbeats 4000000 in
theorem back_any (t : Thg) (w : World) (lo hi : Nat) (h : ThOk w lo hi t) (hb : t.b.length ≤ 1000000) (hl : t.l.length ≤ 1000000) (r lo2 hi2 : Nat) (l : List Nat) (hr : Rd w r lo2 hi2 l) (hhi : hi ≤ r) (hll : l.length ≤ 1000000000000) (hlb : ∀ b ∈ l, b < 256) :
    Calls Try.prog 57 #[.pointer (some ⟨r, 0, none⟩), .agg t.cells] w (Back w r lo2 hi2 l t.form) := by
  obtain ⟨kind, n, s, f, vb, b, vl, xs⟩ := t
  obtain ⟨k1, k2, n64, s1, s2, bs, byt, us, l64⟩ := h
  simp only at k1 k2 n64 s1 s2 bs byt us l64 hb hl
  have HB := Lib.hid bs
  have HU := Lib.hid us
  obtain ⟨A, c, rfl, x1, x2, x3, x4⟩ := bs
  obtain ⟨A2, c2, rfl, y1, y2, y3⟩ := us
  clear x1 x2 x3 x4 y1 y2 y3
  have HBYT := Lib.hid byt
  have HL64 := Lib.hid l64
  have HN := Lib.hid n64
  have HS := Lib.hid (And.intro s1 s2)
  have HBL := Lib.hid hb
  have HLL := Lib.hid hl
  have HR := Lib.hid hr
  have HRL := Lib.hid hr.lt
  have HHI := Lib.hid hhi
  have HLE := Lib.hid hll
  have HLB := Lib.hid hlb
  clear byt l64 n64 s1 s2 hb hl hr hhi hll hlb
  unfold Thg.cells Thg.form
  simp only
  by_cases e1 : kind = 1
  · subst e1
    go_enter Try.func57, Try.ntmps57
    go_wp2_with fail
    refine (Number_is (HR.out.alloc _) HN.out).mono ?_
    rintro e w1 ⟨m, k, rfl, rest, hr1, hg1, hcase⟩
    have hcell := box_cell hg1 HRL.out 1 rfl
    have HR1 := Lib.hid hr1
    have HG1 := Lib.hid (grown_alloc hg1)
    clear hr1 hg1
    rcases hcase with ⟨rfl, rfl, hl1⟩ | ⟨hno, hl1⟩
    · have HL1 := Lib.hid hl1
      have hq : ((m : Int) == (m : Int)) = true := by simp
      clear hl1
      go_wp2_with fail
      refine (errnum 0 _).mono ?_
      rintro e w2 ⟨rfl, rfl⟩
      go_wp2_with fail
      go_ret
      exact ⟨true, rfl, HG1.out, .inl ⟨rfl, rest, HL1.out, HR1.out⟩⟩
    · have HL1 := Lib.hid hl1
      clear hl1
      by_cases hv : m = n
      · have hk0 : (k == 0) = false := by rw [beq_eq_false_iff_ne]; exact fun h => hno ⟨hv, h⟩
        subst hv
        have hq : ((m : Int) == (m : Int)) = true := by simp
        clear hno
        go_wp2_with fail
        refine (errnum k _).mono ?_
        rintro e w2 ⟨rfl, rfl⟩
        go_wp2_with fail
        go_ret
        exact ⟨false, rfl, HG1.out, .inr ⟨rfl, HL1.out⟩⟩
      · have hq : ((m : Int) == (n : Int)) = false := by rw [beq_eq_false_iff_ne]; omega
        clear hno hv
        go_wp2_with fail
        go_ret
        exact ⟨false, rfl, HG1.out, .inr ⟨rfl, HL1.out⟩⟩
  by_cases e2 : kind = 2
  · subst e2
    clear e1
    go_enter Try.func57, Try.ntmps57
    go_wp2_with fail
    refine (Signed_is (HR.out.alloc _) HS.out.1 HS.out.2).mono ?_
    rintro e w1 ⟨m, k, rfl, rest, hr1, hg1, hcase⟩
    have hcell := box_cell hg1 HRL.out 2 rfl
    have HR1 := Lib.hid hr1
    have HG1 := Lib.hid (grown_alloc hg1)
    clear hr1 hg1
    rcases hcase with ⟨rfl, rfl, hl1⟩ | ⟨hno, hl1⟩
    · have HL1 := Lib.hid hl1
      have hq : (m == m) = true := by simp
      clear hl1
      go_wp2_with fail
      refine (errnum 0 _).mono ?_
      rintro e w2 ⟨rfl, rfl⟩
      go_wp2_with fail
      go_ret
      exact ⟨true, rfl, HG1.out, .inl ⟨rfl, rest, HL1.out, HR1.out⟩⟩
    · have HL1 := Lib.hid hl1
      clear hl1
      by_cases hv : m = s
      · have hk0 : (k == 0) = false := by rw [beq_eq_false_iff_ne]; exact fun h => hno ⟨hv, h⟩
        subst hv
        have hq : (m == m) = true := by simp
        clear hno
        go_wp2_with fail
        refine (errnum k _).mono ?_
        rintro e w2 ⟨rfl, rfl⟩
        go_wp2_with fail
        go_ret
        exact ⟨false, rfl, HG1.out, .inr ⟨rfl, HL1.out⟩⟩
      · have hq : (m == s) = false := by rw [beq_eq_false_iff_ne]; exact hv
        clear hno hv
        go_wp2_with fail
        go_ret
        exact ⟨false, rfl, HG1.out, .inr ⟨rfl, HL1.out⟩⟩
  by_cases e3 : kind = 3
  · subst e3
    clear e1 e2
    go_enter Try.func57, Try.ntmps57
    go_wp2_with fail
    refine (Flag_is (HR.out.alloc _) f).mono ?_
    rintro e w1 ⟨m, k, rfl, rest, hr1, hg1, hcase⟩
    have hcell := box_cell hg1 HRL.out 3 rfl
    have HR1 := Lib.hid hr1
    have HG1 := Lib.hid (grown_alloc hg1)
    clear hr1 hg1
    rcases hcase with ⟨rfl, rfl, hl1⟩ | ⟨hno, hl1⟩
    · have HL1 := Lib.hid hl1
      have hq : (m == m) = true := by simp
      clear hl1
      go_wp2_with fail
      refine (errnum 0 _).mono ?_
      rintro e w2 ⟨rfl, rfl⟩
      go_wp2_with fail
      go_ret
      exact ⟨true, rfl, HG1.out, .inl ⟨rfl, rest, HL1.out, HR1.out⟩⟩
    · have HL1 := Lib.hid hl1
      clear hl1
      by_cases hv : m = f
      · have hk0 : (k == 0) = false := by rw [beq_eq_false_iff_ne]; exact fun h => hno ⟨hv, h⟩
        subst hv
        have hq : (m == m) = true := by simp
        clear hno
        go_wp2_with fail
        refine (errnum k _).mono ?_
        rintro e w2 ⟨rfl, rfl⟩
        go_wp2_with fail
        go_ret
        exact ⟨false, rfl, HG1.out, .inr ⟨rfl, HL1.out⟩⟩
      · have hq : (m == f) = false := by rw [beq_eq_false_iff_ne]; exact hv
        clear hno hv
        go_wp2_with fail
        go_ret
        exact ⟨false, rfl, HG1.out, .inr ⟨rfl, HL1.out⟩⟩
  by_cases e4 : kind = 4
  · subst e4
    clear e1 e2 e3
    go_enter Try.func57, Try.ntmps57
    go_wp2_with fail
    refine (Bytes_is (HR.out.alloc _) HLE.out HBL.out).mono ?_
    rintro e w1 ⟨v, bs, k, hbs, hbl, rfl, rest, hr1, hg1, hcase⟩
    have hcell := box_cell hg1 HRL.out 4 rfl
    have hcv2 := cv (Bs.grown (HB.out.alloc (by have := HRL.out; have := HHI.out; omega) _) hg1 (by simp; have := HRL.out; have := HHI.out; omega) (fun q hq => by injection hq with hq; have := HHI.out; omega))
    have HBB : Hid (∀ x ∈ bs, x < 256) := fun x hx => HLB.out x (hbl x hx)
    have hbs2 := hbs
    obtain ⟨Av, cvv, hv, _, _, _, _⟩ := hbs
    rw [hv] at hbs2
    have hcv1 := cv hbs2
    subst hv
    have HR1 := Lib.hid hr1
    have HG1 := Lib.hid (grown_alloc hg1)
    clear hr1 hg1 hbl hbs2
    rcases hcase with ⟨rfl, rfl, hl1⟩ | ⟨hno, hl1⟩
    · have HL1 := Lib.hid hl1
      have hq : ((tx bs).toList == (tx bs).toList) = true := by simp
      clear hl1
      go_wp2_with fail
      refine (errnum 0 _).mono ?_
      rintro e w2 ⟨rfl, rfl⟩
      go_wp2_with fail
      go_ret
      exact ⟨true, rfl, HG1.out, .inl ⟨rfl, rest, HL1.out, HR1.out⟩⟩
    · have HL1 := Lib.hid hl1
      clear hl1
      by_cases hv : bs = b
      · have hk0 : (k == 0) = false := by rw [beq_eq_false_iff_ne]; exact fun h => hno ⟨hv, h⟩
        subst hv
        have hq : ((tx bs).toList == (tx bs).toList) = true := by simp
        clear hno
        go_wp2_with fail
        refine (errnum k _).mono ?_
        rintro e w2 ⟨rfl, rfl⟩
        go_wp2_with fail
        go_ret
        exact ⟨false, rfl, HG1.out, .inr ⟨rfl, HL1.out⟩⟩
      · have hq : ((tx bs).toList == (tx b).toList) = false := tx_ne' HBB.out HBYT.out hv
        clear hno hv
        go_wp2_with fail
        go_ret
        exact ⟨false, rfl, HG1.out, .inr ⟨rfl, HL1.out⟩⟩
  have b1 : (kind == 1) = false := by rw [beq_eq_false_iff_ne]; exact e1
  have b2 : (kind == 2) = false := by rw [beq_eq_false_iff_ne]; exact e2
  have b3 : (kind == 3) = false := by rw [beq_eq_false_iff_ne]; exact e3
  have b4 : (kind == 4) = false := by rw [beq_eq_false_iff_ne]; exact e4
  rw [if_neg e1, if_neg e2, if_neg e3, if_neg e4]
  clear e1 e2 e3 e4
  by_cases e5 : kind = 5
  · subst e5
    clear b1 b2 b3 b4
    rw [if_pos rfl]
    go_enter Try.func57, Try.ntmps57
    go_wp2_with fail
    refine (Take_is (HR.out.alloc _) HLE.out HL64.out HLL.out).mono ?_
    rintro e w1 ⟨v, ys, k, _, hys, rfl, rest, hr1, hg1, hcase⟩
    have hcell := box_cell hg1 HRL.out 5 rfl
    have HXU := Lib.hid (Us.grown (HU.out.alloc (by have := HRL.out; have := HHI.out; omega) _) hg1 (by simp; have := HRL.out; have := HHI.out; omega) (fun q hq => by injection hq with hq; have := HHI.out; omega))
    have HYU := Lib.hid hys
    have HR1 := Lib.hid hr1
    have HG1 := Lib.hid (grown_alloc hg1)
    clear hr1 hg1 hys
    have HNM := Lib.hid (numbers_any _ _ ys xs w1 _ _ _ _ HYU.out HXU.out)
    rcases hcase with ⟨rfl, rfl, hl1⟩ | ⟨hno, hl1⟩
    · have HL1 := Lib.hid hl1
      have hq : decide (ys = ys) = true := by simp
      rw [hq] at HNM
      clear hl1 hq
      go_wp2_with fail
      refine Calls.mono HNM.out ?_
      rintro e w2 ⟨rfl, hb2⟩
      have HR2 := Lib.hid (HR1.out.below hb2 HR1.out.top HR1.out.lt)
      have HG2 := Lib.hid (grown_then HG1.out hb2)
      clear hb2
      go_wp2_with fail
      refine (errnum 0 _).mono ?_
      rintro e w3 ⟨rfl, rfl⟩
      go_wp2_with fail
      go_ret
      exact ⟨true, rfl, HG2.out, .inl ⟨rfl, rest, HL1.out, HR2.out⟩⟩
    · have HL1 := Lib.hid hl1
      clear hl1
      by_cases hv : ys = xs
      · have hk0 : (k == 0) = false := by rw [beq_eq_false_iff_ne]; exact fun h => hno ⟨hv, h⟩
        have hq : decide (ys = xs) = true := by simp [hv]
        rw [hq] at HNM
        clear hno hq hv
        go_wp2_with fail
        refine Calls.mono HNM.out ?_
        rintro e w2 ⟨rfl, hb2⟩
        have HG2 := Lib.hid (grown_then HG1.out hb2)
        clear hb2
        go_wp2_with fail
        refine (errnum k _).mono ?_
        rintro e w3 ⟨rfl, rfl⟩
        go_wp2_with fail
        go_ret
        exact ⟨false, rfl, HG2.out, .inr ⟨rfl, HL1.out⟩⟩
      · have hq : decide (ys = xs) = false := by simp [hv]
        rw [hq] at HNM
        clear hno hv hq
        go_wp2_with fail
        refine Calls.mono HNM.out ?_
        rintro e w2 ⟨rfl, hb2⟩
        have HG2 := Lib.hid (grown_then HG1.out hb2)
        clear hb2
        go_wp2_with fail
        go_ret
        exact ⟨false, rfl, HG2.out, .inr ⟨rfl, HL1.out⟩⟩
  · have b5 : (kind == 5) = false := by rw [beq_eq_false_iff_ne]; exact e5
    rw [if_neg e5]
    clear e5
    go_enter Try.func57, Try.ntmps57
    go_wp2_with fail
    go_ret
    exact ⟨true, rfl, grown_alloc (grown_refl _ _), .inl ⟨rfl, l, by simp, HR.out.alloc _⟩⟩
end Go.Proofs.Ytdggemdgndiafaa
