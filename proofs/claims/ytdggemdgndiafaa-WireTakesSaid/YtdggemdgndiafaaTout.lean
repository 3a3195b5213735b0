/- What Take answers at the form of a list of pairs, short by one, whole, cut. -/
import Derived.Test.YtdggemdgndiafaaTput
namespace Go.Proofs.Ytdggemdgndiafaa
open Go.ChangeShapes Go.WideShapes Go.ChangeAt Go.RowKit

theorem Begins2.unique {l : List Nat} {p p' : Nat × Nat} {r r' : List Nat} (h : Begins2 l p r) (h' : Begins2 l p' r') : p = p' ∧ r = r' := by
  obtain ⟨m, h1, h2⟩ := h
  obtain ⟨m', h1', h2'⟩ := h'
  obtain ⟨e1, rfl⟩ := h1.unique h1'
  obtain ⟨e2, rfl⟩ := h2.unique h2'
  exact ⟨Prod.ext e1 e2, rfl⟩
theorem Begins.app {l r : List Nat} {n : Nat} (h : Begins l n r) (t : List Nat) : Begins (l ++ t) n (r ++ t) := ⟨h.n64, by rw [h.eq, List.append_assoc]⟩
theorem Begins2.app {l r : List Nat} {p : Nat × Nat} (h : Begins2 l p r) (t : List Nat) : Begins2 (l ++ t) p (r ++ t) := by
  obtain ⟨m, h1, h2⟩ := h
  exact ⟨m ++ t, h1.app t, h2.app t⟩
theorem AllTwo.app : ∀ {xs : List (Nat × Nat)} {l r : List Nat}, AllTwo l xs r → ∀ t, AllTwo (l ++ t) xs (r ++ t)
  | [], l, r, h, t => by have : l = r := h; subst this; rfl
  | x :: xs, l, r, ⟨m, h1, h2⟩, t => ⟨m ++ t, h1.app t, h2.app t⟩
theorem AllTwo.same : ∀ {xs ys : List (Nat × Nat)} {l r r' : List Nat}, AllTwo l xs r → AllTwo l ys r' → xs.length = ys.length → xs = ys ∧ r = r'
  | [], [], l, r, r', h, k, _ => ⟨rfl, (show l = r from h).symm.trans (show l = r' from k)⟩
  | x :: xs, y :: ys, l, r, r', ⟨m, h1, h2⟩, ⟨m', k1, k2⟩, hl => by
    obtain ⟨rfl, rfl⟩ := h1.unique k1
    obtain ⟨rfl, rfl⟩ := AllTwo.same h2 k2 (by simpa using hl)
    exact ⟨rfl, rfl⟩
  | [], _ :: _, _, _, _, _, _, hl => by simp at hl
  | _ :: _, [], _, _, _, _, _, hl => by simp at hl
theorem AllTwo.more : ∀ {xs ys : List (Nat × Nat)} {l r r' : List Nat}, AllTwo l xs r → AllTwo l ys r' → ys.length < xs.length → ∃ x m, Begins2 r' x m
  | [], ys, l, r, r', _, _, hl => by simp at hl
  | x :: xs, [], l, r, r', ⟨m, h1, _⟩, k, _ => by
    have : l = r' := k
    subst this
    exact ⟨x, m, h1⟩
  | x :: xs, y :: ys, l, r, r', ⟨m, h1, h2⟩, ⟨m', k1, k2⟩, hl => by
    obtain ⟨_, rfl⟩ := h1.unique k1
    exact AllTwo.more h2 k2 (by simpa using hl)
theorem all_forms2 : ∀ (xs : List (Nat × Nat)), Two64 xs → AllTwo ((xs.map form2).flatten) xs []
  | [], _ => rfl
  | x :: xs, h => by
    have hx := h x (by simp)
    refine ⟨(xs.map form2).flatten, ⟨form x.2 ++ (xs.map form2).flatten, ⟨hx.1, by simp [form2]⟩, ⟨hx.2, rfl⟩⟩, all_forms2 xs (fun y hy => h y (by simp [hy]))⟩
theorem pairs_begin {xs : List (Nat × Nat)} (h : xs.length ≤ 3000) : Begins (pairsForm xs) xs.length ((xs.map form2).flatten) := ⟨⟨by omega⟩, rfl⟩
theorem ErrCount.most {most : Int} {l : List Nat} {n : Int} {m : Nat} {rest : List Nat} (h : ErrCount most l n) (hb : Begins l m rest) : (n = 2 ∧ most < 0) ∨ (n = 3 ∧ 0 ≤ most ∧ most < (m : Int)) := by
  rcases h with ⟨h1, h0⟩ | ⟨_, _, hno⟩ | ⟨h0, h1, m', r', hb', hlt⟩
  · exact .inl ⟨h1, h0⟩
  · exact absurd hb (hno _ _)
  · obtain ⟨rfl, _⟩ := hb.unique hb'; exact .inr ⟨h1, h0, hlt⟩

section
variable {xs : List (Nat × Nat)} {r lo hi : Nat} {w : World}
/-- Too long by one. -/
theorem Take_long (hU : Two64 xs) (hl : xs.length ≤ 3000) (h : Rd w r lo hi (pairsForm xs)) :
    Calls Try.prog 37 #[.pointer (some ⟨r, 0, none⟩), .int .i64 ((xs.length : Int) - 1), .func (.func 38) #[] #[]] w fun e w' => ∃ k : Int, (0 < xs.length → k = 3) ∧ (xs.length = 0 → k = 2) ∧ e = .returned (.tuple #[.slice none 0 0, .int .i64 k]) ∧ Rd w' r lo hi (pairsForm xs) ∧ w.grownBy w' (some r) := by
  have hlen := pre2_len xs hU hl (Nat.le_refl _)
  rw [pre2_all] at hlen
  refine (TakeTwo_any _ (by omega) (by omega) r lo hi _ w h (by omega)).mono ?_
  have hb := pairs_begin hl
  rintro e w' (⟨v, rest, ⟨ys, mid, h1, h2, h3, h4⟩, rfl, hr, hg⟩ | ⟨k, he, hk, rfl, hr, hg⟩)
  · obtain ⟨e1, _⟩ := hb.unique h1; omega
  · refine ⟨k, ?_, ?_, rfl, hr, hg⟩
    · intro h0
      rcases he with he | ⟨rfl, m, mid, h1, h2, _⟩
      · rcases he.most hb with ⟨_, h3⟩ | ⟨h3, _⟩
        · omega
        · exact h3
      · obtain ⟨e1, _⟩ := hb.unique h1; omega
    · intro h0
      rcases he with he | ⟨rfl, m, mid, h1, h2, _⟩
      · rcases he.most hb with ⟨h3, _⟩ | ⟨_, h3, _⟩
        · exact h3
        · omega
      · omega
/-- The whole of it. -/
theorem Take_full (hU : Two64 xs) (hl : xs.length ≤ 3000) (h : Rd w r lo hi (pairsForm xs)) :
    Calls Try.prog 37 #[.pointer (some ⟨r, 0, none⟩), .int .i64 (xs.length : Int), .func (.func 38) #[] #[]] w fun e w' => ∃ v, e = .returned (.tuple #[v, .int .i64 0]) ∧ w'.ownsRow w.heap.size 70 2 v xs.length (uv2 xs) ∧ Rd w' r lo hi [] ∧ w.grownBy w' (some r) := by
  have hlen := pre2_len xs hU hl (Nat.le_refl _)
  rw [pre2_all] at hlen
  refine (TakeTwo_any _ (by omega) (by omega) r lo hi _ w h (by omega)).mono ?_
  have hb := pairs_begin hl
  have ha := all_forms2 xs hU
  rintro e w' (⟨v, rest, ⟨ys, mid, h1, h2, h3, h4⟩, rfl, hr, hg⟩ | ⟨k, he, hk, rfl, hr, hg⟩)
  · obtain ⟨e1, rfl⟩ := hb.unique h1
    obtain ⟨rfl, rfl⟩ := ha.same h3 e1
    exact ⟨v, rfl, h4, hr, hg⟩
  · exfalso
    rcases he with he | ⟨rfl, m, mid, h1, h2, ys, rest, h3, h4, h5⟩
    · rcases he.most hb with ⟨_, h3⟩ | ⟨_, _, h3⟩ <;> omega
    · obtain ⟨rfl, rfl⟩ := hb.unique h1
      obtain ⟨x, m, hx⟩ := ha.more h4 h3
      exact h5 _ _ hx
/-- Cut. -/
theorem Take_cut (hU : Two64 xs) (hl : xs.length ≤ 3000) {n : Nat} (hn : n < (pairsForm xs).length) (h : Rd w r lo hi ((pairsForm xs).take n)) :
    Calls Try.prog 37 #[.pointer (some ⟨r, 0, none⟩), .int .i64 (xs.length : Int), .func (.func 38) #[] #[]] w fun e w' => e = .returned (.tuple #[.slice none 0 0, .int .i64 4]) ∧ Rd w' r lo hi ((pairsForm xs).take n) ∧ w.grownBy w' (some r) := by
  have hlen := pre2_len xs hU hl (Nat.le_refl _)
  rw [pre2_all] at hlen
  refine (TakeTwo_any _ (by omega) (by omega) r lo hi _ w h (by simp; omega)).mono ?_
  have hb := pairs_begin hl
  have ha := all_forms2 xs hU
  have hsp : pairsForm xs = (pairsForm xs).take n ++ (pairsForm xs).drop n := (List.take_append_drop n _).symm
  have htn : (pairsForm xs).drop n ≠ [] := by
    intro h0
    have := congrArg List.length h0
    simp at this; omega
  rintro e w' (⟨v, rest, ⟨ys, mid, h1, h2, h3, h4⟩, rfl, hr, hg⟩ | ⟨k, he, hk, rfl, hr, hg⟩)
  · exfalso
    have h1' := h1.app ((pairsForm xs).drop n)
    rw [← hsp] at h1'
    obtain ⟨e1, e2⟩ := hb.unique h1'
    have h3' := h3.app ((pairsForm xs).drop n)
    rw [← e2] at h3'
    obtain ⟨_, e3⟩ := ha.same h3' e1
    have := List.append_eq_nil_iff.1 e3.symm
    exact htn this.2
  · have h4 : k = 4 := by
      rcases he with he | ⟨rfl, _⟩
      · rcases he with ⟨rfl, h0⟩ | ⟨_, h4, _⟩ | ⟨_, rfl, m, rest, h1, h2⟩
        · omega
        · exact h4
        · have h1' := h1.app ((pairsForm xs).drop n)
          rw [← hsp] at h1'
          obtain ⟨e1, _⟩ := hb.unique h1'
          omega
      · rfl
    subst h4
    exact ⟨rfl, hr, hg⟩
end
theorem Sl.of_own2 {w : World} {B : Nat} {e : TypeId} {v : Value} {n : Nat} {xs : List Value} (h : w.ownsRow B e 2 v n xs) : ∃ A c, v = .slice A n c ∧ Sl w B w.heap.size A xs := by
  rcases h with ⟨hl, ⟨rfl, rfl⟩ | ⟨g, cap, cur, rfl, hb, hh, hn, hm, hcs, rfl⟩⟩
  · exact ⟨none, 0, rfl, .inl (List.eq_nil_of_length_eq_zero (by simpa using hl))⟩
  · refine ⟨some ⟨g, 0, none⟩, cap, rfl, .inr ⟨g, 0, rfl, hb, ?_, fun i u hu => ?_⟩⟩
    · rcases Nat.lt_or_ge g w.heap.size with h | h
      · exact h
      · rw [Array.getElem?_eq_none h] at hh; cases hh
    · rw [Nat.zero_add, cell_of_row w g i cur e (0, 0) hh]
      rw [List.getElem?_take] at hu
      split at hu
      · rw [← Array.getElem?_toList]; exact hu
      · cases hu
theorem size22 (w : World) : (sizeOf 22).run Try.prog w = .ok 1 w := by
  obtain ⟨i0, hi, hz0, hz1, hz2⟩ := info_parts t22info
  simp [Go.sizeOf, typeInfo, hi, hz1]
theorem agg_eq (x y : Int) (w : World) : (Op.equalIn 10000 70 (.agg #[.int .u64 x, .int .u64 y]) (.agg #[.int .u64 x, .int .u64 y])).run Try.prog w = .ok true w := by
  have u3 := Try.underlying22
  have z3 := size22
  rw [show (10000 : Nat) = 9999 + 1 from rfl, Op.equalIn]
  simp only [Sem.run_bind, run_underlying Try.underlying70, Result.andThen_ok]
  simp only [Std.Legacy.Range.forIn_eq_forIn_range', Std.Legacy.Range.size, Nat.sub_zero, Nat.add_sub_cancel, Nat.div_one, List.range'_succ, List.range'_zero, List.forIn_cons, List.forIn_nil]
  go_simp
theorem agg_ne (x y : Nat) (w : World) : (binOp .neq 70 (.agg #[.int .u64 (x : Int), .int .u64 (y : Int)]) (.agg #[.int .u64 (x : Int), .int .u64 (y : Int)])).run Try.prog w = .ok (.bool false) w := by
  have h := agg_eq (x : Int) (y : Int) w
  go_simp
end Go.Proofs.Ytdggemdgndiafaa
