/- What was read, said for both outcomes at once; and the law's own question of it. -/
import Derived.Test.YtdggemdgndiafaaWput
import Derived.Test.YtdggemdgndiafaaFrame
import Derived.Test.YtdggemdgndiafaaOrd
import Derived.Deep.DeepCutAuto
namespace Go.Proofs.Ytdggemdgndiafaa
open Go.ChangeShapes Go.WideShapes Go.ChangeAt Go.RowKit

/-- Read of l: an error and nothing gone, or this form and what is left. -/
def As (l : List Nat) (k : Int) (rest fm : List Nat) : Prop := (k ≠ 0 ∧ rest = l) ∨ (k = 0 ∧ l = fm ++ rest)

theorem Number_as {r lo hi : Nat} {l : List Nat} {w : World} (h : Rd w r lo hi l) :
    Calls Try.prog 16 #[.pointer (some ⟨r, 0, none⟩)] w fun e w' => ∃ (n : Nat) (k : Int) (rest : List Nat), U64 n ∧ As l k rest (form n) ∧ e = .returned (.tuple #[.int .u64 (n : Int), .int .i64 k]) ∧ Rd w' r lo hi rest ∧ w.grownBy w' (some r) := by
  refine (Number_any r lo hi l w h).mono ?_
  rintro e w' (⟨v, rest, ⟨n, hb, rfl⟩, rfl, hr, hg⟩ | ⟨k, _, hk, rfl, hr, hg⟩)
  · exact ⟨n, 0, rest, hb.n64, .inr ⟨rfl, hb.eq⟩, rfl, hr, hg⟩
  · exact ⟨0, k, l, ⟨by omega⟩, .inl ⟨hk, rfl⟩, rfl, hr, hg⟩

theorem Signed_as {r lo hi : Nat} {l : List Nat} {w : World} (h : Rd w r lo hi l) :
    Calls Try.prog 21 #[.pointer (some ⟨r, 0, none⟩)] w fun e w' => ∃ (s : Int) (k : Int) (rest : List Nat), (-9223372036854775808 ≤ s ∧ s ≤ 9223372036854775807) ∧ As l k rest (form (zz s)) ∧ e = .returned (.tuple #[.int .i64 s, .int .i64 k]) ∧ Rd w' r lo hi rest ∧ w.grownBy w' (some r) := by
  refine (Signed_any r lo hi l w h).mono ?_
  rintro e w' (⟨v, rest, ⟨s, h1, h2, hb, rfl⟩, rfl, hr, hg⟩ | ⟨k, _, hk, rfl, hr, hg⟩)
  · exact ⟨s, 0, rest, ⟨h1, h2⟩, .inr ⟨rfl, hb.eq⟩, rfl, hr, hg⟩
  · exact ⟨0, k, l, by omega, .inl ⟨hk, rfl⟩, rfl, hr, hg⟩

theorem Bytes_as {r lo hi : Nat} {l : List Nat} {w : World} (h : Rd w r lo hi l) (hl : l.length ≤ 1000000000000) {most : Int} (hm1 : -9223372036854775808 ≤ most) (hm2 : most ≤ 9223372036854775807) :
    Calls Try.prog 31 #[.pointer (some ⟨r, 0, none⟩), .int .i64 most] w fun e w' => ∃ (v : Value) (bs : List Nat) (k : Int) (rest : List Nat), bs.length ≤ l.length ∧ Bs w' w.heap.size w'.heap.size v bs ∧ As l k rest (bytesForm bs) ∧ e = .returned (.tuple #[v, .int .i64 k]) ∧ Rd w' r lo hi rest ∧ w.grownBy w' (some r) := by
  refine (Bytes_any most hm1 hm2 r lo hi l w h hl).mono ?_
  rintro e w' (⟨v, rest, ⟨bs, h1, h2, h3, h4⟩, rfl, hr, hg⟩ | ⟨k, _, hk, rfl, hr, hg⟩)
  · exact ⟨v, bs, 0, rest, by rw [h3]; simp [bytesForm]; omega, Bs.of_own h4, .inr ⟨rfl, h3⟩, rfl, hr, hg⟩
  · exact ⟨_, [], k, l, by simp, Bs.nil _ _ _, .inl ⟨hk, rfl⟩, rfl, hr, hg⟩

/-- A slice of numbers. -/
def Us (w : World) (lo hi : Nat) (v : Value) (xs : List Nat) : Prop := ∃ A c, v = .slice A xs.length c ∧ xs.length ≤ c ∧ c ≤ maxLen ∧ Sl w lo hi A (uv xs)
theorem Us.of_own {w : World} {base e n : Nat} {v : Value} {xs : List Nat} (h : w.ownsRow base e 1 v n (uv xs)) : Us w base w.heap.size v xs := by
  obtain ⟨A, c, rfl, h1, h2, h3, h4⟩ := Sl.of_own h
  have h3' : xs.length = n := by simpa [uv] using h3
  subst h3'
  exact ⟨A, c, rfl, h1, h2, h4⟩

theorem Take_as {r lo hi : Nat} {l : List Nat} {w : World} (h : Rd w r lo hi l) (hl : l.length ≤ 1000000000000) {most : Int} (hm1 : -9223372036854775808 ≤ most) (hm2 : most ≤ 9223372036854775807) :
    Calls Try.prog 32 #[.pointer (some ⟨r, 0, none⟩), .int .i64 most, .func (.func 16) #[] #[]] w fun e w' => ∃ (v : Value) (xs : List Nat) (k : Int) (rest : List Nat), xs.length ≤ l.length ∧ (∀ x ∈ xs, U64 x) ∧ Us w' w.heap.size w'.heap.size v xs ∧ As l k rest (listForm xs) ∧ e = .returned (.tuple #[v, .int .i64 k]) ∧ Rd w' r lo hi rest ∧ w.grownBy w' (some r) := by
  refine (Take_any most hm1 hm2 r lo hi l w h hl).mono ?_
  rintro e w' (⟨v, rest, ⟨xs, mid, h1, h2, h3, h4⟩, rfl, hr, hg⟩ | ⟨k, _, hk, rfl, hr, hg⟩)
  · obtain ⟨e1, e2⟩ := h3.forms
    have e3 := h3.len
    have e4 := congrArg List.length h1.eq
    simp at e4
    exact ⟨v, xs, 0, rest, by omega, e2, Us.of_own h4, .inr ⟨rfl, by rw [h1.eq, e1]; simp [listForm]⟩, rfl, hr, hg⟩
  · exact ⟨_, [], k, l, by simp, by simp, ⟨none, 0, rfl, by simp, by simp [maxLen], .inl rfl⟩, .inl ⟨hk, rfl⟩, rfl, hr, hg⟩

/-- The first bytes of a row of the call's own. -/
theorem prefix_bs {w : World} {lo hi d n : Nat} {B B2 : Option Addr} {G : List Nat} (h : Bs w lo hi (.slice B G.length d) G) (h2 : ∀ l : List Nat, l.length = G.length → ∀ (W : World) (lo hi : Nat), By W lo hi B l → By W lo hi B2 (l.take n))
    (hn : B2 = none → B = none) (hle : n ≤ G.length) : Bs w lo hi (.slice B2 n d) (G.take n) := by
  obtain ⟨A', c', he, a1, a2, a3, a4⟩ := h
  have h5 : B = A' ∧ d = c' := by injection he with x y z; exact ⟨x, z⟩
  obtain ⟨rfl, rfl⟩ := h5
  have hl : (G.take n).length = n := by simp; omega
  exact ⟨B2, d, by rw [hl], by rw [hl]; omega, a2, fun h => a3 (hn h), h2 G rfl _ _ _ a4⟩

set_option maxRecDepth 20000 in
set_option maxHeartbeats 1000000 in
theorem as_any {L rest fm : List Nat} {k : Int} (h : As L k rest fm) (vb vf : Value) (lo hi lo2 hi2 : Nat) (w : World) (hb : Bs w lo hi vb L) (hf : Bs w lo2 hi2 vf fm) (hhi : hi ≤ w.heap.size) (hhi2 : hi2 ≤ w.heap.size) (hl : L.length ≤ 1000000000000) :
    Calls Try.prog 34 #[vb, .int .i64 (rest.length : Int), .int .i64 k, vf] w fun e w' => e = .returned (.bool true) ∧ Below w.heap.size w w' := by
  have HB := Lib.hid hb
  have HF := Lib.hid hf
  obtain ⟨A, c, rfl, hc, x2, x3, x4⟩ := hb
  obtain ⟨A2, c2, rfl, y1, y2, y3, y4⟩ := hf
  clear x2 x3 x4 y1 y2 y3 y4
  rcases h with ⟨hk, rfl⟩ | ⟨rfl, hL⟩
  · have hd : (k != 0) = true := by simpa using hk
    have he : ((rest.length : Int) == (rest.length : Int)) = true := by simp
    clear hk
    go_enter Try.func34, Try.ntmps34
    go_wp2_with fail
    go_ret
    exact ⟨rfl, Below.refl _ _⟩
  · have hlen : L.length = fm.length + rest.length := by rw [hL]; simp
    have htake : L.take fm.length = fm := by rw [hL]; simp
    have hd1 : decide (rest.length ≤ L.length) = true := by simp; omega
    have hd2 : decide ((rest.length : Int) ≤ (L.length : Int)) = true := by simp; omega
    have hs1 : wrap64 ((L.length : Int) - (rest.length : Int)) = (fm.length : Int) := by unfold wrap64; omega
    have hs2 : IntKind.i64.wrap ((L.length : Int) - (rest.length : Int)) = (fm.length : Int) := by rw [IntKind.wrap_i64]; omega
    obtain ⟨B2, hB2, hB2n, hrun⟩ := head_run .i64 A L.length c fm.length (by omega) hc
    have HP2 : Hid (Bs w lo hi (.slice B2 fm.length c) fm) := by
      have := prefix_bs HB.out hB2 hB2n (by omega)
      rw [htake] at this
      exact this
    have ht : ((tx fm).toList == (tx fm).toList) = true := by simp
    have HC : Hid (∀ u, Ext w.drew u → (convert 23 9 (.slice B2 fm.length c)).run Try.prog u = .ok (.string (tx fm)) u ∧ (convert 23 9 (.slice A2 fm.length c2)).run Try.prog u = .ok (.string (tx fm)) u) :=
      fun u hu => ⟨cv (HP2.out.below ((Ext.drew w).trans hu) hhi), cv (HF.out.below ((Ext.drew w).trans hu) hhi2)⟩
    clear hB2 hB2n hlen htake hL hc hl
    go_enter Try.func34, Try.ntmps34
    go_wp2_with fail
    refine From.start (by kernel_rfl) ?_
    simp only []
    repeat (first | (refine From.read (v := ?_) (by kernel_rfl) (by kernel_rfl) (by kernel_rfl) (fun _ _ _ h => h) (.inl ⟨by rfl, fun u hu => ?_⟩) ?_; rotate_left; (focus (have q1 := HC.out u hu; go_simp; try with_reducible rfl)); simp only [Act.put, List.setIfInBounds_toArray, List.set_cons_zero, List.set_cons_succ]) | (refine From.read (v := undef) (by kernel_rfl) (by kernel_rfl) (by kernel_rfl) (fun _ _ _ h => h) (.inr ⟨by rfl, rfl⟩) ?_; simp only [Act.put, List.setIfInBounds_toArray, List.set_cons_zero, List.set_cons_succ]))
    refine From.done (by kernel_rfl) ?_
    go_wp2_with fail
    go_ret
    exact ⟨rfl, Ext.drew w⟩
end Go.Proofs.Ytdggemdgndiafaa
