/- Things that are written, and their forms. -/
import Derived.Test.YtdggemdgndiafaaWas
import Derived.Lib.SmallJoins
namespace Go.Proofs.Ytdggemdgndiafaa
open Go.ChangeShapes Go.WideShapes Go.ChangeAt Go.RowKit

/-- A thing: its fields as numbers and lists, with the values that its two slices are. -/
structure Thg where
  kind : Int
  n : Nat
  s : Int
  f : Bool
  vb : Value
  b : List Nat
  vl : Value
  l : List Nat
def Thg.cells (t : Thg) : Array Value := #[.int .i64 t.kind, .int .u64 (t.n : Int), .int .i64 t.s, .bool t.f, t.vb, t.vl]
/-- The form of a thing. -/
def Thg.form (t : Thg) : List Nat :=
  if t.kind = 1 then Go.Proofs.Ytdggemdgndiafaa.form t.n else if t.kind = 2 then Go.Proofs.Ytdggemdgndiafaa.form (zz t.s) else if t.kind = 3 then flagForm t.f else if t.kind = 4 then bytesForm t.b else if t.kind = 5 then listForm t.l else []
/-- What a thing is in memory. -/
structure ThOk (w : World) (lo hi : Nat) (t : Thg) : Prop where
  k1 : -9223372036854775808 ≤ t.kind
  k2 : t.kind ≤ 9223372036854775807
  n64 : U64 t.n
  s1 : -9223372036854775808 ≤ t.s
  s2 : t.s ≤ 9223372036854775807
  bs : Bs w lo hi t.vb t.b
  byt : ∀ x ∈ t.b, x < 256
  us : Us w lo hi t.vl t.l
  l64 : ∀ x ∈ t.l, U64 x
theorem Us.below {w w' : World} {lo hi B : Nat} {v : Value} {xs : List Nat} (h : Us w lo hi v xs) (hb : Below B w w') (hB : hi ≤ B) : Us w' lo hi v xs := by
  obtain ⟨A, c, e, h1, h2, h3⟩ := h
  exact ⟨A, c, e, h1, h2, h3.below hb hB⟩
theorem Us.alloc {w : World} {lo hi : Nat} {v : Value} {xs : List Nat} (h : Us w lo hi v xs) (hB : hi ≤ w.heap.size) (o : Obj) : Us (w.alloc o) lo hi v xs := by
  obtain ⟨A, c, e, h1, h2, h3⟩ := h
  exact ⟨A, c, e, h1, h2, h3.alloc hB o⟩
theorem ThOk.below {w w' : World} {lo hi B : Nat} {t : Thg} (h : ThOk w lo hi t) (hb : Below B w w') (hB : hi ≤ B) : ThOk w' lo hi t :=
  ⟨h.k1, h.k2, h.n64, h.s1, h.s2, h.bs.below hb hB, h.byt, h.us.below hb hB, h.l64⟩

theorem NewBy.box {w : World} {o : Obj} {l : List Nat} {e : Ending} {w' : World} (h : NewBy (w.alloc o) l e w') : NewBy w l e w' := by
  obtain ⟨v, rfl, hown, hb⟩ := h
  exact ⟨v, rfl, Go.Joins.ownsRow_le hown (by simp), ((Below.refl _ _).alloc (Nat.le_refl _) _).trans (hb.mono (by simp))⟩

/-- A thing's cells: its block behind a call that turns the reader's block alone. -/
theorem box_cell {w w1 : World} {cs : Array Value} {t : TypeId} {r : Nat} (hg : (w.alloc (.cells cs t)).grownBy w1 (some r)) (hr : r < w.heap.size) (i : Nat) {v : Value} (hv : cs[i]? = some v) : w1.cell? ⟨w.heap.size, i, none⟩ = some v := by
  have h := hg.block w.heap.size (by simp) (by intro e; injection e with e; omega)
  have h2 : w1.heap[w.heap.size]? = some (.cells cs t) := h.trans (heap_alloc_new _ _)
  rw [cell_of_row w1 w.heap.size i _ _ _ h2]
  exact hv

theorem AllNum.same : ∀ {xs ys l r r' : List Nat}, AllNum l xs r → AllNum l ys r' → xs.length = ys.length → xs = ys ∧ r = r'
  | [], [], l, r, r', h, k, _ => ⟨rfl, (show l = r from h).symm.trans (show l = r' from k)⟩
  | x :: xs, y :: ys, l, r, r', ⟨m, h1, h2⟩, ⟨m', k1, k2⟩, hl => by
    obtain ⟨rfl, rfl⟩ := h1.unique k1
    obtain ⟨rfl, rfl⟩ := AllNum.same h2 k2 (by simpa using hl)
    exact ⟨rfl, rfl⟩
  | [], _ :: _, _, _, _, _, _, hl => by simp at hl
  | _ :: _, [], _, _, _, _, _, hl => by simp at hl
theorem AllNum.next : ∀ {xs ys l r r' : List Nat}, AllNum l xs r → AllNum l ys r' → ys.length < xs.length → ∃ x q, Begins r' x q
  | x :: xs, [], l, r, r', ⟨m, h1, _⟩, k, _ => ⟨x, m, by have : l = r' := k; rw [← this]; exact h1⟩
  | x :: xs, y :: ys, l, r, r', ⟨m, h1, h2⟩, ⟨m', k1, k2⟩, hl => by
    obtain ⟨rfl, rfl⟩ := h1.unique k1
    exact AllNum.next h2 k2 (by simpa using hl)
  | [], _, _, _, _, _, _, hl => by simp at hl

/-- A list that stands here is read. -/
theorem Take_yes {r lo hi : Nat} {l : List Nat} {w : World} (h : Rd w r lo hi l) (hl : l.length ≤ 1000000000000) {most : Int} (hm2 : most ≤ 9223372036854775807) {xs rest : List Nat} (hx : l = listForm xs ++ rest) (hU : ∀ x ∈ xs, U64 x) (h64 : U64 xs.length) (hm : (xs.length : Int) ≤ most) :
    Calls Try.prog 32 #[.pointer (some ⟨r, 0, none⟩), .int .i64 most, .func (.func 16) #[] #[]] w fun e w' => ∃ v, Us w' w.heap.size w'.heap.size v xs ∧ e = .returned (.tuple #[v, .int .i64 0]) ∧ Rd w' r lo hi rest ∧ w.grownBy w' (some r) := by
  have hb : Begins l xs.length ((xs.map form).flatten ++ rest) := ⟨h64, by rw [hx]; simp [listForm]⟩
  have ha : AllNum ((xs.map form).flatten ++ rest) xs rest := allnum_forms xs rest hU
  refine (Take_any most (by omega) hm2 r lo hi l w h hl).mono ?_
  rintro e w' (⟨v, rest', ⟨xs', mid, h1, h2, h3, h4⟩, rfl, hr, hg⟩ | ⟨k, herr, hk, rfl, hr, hg⟩)
  · obtain ⟨e1, e2⟩ := h1.unique hb
    rw [e2] at h3
    obtain ⟨rfl, rfl⟩ := h3.same ha e1
    exact ⟨v, Us.of_own h4, rfl, hr, hg⟩
  · exfalso
    rcases herr with (⟨_, h⟩ | ⟨_, _, h⟩ | ⟨_, _, m, q, h1, h2⟩) | ⟨_, m, mid, h1, h2, xs', q, h3, h4, h5⟩
    · omega
    · exact h _ _ hb
    · obtain ⟨rfl, rfl⟩ := h1.unique hb; omega
    · obtain ⟨rfl, rfl⟩ := h1.unique hb
      obtain ⟨x, q', hx'⟩ := ha.next h4 h3
      exact h5 _ _ hx'

/-- Read as this one, or not. -/
def Is1 (w : World) (r lo hi : Nat) (l fm : List Nat) (same : Prop) (k : Int) (w' : World) : Prop := ∃ rest, Rd w' r lo hi rest ∧ w.grownBy w' (some r) ∧ ((same ∧ k = 0 ∧ l = fm ++ rest) ∨ (¬ (same ∧ k = 0) ∧ ∀ rest', l ≠ fm ++ rest'))

theorem Number_is {r lo hi : Nat} {l : List Nat} {w : World} (h : Rd w r lo hi l) {N : Nat} (hN : U64 N) :
    Calls Try.prog 16 #[.pointer (some ⟨r, 0, none⟩)] w fun e w' => ∃ (n : Nat) (k : Int), e = .returned (.tuple #[.int .u64 (n : Int), .int .i64 k]) ∧ Is1 w r lo hi l (form N) (n = N) k w' := by
  by_cases hy : ∃ rest, l = form N ++ rest
  · obtain ⟨rest, hy⟩ := hy
    exact (Number_yes h ⟨hN, hy⟩).mono fun e w' g => ⟨N, 0, g.ans, rest, g.rd, g.grown, .inl ⟨rfl, rfl, hy⟩⟩
  · refine (Number_as h).mono ?_
    rintro e w' ⟨n, k, rest, _, ha, rfl, hr, hg⟩
    refine ⟨n, k, rfl, rest, hr, hg, .inr ⟨fun hc => ?_, fun rest' he => hy ⟨rest', he⟩⟩⟩
    obtain ⟨rfl, rfl⟩ := hc
    rcases ha with ⟨h0, _⟩ | ⟨_, h1⟩
    · exact h0 rfl
    · exact hy ⟨rest, h1⟩
theorem Signed_is {r lo hi : Nat} {l : List Nat} {w : World} (h : Rd w r lo hi l) {S : Int} (h1 : -9223372036854775808 ≤ S) (h2 : S ≤ 9223372036854775807) :
    Calls Try.prog 21 #[.pointer (some ⟨r, 0, none⟩)] w fun e w' => ∃ (s : Int) (k : Int), e = .returned (.tuple #[.int .i64 s, .int .i64 k]) ∧ Is1 w r lo hi l (form (zz S)) (s = S) k w' := by
  by_cases hy : ∃ rest, l = form (zz S) ++ rest
  · obtain ⟨rest, hy⟩ := hy
    exact (Signed_yes h ⟨zz_64 h1 h2, hy⟩).mono fun e w' g => ⟨S, 0, g.ans, rest, g.rd, g.grown, .inl ⟨rfl, rfl, hy⟩⟩
  · refine (Signed_as h).mono ?_
    rintro e w' ⟨n, k, rest, _, ha, rfl, hr, hg⟩
    refine ⟨n, k, rfl, rest, hr, hg, .inr ⟨fun hc => ?_, fun rest' he => hy ⟨rest', he⟩⟩⟩
    obtain ⟨rfl, rfl⟩ := hc
    rcases ha with ⟨h0, _⟩ | ⟨_, h1⟩
    · exact h0 rfl
    · exact hy ⟨rest, h1⟩
theorem Flag_is {r lo hi : Nat} {l : List Nat} {w : World} (h : Rd w r lo hi l) (F : Bool) :
    Calls Try.prog 42 #[.pointer (some ⟨r, 0, none⟩)] w fun e w' => ∃ (f : Bool) (k : Int), e = .returned (.tuple #[.bool f, .int .i64 k]) ∧ Is1 w r lo hi l (flagForm F) (f = F) k w' := by
  by_cases hy : ∃ rest, l = flagForm F ++ rest
  · obtain ⟨rest, hy⟩ := hy
    exact (Flag_yes h hy).mono fun e w' g => ⟨F, 0, g.ans, rest, g.rd, g.grown, .inl ⟨rfl, rfl, hy⟩⟩
  · refine (Flag_any r lo hi l w h).mono ?_
    rintro e w' (⟨v, rest, ⟨b, hb, rfl⟩, rfl, hr, hg⟩ | ⟨k, _, hk, rfl, hr, hg⟩)
    · refine ⟨b, 0, rfl, rest, hr, hg, .inr ⟨fun hc => ?_, fun rest' he => hy ⟨rest', he⟩⟩⟩
      obtain ⟨rfl, _⟩ := hc
      exact hy ⟨rest, hb⟩
    · exact ⟨false, k, rfl, l, hr, hg, .inr ⟨fun hc => hk hc.2, fun rest' he => hy ⟨rest', he⟩⟩⟩
theorem Bytes_is {r lo hi : Nat} {l : List Nat} {w : World} (h : Rd w r lo hi l) (hl : l.length ≤ 1000000000000) {B : List Nat} (hB : B.length ≤ 1000000) :
    Calls Try.prog 31 #[.pointer (some ⟨r, 0, none⟩), .int .i64 (B.length : Int)] w fun e w' => ∃ (v : Value) (b : List Nat) (k : Int), Bs w' w.heap.size w'.heap.size v b ∧ (∀ x ∈ b, x ∈ l) ∧ e = .returned (.tuple #[v, .int .i64 k]) ∧ Is1 w r lo hi l (bytesForm B) (b = B) k w' := by
  by_cases hy : ∃ rest, l = bytesForm B ++ rest
  · obtain ⟨rest, hy⟩ := hy
    refine (Bytes_yes h hl (by omega) hy ⟨by omega⟩ (Int.le_refl _)).mono fun e w' ⟨v, g, hown⟩ => ⟨v, B, 0, Bs.of_own hown, fun x hx => by rw [hy]; simp [bytesForm, hx], g.ans, rest, g.rd, g.grown, .inl ⟨rfl, rfl, hy⟩⟩
  · refine (Bytes_any _ (by omega) (by omega) r lo hi l w h hl).mono ?_
    rintro e w' (⟨v, rest, ⟨bs, h1, h2, h3, h4⟩, rfl, hr, hg⟩ | ⟨k, _, hk, rfl, hr, hg⟩)
    · refine ⟨v, bs, 0, Bs.of_own h4, fun x hx => by rw [h3]; simp [bytesForm, hx], rfl, rest, hr, hg, .inr ⟨fun hc => ?_, fun rest' he => hy ⟨rest', he⟩⟩⟩
      obtain ⟨rfl, _⟩ := hc
      exact hy ⟨rest, h3⟩
    · exact ⟨_, [], k, Bs.nil _ _ _, by simp, rfl, l, hr, hg, .inr ⟨fun hc => hk hc.2, fun rest' he => hy ⟨rest', he⟩⟩⟩
theorem Take_is {r lo hi : Nat} {l : List Nat} {w : World} (h : Rd w r lo hi l) (hl : l.length ≤ 1000000000000) {L : List Nat} (hU : ∀ x ∈ L, U64 x) (hL : L.length ≤ 1000000) :
    Calls Try.prog 32 #[.pointer (some ⟨r, 0, none⟩), .int .i64 (L.length : Int), .func (.func 16) #[] #[]] w fun e w' => ∃ (v : Value) (xs : List Nat) (k : Int), xs.length ≤ l.length ∧ Us w' w.heap.size w'.heap.size v xs ∧ e = .returned (.tuple #[v, .int .i64 k]) ∧ Is1 w r lo hi l (listForm L) (xs = L) k w' := by
  by_cases hy : ∃ rest, l = listForm L ++ rest
  · obtain ⟨rest, hy⟩ := hy
    refine (Take_yes h hl (by omega) hy hU ⟨by omega⟩ (Int.le_refl _)).mono fun e w' ⟨v, hu, he, hr, hg⟩ => ⟨v, L, 0, ?_, hu, he, rest, hr, hg, .inl ⟨rfl, rfl, hy⟩⟩
    have := (allnum_forms L rest hU).len
    rw [hy]; simp [listForm] at this ⊢; omega
  · refine (Take_as h hl (by omega) (by omega)).mono ?_
    rintro e w' ⟨v, xs, k, rest, hxl, _, hu, ha, rfl, hr, hg⟩
    refine ⟨v, xs, k, hxl, hu, rfl, rest, hr, hg, .inr ⟨fun hc => ?_, fun rest' he => hy ⟨rest', he⟩⟩⟩
    obtain ⟨rfl, rfl⟩ := hc
    rcases ha with ⟨h0, _⟩ | ⟨_, h1⟩
    · exact h0 rfl
    · exact hy ⟨rest, h1⟩
end Go.Proofs.Ytdggemdgndiafaa
