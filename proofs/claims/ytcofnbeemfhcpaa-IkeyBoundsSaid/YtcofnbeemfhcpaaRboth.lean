
/- What is read, by the program's reader and by the reference's, said at once; it is told. -/
import Derived.Test.YtcofnbeemfhcpaaRlist
namespace Go.Proofs.Ytcofnbeemfhcpaa
open Go.ChangeShapes Go.WideShapes Go.ChangeAt Go.RowKit

def OutNum (l : List Nat) (n : Nat) (k : Int) (rest : List Nat) : Prop := (k = 0 ∧ Begins l n rest) ∨ (k = 4 ∧ NoNum l ∧ rest = l ∧ n = 0)
def OutSig (l : List Nat) (s : Int) (k : Int) (rest : List Nat) : Prop := (k = 0 ∧ Begins l (zz s) rest) ∨ (k = 4 ∧ NoNum l ∧ rest = l ∧ s = 0)
def OutFlag (l : List Nat) (b : Bool) (k : Int) (rest : List Nat) : Prop := (k = 0 ∧ l = flagForm b ++ rest) ∨ (k = 4 ∧ (∀ b rest, l ≠ flagForm b ++ rest) ∧ rest = l ∧ b = false)
def OutText (most : Int) (l bs : List Nat) (k : Int) (rest : List Nat) : Prop := (k = 0 ∧ (bs.length : Int) ≤ most ∧ U64 bs.length ∧ l = bytesForm bs ++ rest) ∨ (k ≠ 0 ∧ ErrText most l k ∧ rest = l ∧ bs = [])
theorem OutNum.same {l r r' : List Nat} {n n' : Nat} {k k' : Int} (h : OutNum l n k r) (h' : OutNum l n' k' r') : n = n' ∧ k = k' ∧ r = r' := by
  rcases h with ⟨rfl, hb⟩ | ⟨rfl, hno, rfl, rfl⟩ <;> rcases h' with ⟨rfl, hb'⟩ | ⟨rfl, hno', rfl, rfl⟩
  · obtain ⟨h1, h2⟩ := hb.unique hb'; exact ⟨h1, rfl, h2⟩
  · exact absurd hb (hno' _ _)
  · exact absurd hb' (hno _ _)
  · exact ⟨rfl, rfl, rfl⟩
theorem OutSig.same {l r r' : List Nat} {n n' : Int} {k k' : Int} (h : OutSig l n k r) (h' : OutSig l n' k' r') : n = n' ∧ k = k' ∧ r = r' := by
  rcases h with ⟨rfl, hb⟩ | ⟨rfl, hno, rfl, rfl⟩ <;> rcases h' with ⟨rfl, hb'⟩ | ⟨rfl, hno', rfl, rfl⟩
  · obtain ⟨h1, h2⟩ := hb.unique hb'; exact ⟨zz_inj h1, rfl, h2⟩
  · exact absurd hb (hno' _ _)
  · exact absurd hb' (hno _ _)
  · exact ⟨rfl, rfl, rfl⟩
theorem OutFlag.same {l r r' : List Nat} {n n' : Bool} {k k' : Int} (h : OutFlag l n k r) (h' : OutFlag l n' k' r') : n = n' ∧ k = k' ∧ r = r' := by
  rcases h with ⟨rfl, hb⟩ | ⟨rfl, hno, rfl, rfl⟩ <;> rcases h' with ⟨rfl, hb'⟩ | ⟨rfl, hno', rfl, rfl⟩
  · rw [hb] at hb'
    cases n <;> cases n' <;> simp [flagForm] at hb' <;> simp [hb']
  · exact absurd hb (hno' _ _)
  · exact absurd hb' (hno _ _)
  · exact ⟨rfl, rfl, rfl⟩
theorem begins_text {l bs rest : List Nat} (h : U64 bs.length) (he : l = bytesForm bs ++ rest) : Begins l bs.length (bs ++ rest) := ⟨h, by rw [he]; simp [bytesForm]⟩
theorem ErrCount.not {most : Int} {l : List Nat} {n : Int} {m : Nat} {rest : List Nat} (h : ErrCount most l n) (hb : Begins l m rest) (hle : (m : Int) ≤ most) : False := by
  rcases h with ⟨_, h0⟩ | ⟨_, _, hno⟩ | ⟨_, _, m', r', hb', hlt⟩
  · omega
  · exact hno _ _ hb
  · obtain ⟨e1, _⟩ := hb.unique hb'; omega
theorem ErrCount.same {most : Int} {l : List Nat} {n n' : Int} (h : ErrCount most l n) (h' : ErrCount most l n') : n = n' := by
  rcases h with ⟨rfl, h0⟩ | ⟨_, rfl, hno⟩ | ⟨_, rfl, m, r, hb, hlt⟩ <;> rcases h' with ⟨rfl, h0'⟩ | ⟨_, rfl, hno'⟩ | ⟨_, rfl, m', r', hb', hlt'⟩ <;> first | rfl | omega | exact absurd hb' (hno _ _) | exact absurd hb (hno' _ _)
theorem ErrText.same {most : Int} {l : List Nat} {n n' : Int} (h : ErrText most l n) (h' : ErrText most l n') : n = n' := by
  rcases h with h | ⟨rfl, m, r, hb, hle, hlt⟩ <;> rcases h' with h' | ⟨rfl, m', r', hb', hle', hlt'⟩
  · exact h.same h'
  · exact (h.not hb' hle').elim
  · exact (h'.not hb hle).elim
  · rfl
theorem ErrText.not {most : Int} {l : List Nat} {n : Int} (h : ErrText most l n) {bs rest : List Nat} (h1 : (bs.length : Int) ≤ most) (h2 : U64 bs.length) (h3 : l = bytesForm bs ++ rest) : False := by
  have hb := begins_text h2 h3
  rcases h with h | ⟨rfl, m, r, hb', hle, hlt⟩
  · exact h.not hb h1
  · obtain ⟨rfl, rfl⟩ := hb.unique hb'; simp at hlt; omega
theorem OutText.same {most : Int} {l r r' n n' : List Nat} {k k' : Int} (h : OutText most l n k r) (h' : OutText most l n' k' r') : n = n' ∧ k = k' ∧ r = r' := by
  rcases h with ⟨rfl, h1, h2, h3⟩ | ⟨_, he, rfl, rfl⟩ <;> rcases h' with ⟨rfl, h1', h2', h3'⟩ | ⟨_, he', rfl, rfl⟩
  · obtain ⟨e1, e2⟩ := (begins_text h2 h3).unique (begins_text h2' h3')
    obtain ⟨a1, a2⟩ := List.append_inj e2 e1
    exact ⟨a1, rfl, a2⟩
  · exact (he'.not h1 h2 h3).elim
  · exact (he.not h1' h2' h3').elim
  · exact ⟨rfl, he.same he', rfl⟩
theorem rcount {most : Int} (h0 : 0 ≤ most) {l : List Nat} {n : Int} (h : RErrCount most l n) : ErrCount most l n := by
  rcases h with ⟨rfl, h⟩ | ⟨rfl, m, r, h1, h2⟩
  · exact .inr (.inl ⟨h0, rfl, h⟩)
  · exact .inr (.inr ⟨h0, rfl, m, r, h1, h2⟩)
theorem OutText.neg {most : Int} {l bs rest : List Nat} {k : Int} (hm : most < 0) (h : OutText most l bs k rest) : k = 2 ∧ rest = l ∧ bs = [] := by
  rcases h with ⟨rfl, h1, _⟩ | ⟨_, he, rfl, rfl⟩
  · omega
  · exact ⟨he.same (.inl (.inl ⟨rfl, hm⟩)), rfl, rfl⟩
/-- Nothing that stood is other than it was, but the two readers. -/
structure G2 (r q : Nat) (w w' : World) : Prop where
  os : w'.os = w.os
  tape : w'.tape = w.tape
  output : w'.output = w.output
  size : w.heap.size ≤ w'.heap.size
  block : ∀ i, i < w.heap.size → i ≠ r → i ≠ q → w'.heap[i]? = w.heap[i]?
theorem G2.refl (r q : Nat) (w : World) : G2 r q w w := ⟨rfl, rfl, rfl, Nat.le_refl _, fun _ _ _ _ => rfl⟩
theorem G2.trans {r q : Nat} {a b c : World} (h : G2 r q a b) (k : G2 r q b c) : G2 r q a c :=
  ⟨k.os.trans h.os, k.tape.trans h.tape, k.output.trans h.output, Nat.le_trans h.size k.size, fun i hi h1 h2 => (k.block i (Nat.lt_of_lt_of_le hi h.size) h1 h2).trans (h.block i hi h1 h2)⟩
theorem g2_r {r q : Nat} {a b : World} (h : a.grownBy b (some r)) : G2 r q a b := ⟨h.os, h.tape, h.output, h.size, fun i hi h1 _ => h.block i hi (by intro e; injection e with e; exact h1 e)⟩
theorem g2_q {r q : Nat} {a b : World} (h : a.grownBy b (some q)) : G2 r q a b := ⟨h.os, h.tape, h.output, h.size, fun i hi _ h2 => h.block i hi (by intro e; injection e with e; exact h2 e)⟩
theorem g2_b {r q : Nat} {a b : World} (h : Below a.heap.size a b) : G2 r q a b := ⟨h.os, h.tape, h.output, h.size, fun i hi _ _ => h.block i hi⟩
theorem Number_out {r lo hi : Nat} {l : List Nat} {w : World} (h : Rd w r lo hi l) :
    Calls Try.prog 20 #[.pointer (some ⟨r, 0, none⟩)] w fun e w' => ∃ (n : Nat) (k : Int) (rest : List Nat), OutNum l n k rest ∧ e = .returned (.tuple #[.int .u64 (n : Int), .int .i64 k]) ∧ Rd w' r lo hi rest ∧ w.grownBy w' (some r) := by
  refine (Number_any r lo hi l w h).mono ?_
  rintro e w' (⟨v, rest, ⟨n, hb, rfl⟩, rfl, hr, hg⟩ | ⟨k, ⟨rfl, hno⟩, hk, rfl, hr, hg⟩)
  · exact ⟨n, 0, rest, .inl ⟨rfl, hb⟩, rfl, hr, hg⟩
  · exact ⟨0, 4, l, .inr ⟨rfl, hno, rfl, rfl⟩, rfl, hr, hg⟩
theorem Bytes_out {r lo hi : Nat} {l : List Nat} {w : World} (h : Rd w r lo hi l) (hl : l.length ≤ 1000000000000) {most : Int} (hm1 : -9223372036854775808 ≤ most) (hm2 : most ≤ 9223372036854775807) :
    Calls Try.prog 19 #[.pointer (some ⟨r, 0, none⟩), .int .i64 most] w fun e w' => ∃ (v : Value) (bs : List Nat) (k : Int) (rest : List Nat), OutText most l bs k rest ∧ Bs w' w.heap.size w'.heap.size v bs ∧ e = .returned (.tuple #[v, .int .i64 k]) ∧ Rd w' r lo hi rest ∧ w.grownBy w' (some r) := by
  refine (Bytes_any most hm1 hm2 r lo hi l w h hl).mono ?_
  rintro e w' (⟨v, rest, ⟨bs, h1, h2, h3, h4⟩, rfl, hr, hg⟩ | ⟨k, he, hk, rfl, hr, hg⟩)
  · exact ⟨v, bs, 0, rest, .inl ⟨rfl, h1, h2, h3⟩, Bs.of_own h4, rfl, hr, hg⟩
  · exact ⟨_, [], k, l, .inr ⟨hk, he, rfl, rfl⟩, Bs.nil _ _ _, rfl, hr, hg⟩
end Go.Proofs.Ytcofnbeemfhcpaa
