/- Lists of numbers: wire.Take and wire.Put at uint64. -/
import Derived.Test.YtcofnbeemfhcpaaWyes
namespace Go.Proofs.Ytcofnbeemfhcpaa
open Go.ChangeShapes Go.WideShapes Go.ChangeAt Go.RowKit

/-- Numbers that stand here one behind the other. -/
def AllNum : List Nat → List Nat → List Nat → Prop
  | l, [], rest => l = rest
  | l, x :: xs, rest => ∃ mid, Begins l x mid ∧ AllNum mid xs rest
theorem AllNum.snoc : ∀ {xs l mid : List Nat} {x : Nat} {rest : List Nat}, AllNum l xs mid → Begins mid x rest → AllNum l (xs ++ [x]) rest
  | [], l, mid, x, rest, h, hb => by
    have : l = mid := h
    subst this
    exact ⟨rest, hb, rfl⟩
  | y :: ys, l, mid, x, rest, ⟨m, h1, h2⟩, hb => ⟨m, h1, AllNum.snoc h2 hb⟩
theorem AllNum.len : ∀ {xs l rest : List Nat}, AllNum l xs rest → xs.length + rest.length ≤ l.length
  | [], l, rest, h => by
    have : l = rest := h
    subst this
    simp
  | x :: xs, l, rest, ⟨m, h1, h2⟩ => by
    have := AllNum.len h2
    have h3 := congrArg List.length h1.eq
    have h4 : 0 < (form x).length := by
      by_cases h : x < 128
      · rw [form_lo h]; simp
      · rw [form_hi h]; simp
    simp at h3
    simp only [List.length_cons]
    omega

def uv (l : List Nat) : List Value := l.map fun n : Nat => Value.int .u64 (n : Int)
theorem t22info : (Try.prog.info? 44).map (fun i => (i.zero, i.size, i.bytes)) = some (some (.int .u64 0), 1, 8) := by kernel_rfl

/-- A list that stands here, in new memory from block B on. -/
def OkList (B : Nat) (most : Int) (l : List Nat) (v : Value) (rest : List Nat) (w : World) : Prop :=
  ∃ xs mid : List Nat, Begins l xs.length mid ∧ (xs.length : Int) ≤ most ∧ AllNum mid xs rest ∧ w.ownsRow B 44 1 v xs.length (uv xs)
def ErrList (most : Int) (l : List Nat) (n : Int) : Prop := ErrCount most l n ∨ (n = 4 ∧ ∃ m mid, Begins l m mid ∧ (m : Int) ≤ most ∧ ∃ xs rest, xs.length < m ∧ AllNum mid xs rest ∧ NoNum rest)

theorem holds_list (B : Nat) (most : Int) (l : List Nat) (B' : Nat) (h : B' ≤ B) : Holds2 (OkList B most l) B' := by
  rintro v rest w b o u ⟨xs, mid, h1, h2, h3, h4⟩ hb
  exact ⟨xs, mid, h1, h2, h3, ownsRow_setCell_below h4 (by simpa using Nat.lt_of_lt_of_le hb h) u⟩

theorem own_grown {w w' : World} {B : Nat} {e : TypeId} {v : Value} {n : Nat} {xs : List Value} {r : Nat} (h : w.ownsRow B e 1 v n xs) (hg : w.grownBy w' (some r)) (hr : r < B) : w'.ownsRow B e 1 v n xs := by
  refine h.kept hg ?_
  cases hb : v.ownBlock with
  | none => exact .inl rfl
  | some k =>
    right
    have := (h.lt k hb).1
    intro he
    injection he with he
    omega

theorem grownBy_trans {a b c : World} {r : Nat} (h : a.grownBy b (some r)) (k : b.grownBy c (some r)) : a.grownBy c (some r) :=
  ⟨k.os.trans h.os, k.tape.trans h.tape, k.output.trans h.output, Nat.le_trans h.size k.size, fun i hi hne => (k.block i (Nat.lt_of_lt_of_le hi h.size) hne).trans (h.block i hi hne)⟩
theorem grownBy_below {a b c : World} {r : Nat} (h : a.grownBy b (some r)) (k : Below a.heap.size b c) : a.grownBy c (some r) :=
  ⟨k.os.trans h.os, k.tape.trans h.tape, k.output.trans h.output, Nat.le_trans h.size k.size, fun i hi hne => (k.block i hi).trans (h.block i hi hne)⟩

theorem fnil (w : World) : (binOp .eql 60 (.func (.func 20) #[] #[]) .nilFunc).run Try.prog w = .ok (.bool false) w := by kernel_rfl

/-- The form of a list of numbers. -/
def listForm (xs : List Nat) : List Nat := form xs.length ++ (xs.map form).flatten

theorem allnum_forms : ∀ (xs rest : List Nat), (∀ x ∈ xs, U64 x) → AllNum ((xs.map form).flatten ++ rest) xs rest
  | [], rest, _ => by simp [AllNum]
  | x :: xs, rest, h => ⟨(xs.map form).flatten ++ rest, ⟨h x (by simp), by simp⟩, allnum_forms xs rest fun y hy => h y (by simp [hy])⟩
theorem AllNum.forms : ∀ {xs l rest : List Nat}, AllNum l xs rest → l = (xs.map form).flatten ++ rest ∧ ∀ x ∈ xs, U64 x
  | [], l, rest, h => ⟨by simpa using (show l = rest from h), by simp⟩
  | x :: xs, l, rest, ⟨m, h1, h2⟩ => by
    obtain ⟨h3, h4⟩ := AllNum.forms h2
    refine ⟨by rw [h1.eq, h3]; simp, fun y hy => ?_⟩
    rcases List.mem_cons.1 hy with rfl | hy
    · exact h1.n64
    · exact h4 y hy
end Go.Proofs.Ytcofnbeemfhcpaa
