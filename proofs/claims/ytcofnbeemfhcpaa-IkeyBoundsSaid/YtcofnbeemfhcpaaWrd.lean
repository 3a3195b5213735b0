/- The reader of wire: what one is in memory, Open, none, Left, End. -/
import Derived.Test.YtcofnbeemfhcpaaWrow
import Derived.Test.YtcofnbeemfhcpaaPread
namespace Go.Proofs.Ytcofnbeemfhcpaa
open Go.ChangeShapes Go.WideShapes Go.ChangeAt Go.RowKit

/-- Block r is a reader's: what is left, and whether it is open. -/
def RObj (w : World) (r : Nat) (v : Value) (o : Bool) : Prop := w.heap[r]? = some (.cells #[v, .bool o] 56 (0, 0))
section
variable {w w' : World} {r : Nat} {v : Value} {o : Bool}
theorem RObj.lt (h : RObj w r v o) : r < w.heap.size := by
  rcases Nat.lt_or_ge r w.heap.size with hlt | hge
  · exact hlt
  · unfold RObj at h; rw [Array.getElem?_eq_none hge] at h; cases h
theorem RObj.c0 (h : RObj w r v o) : w.cell? ⟨r, 0, none⟩ = some v := cell_of_row w r 0 _ _ (0, 0) h
theorem RObj.c1 (h : RObj w r v o) : w.cell? ⟨r, 1, none⟩ = some (.bool o) := cell_of_row w r 1 _ _ (0, 0) h
theorem RObj.f0 (h : RObj w r v o) : w.frozen? ⟨r, 0, none⟩ = false := by unfold RObj at h; simp [World.frozen?, h]
theorem RObj.f1 (h : RObj w r v o) : w.frozen? ⟨r, 1, none⟩ = false := by unfold RObj at h; simp [World.frozen?, h]
theorem RObj.new (w : World) (v : Value) (o : Bool) : RObj (w.alloc (.cells #[v, .bool o] 56)) w.heap.size v o := heap_alloc_new w _
theorem RObj.alloc (h : RObj w r v o) (x : Obj) : RObj (w.alloc x) r v o := (Below.heap_alloc w x r h.lt).trans h
theorem RObj.set (h : RObj w r v o) (u : Value) : RObj (w.setCell ⟨r, 0, none⟩ u) r u o := by
  unfold RObj at h ⊢
  simp [World.setCell, Array.getElem?_modify, h]
theorem RObj.set1 (h : RObj w r v o) (b : Bool) : RObj (w.setCell ⟨r, 1, none⟩ (.bool b)) r v b := by
  unfold RObj at h ⊢
  simp [World.setCell, Array.getElem?_modify, h]
theorem RObj.far (h : RObj w r v o) {p : Addr} (hp : r ≠ p.block) (u : Value) : RObj (w.setCell p u) r v o := (Below.heap_setCell w p u r hp).trans h
theorem RObj.below {B : Nat} (h : RObj w r v o) (hb : Below B w w') (hr : r < B) : RObj w' r v o := (hb.block r hr).trans h
theorem RObj.grown {row : Option Nat} (h : RObj w r v o) (hb : w.grownBy w' row) (hr : some r ≠ row) : RObj w' r v o := (hb.block r h.lt hr).trans h
end

/-- An open reader in block r, with these bytes left, which lie in blocks of the interval. -/
structure Rd (w : World) (r lo hi : Nat) (l : List Nat) : Prop where
  ex : ∃ v, RObj w r v true ∧ Bs w lo hi v l
  apart : r < lo ∨ hi ≤ r
  top : hi ≤ w.heap.size
  byt : ∀ b ∈ l, b < 256

section
variable {w w' : World} {r lo hi : Nat} {l : List Nat}
theorem Rd.lt (h : Rd w r lo hi l) : r < w.heap.size := by obtain ⟨v, h1, _⟩ := h.ex; exact h1.lt
theorem Rd.grown {row : Option Nat} (h : Rd w r lo hi l) (hg : w.grownBy w' row) (hne : some r ≠ row) (hr : ∀ k, row = some k → k < lo ∨ hi ≤ k) : Rd w' r lo hi l := by
  obtain ⟨v, h1, h2⟩ := h.ex
  exact ⟨⟨v, h1.grown hg hne, h2.grown hg h.top hr⟩, h.apart, Nat.le_trans h.top hg.size, h.byt⟩
theorem Rd.below {B : Nat} (h : Rd w r lo hi l) (hb : Below B w w') (hB : hi ≤ B) (hr : r < B) : Rd w' r lo hi l := by
  obtain ⟨v, h1, h2⟩ := h.ex
  exact ⟨⟨v, h1.below hb hr, h2.below hb hB⟩, h.apart, Nat.le_trans h.top hb.size, h.byt⟩
theorem Rd.alloc (h : Rd w r lo hi l) (o : Obj) : Rd (w.alloc o) r lo hi l := by
  obtain ⟨v, h1, h2⟩ := h.ex
  exact ⟨⟨v, h1.alloc o, h2.alloc h.top o⟩, h.apart, by have := h.top; simp; omega, h.byt⟩
end

theorem pnil (r o : Nat) (w : World) : (binOp .eql 45 (.pointer (some ⟨r, o, none⟩)) (.pointer none)).run Try.prog w = .ok (.bool false) w := by go_simp

theorem none_open (r : Nat) (v : Value) (o : Bool) (w : World) (h : RObj w r v o) : Calls Try.prog 35 #[.pointer (some ⟨r, 0, none⟩)] w fun e w' => e = .returned (.bool (!o)) ∧ w = w' := by
  have h1 := h.c1
  have H := Lib.hid h
  clear h
  go_enter Try.func35, Try.ntmps35
  go_wp2_with fail
  go_ret
  exact ⟨rfl, rfl⟩

theorem none_nil (w : World) : Calls Try.prog 35 #[.pointer none] w fun e w' => e = .returned (.bool true) ∧ w = w' := by
  go_enter Try.func35, Try.ntmps35
  go_wp2_with fail
  go_ret
  exact ⟨rfl, rfl⟩

/-- What End says. -/
def endErr (l : List Nat) : Int := if l = [] then 0 else 4

/-- Open answers a reader in a new block; its bytes lie in new blocks. -/
def Opened (w : World) (l : List Nat) (e : Ending) (w' : World) : Prop := ∃ r lo hi, e = .returned (.pointer (some ⟨r, 0, none⟩)) ∧ Rd w' r lo hi l ∧ w.heap.size ≤ r ∧ w.heap.size ≤ lo ∧ Below w.heap.size w w'

theorem open_any (v : Value) (lo hi : Nat) (l : List Nat) (w : World) (h : Bs w lo hi v l) (hhi : hi ≤ w.heap.size) (hl : l.length ≤ 1000000000000) (hbyt : ∀ b ∈ l, b < 256) :
    Calls Try.prog 18 #[v] w (Opened w l) := by
  have H := Lib.hid (clone_any v lo hi l w h hhi (by omega))
  have HY := Lib.hid hbyt
  clear h hl hbyt
  go_enter Try.func18, Try.ntmps18
  go_wp2_with fail
  refine Calls.mono H.out ?_
  rintro e w1 ⟨v1, rfl, hown, hb⟩
  have hB := Bs.of_own hown
  have hB' := hB
  obtain ⟨A, c, rfl, _, _, _, _⟩ := hB'
  have hz := hb.size
  have HB := Lib.hid hB
  clear hB hown
  go_wp2_with fail
  go_ret
  exact ⟨_, _, _, rfl, ⟨⟨_, RObj.new _ _ _, HB.out.alloc (Nat.le_refl _) _⟩, .inr (Nat.le_refl _), by simp, HY.out⟩, hz, Nat.le_refl _, hb.alloc hz _⟩
end Go.Proofs.Ytcofnbeemfhcpaa
