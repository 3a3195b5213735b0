/- pair: two numbers read; its first answer lies in a cell of its own. -/
import Derived.Test.YtdggemdgndiafaaTform
import Derived.Laws.ResultCell
import Derived.Laws.Rows
namespace Go.Proofs.Ytdggemdgndiafaa
open Go.ChangeShapes Go.WideShapes Go.ChangeAt Go.RowKit

/-- Two numbers in a row. -/
def Begins2 (l : List Nat) (p : Nat × Nat) (rest : List Nat) : Prop := ∃ mid, Begins l p.1 mid ∧ Begins mid p.2 rest
def NoPair (l : List Nat) : Prop := ∀ p rest, ¬ Begins2 l p rest
/-- What pair answers: two numbers, whatever they are, and how it went. -/
def PairPost (l : List Nat) (w : World) (r lo hi : Nat) (e : Ending) (w' : World) : Prop :=
  ∃ (x y : Nat) (k : Int), e = .returned (.tuple #[.agg #[.int .u64 (x : Int), .int .u64 (y : Int)], .int .i64 k]) ∧ w.grownBy w' (some r) ∧ ((k = 0 ∧ ∃ rest, Begins2 l (x, y) rest ∧ Rd w' r lo hi rest) ∨ (k = 4 ∧ NoPair l))

/-- The block of the answer, behind readings. -/
theorem box_block {w w1 : World} {cs : Array Value} {t : TypeId} {r : Nat} (hg : (w.alloc (.cells cs t)).grownBy w1 (some r)) (hr : r < w.heap.size) : w1.heap[w.heap.size]? = some (.cells cs t (0, 0)) :=
  (hg.block w.heap.size (by simp) (by intro e; injection e with e; omega)).trans (heap_alloc_new _ _)
theorem below_set {B : Nat} {w u : World} {j : Nat} {v : Value} (h : Below B w u) (hB : B ≤ u.heap.size) : Below B w (u.setCell ⟨B, j, none⟩ v) :=
  h.grown (grownBy_set u B j v) hB (fun k hk => by injection hk with hk; omega)
/-- The two cells of the answer, set, in a world where nothing else is other. -/
theorem set_two {w u : World} {a b x y : Value} {t : TypeId} (h : u.heap[w.heap.size]? = some (.cells #[a, b] t (0, 0))) :
    ((u.setCell ⟨w.heap.size, 0, none⟩ x).setCell ⟨w.heap.size, 1, none⟩ y).heap[w.heap.size]? = some (.cells #[x, y] t (0, 0)) := by
  have h1 := heap_setCell_same u w.heap.size 0 _ _ x h
  have h2 := heap_setCell_same (u.setCell ⟨w.heap.size, 0, none⟩ x) w.heap.size 1 _ _ y h1
  rw [h2]; rfl

theorem grown_low {w w1 w2 : World} {o : Obj} {r : Nat} (h : (w.alloc o).grownBy w1 (some r)) (k : Below w.heap.size w1 w2) (_hr : r < w.heap.size) : w.grownBy w2 (some r) := grownBy_below (grown_alloc h) k
theorem pair_ret {tmps : Array Value} {w : World} {g : Nat} {x y k : Value} {R : Ending → World → Prop} (h2 : tmps.getD 2 undef = .pointer (some ⟨g, 0, none⟩)) (h3 : tmps.getD 3 undef = k) (hg : w.heap[g]? = some (.cells #[x, y] 70 (0, 0)))
    (h : R (.returned (.tuple #[.agg #[x, y], k])) w) : bodyPost Try.prog Try.f38 R .ret { tmps := tmps, defers := [] } w := by
  refine ⟨rfl, .tuple #[.agg #[x, y], k], ?_, h⟩
  have hr : (Try.f38).results = #[.cell 2 70, .tmp 3] := by kernel_rfl
  have hi : (Try.prog.info? 70).map (·.size) = some 2 := by kernel_rfl
  have hl := run_loadVar_row (P := Try.prog) w g 70 70 #[x, y] (0, 0) _ hg Try.underlying70 rfl hi
  have ha : (asAddr (.pointer (some ⟨g, 0, none⟩))).run Try.prog w = .ok ⟨g, 0, none⟩ w := rfl
  rw [results_cell_tmp hr, h2, h3, ha, Result.andThen_ok, hl, Result.andThen_ok]

set_option maxHeartbeats 2000000 in
theorem pair_any (r lo hi : Nat) (l : List Nat) (w : World) (h : Rd w r lo hi l) :
    Calls Try.prog 38 #[.pointer (some ⟨r, 0, none⟩)] w (PairPost l w r lo hi) := by
  have HR := Lib.hid h
  have HLT := Lib.hid h.lt
  have HALL := Lib.hid (h.alloc (.cells #[.int .u64 0, .int .u64 0] 70))
  clear h
  go_enter Try.func38, Try.ntmps38
  go_wp2_with fail
  refine (Number_any _ _ _ _ _ HALL.out).mono ?_
  rintro e w1 (⟨v, mid, ⟨n, hb, rfl⟩, rfl, hr, hg⟩ | ⟨k, ⟨rfl, hno⟩, hk, rfl, hr, hg⟩)
  · have HG := Lib.hid hg
    have HR1 := Lib.hid hr
    have HB := Lib.hid hb
    clear hg hr hb
    go_wp2_with fail
    refine (Number_any _ _ _ _ _ HR1.out).mono ?_
    rintro e w2 (⟨v, rest, ⟨m, hb2, rfl⟩, rfl, hr2, hg2⟩ | ⟨k, ⟨rfl, hno⟩, hk, rfl, hr2, hg2⟩)
    · have HGG := Lib.hid (grownBy_trans HG.out hg2)
      have hblk := box_block HGG.out HLT.out
      have q0 := cell_of_row _ _ 0 _ _ _ hblk
      have q1 := cell_of_row _ _ 1 _ _ _ hblk
      have z0 : w2.frozen? ⟨w.heap.size, 0, none⟩ = false := by simp [World.frozen?, hblk]
      have z1 : w2.frozen? ⟨w.heap.size, 1, none⟩ = false := by simp [World.frozen?, hblk]
      have HBLK := Lib.hid hblk
      have HR2 := Lib.hid hr2
      have HB2 := Lib.hid hb2
      clear hblk hr2 hg2 hb2
      go_wp2_with fail
      have hfin := set_two (x := .int .u64 (n : Int)) (y := .int .u64 (m : Int)) HBLK.out
      have hsz : w.heap.size ≤ w2.heap.size := by have := HGG.out.size; simp at this; omega
      have hbel : Below w.heap.size w2 ((w2.setCell ⟨w.heap.size, 0, none⟩ (.int .u64 (n : Int))).setCell ⟨w.heap.size, 1, none⟩ (.int .u64 (m : Int))) := below_set (below_set (Below.refl _ _) hsz) (by simpa [World.setCell] using hsz)
      refine pair_ret rfl rfl hfin ⟨n, m, 0, rfl, grown_low HGG.out hbel HLT.out, .inl ⟨rfl, rest, ⟨mid, HB.out, HB2.out⟩, HR2.out.below hbel HR.out.top HLT.out⟩⟩
    · have HGG := Lib.hid (grownBy_trans HG.out hg2)
      have hblk := box_block HGG.out HLT.out
      have q0 := cell_of_row _ _ 0 _ _ _ hblk
      have q1 := cell_of_row _ _ 1 _ _ _ hblk
      have z0 : w2.frozen? ⟨w.heap.size, 0, none⟩ = false := by simp [World.frozen?, hblk]
      have z1 : w2.frozen? ⟨w.heap.size, 1, none⟩ = false := by simp [World.frozen?, hblk]
      have HBLK := Lib.hid hblk
      have HNO := Lib.hid hno
      clear hblk hr2 hg2 hno
      go_wp2_with fail
      have hfin := set_two (x := .int .u64 (n : Int)) (y := .int .u64 0) HBLK.out
      have hsz : w.heap.size ≤ w2.heap.size := by have := HGG.out.size; simp at this; omega
      have hbel : Below w.heap.size w2 ((w2.setCell ⟨w.heap.size, 0, none⟩ (.int .u64 (n : Int))).setCell ⟨w.heap.size, 1, none⟩ (.int .u64 0)) := below_set (below_set (Below.refl _ _) hsz) (by simpa [World.setCell] using hsz)
      refine pair_ret rfl rfl hfin ⟨n, 0, 4, rfl, grown_low HGG.out hbel HLT.out, .inr ⟨rfl, fun p rest ⟨mid', h1, h2⟩ => ?_⟩⟩
      obtain ⟨rfl, rfl⟩ := HB.out.unique h1
      exact HNO.out _ _ h2
  · have hblk := box_block hg HLT.out
    have q0 := cell_of_row _ _ 0 _ _ _ hblk
    have q1 := cell_of_row _ _ 1 _ _ _ hblk
    have z0 : w1.frozen? ⟨w.heap.size, 0, none⟩ = false := by simp [World.frozen?, hblk]
    have z1 : w1.frozen? ⟨w.heap.size, 1, none⟩ = false := by simp [World.frozen?, hblk]
    have HBLK := Lib.hid hblk
    have HNO := Lib.hid hno
    have HG := Lib.hid hg
    clear hblk hr hg hno
    go_wp2_with fail
    have hfin := set_two (x := .int .u64 0) (y := .int .u64 0) HBLK.out
    have hsz : w.heap.size ≤ w1.heap.size := by have := HG.out.size; simp at this; omega
    have hbel : Below w.heap.size w1 ((w1.setCell ⟨w.heap.size, 0, none⟩ (.int .u64 0)).setCell ⟨w.heap.size, 1, none⟩ (.int .u64 0)) := below_set (below_set (Below.refl _ _) hsz) (by simpa [World.setCell] using hsz)
    refine pair_ret rfl rfl hfin ⟨0, 0, 4, rfl, grown_low HG.out hbel HLT.out, .inr ⟨rfl, fun p rest ⟨mid', h1, h2⟩ => ?_⟩⟩
    exact HNO.out _ _ h1
end Go.Proofs.Ytdggemdgndiafaa
