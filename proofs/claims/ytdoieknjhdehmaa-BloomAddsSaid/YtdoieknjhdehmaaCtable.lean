/- crc's table, as the shifts of each half. -/
import Derived.Test.YtdoieknjhdehmaaCbits
import Derived.Laws.Rows
import Derived.Laws.Tables
import Derived.Deep.WholeRow
namespace Go.Proofs.Ytdoieknjhdehmaa
open Go.ChangeShapes Go.WideShapes Go.ChangeAt Go.RowKit

/-- Words of 32 bits, as the cells of an array. -/
def rowv (l : List Nat) : Array Value := (l.map fun n : Nat => Value.int .u32 (n : Int)).toArray
theorem rowv_size (l : List Nat) : (rowv l).size = l.length := by simp [rowv]
theorem rowv_one (l : List Nat) : (rowv l).all (·.oneCell') = true := by
  simp only [rowv, List.all_toArray, List.all_eq_true, List.mem_map]
  rintro x ⟨n, _, rfl⟩
  rfl
theorem rowv_get (l : List Nat) (i : Nat) (h : i < l.length) : (rowv l)[i]? = some (.int .u32 (l[i] : Int)) := by simp [rowv, List.getElem?_eq_getElem h]
theorem rowv_set (l : List Nat) (i x : Nat) : (rowv l).setIfInBounds i (.int .u32 (x : Int)) = rowv (l.set i x) := by simp [rowv, List.map_set]
/-- Block b is an array of the type t that has these words. -/
def Arr (w : World) (b : Nat) (t : TypeId) (l : List Nat) : Prop := w.heap[b]? = some (.cells (rowv l) t (0, 0))
theorem Arr.cell {w : World} {b : Nat} {t : TypeId} {l : List Nat} (h : Arr w b t l) (i : Nat) (hi : i < l.length) : w.cell? ⟨b, i, none⟩ = some (.int .u32 (l[i] : Int)) := by
  rw [cell_of_row w b i _ t _ h, rowv_get l i hi]
theorem Arr.free {w : World} {b : Nat} {t : TypeId} {l : List Nat} (h : Arr w b t l) (i : Nat) : w.frozen? ⟨b, i, none⟩ = false := frozen_of_row w b i _ t h
theorem Arr.set {w : World} {b : Nat} {t : TypeId} {l : List Nat} (h : Arr w b t l) (i x : Nat) : Arr (w.setCell ⟨b, i, none⟩ (.int .u32 (x : Int))) b t (l.set i x) := by
  unfold Arr
  rw [heap_setCell_same w b i _ t _ h, rowv_set]
theorem Arr.far {w : World} {b : Nat} {t : TypeId} {l : List Nat} (h : Arr w b t l) {p : Addr} (hp : b ≠ p.block) (u : Value) : Arr (w.setCell p u) b t l := by
  unfold Arr
  rw [heap_setCell_other w p b u hp]; exact h
theorem Arr.below {w w' : World} {b B : Nat} {t : TypeId} {l : List Nat} (h : Arr w b t l) (hb : Below B w w') (hlt : b < B) : Arr w' b t l := by
  unfold Arr
  rw [hb.block b hlt]; exact h

/-- The first k of n words are f's, the others 0. -/
def part (f : Nat → Nat) (n k : Nat) : List Nat := (List.range n).map fun i => if i < k then f i else 0
theorem part_length (f : Nat → Nat) (n k : Nat) : (part f n k).length = n := by simp [part]
theorem part_set (f : Nat → Nat) (n k : Nat) : (part f n k).set k (f k) = part f n (k + 1) := by
  apply List.ext_getElem
  · simp [part]
  · intro i h1 h2
    rw [List.getElem_set]
    simp only [part, List.getElem_map, List.getElem_range]
    split
    · rename_i h; subst h; simp
    · rename_i h
      by_cases h3 : i < k
      · simp [h3, show i < k + 1 by omega]
      · simp [h3, show ¬ i < k + 1 by omega]
theorem part_all (f : Nat → Nat) (n : Nat) : part f n n = (List.range n).map f := by
  unfold part
  apply List.map_congr_left
  intro i hi
  simp at hi
  simp [hi]
theorem words_get (f : Nat → Nat) (n i : Nat) (h : i < ((List.range n).map f).length) : ((List.range n).map f)[i] = f i := by simp

/-- An array in a block that the call made: who stores into it, changes nothing that was there before. -/
theorem below_set {B : Nat} {w0 w : World} (h : Below B w0 w) {b : Nat} (hb : B ≤ b) (i : Nat) (u : Value) : Below B w0 (w.setCell ⟨b, i, none⟩ u) := h.setCell hb u

theorem Arr.setRow {w : World} {b : Nat} {t : TypeId} {l : List Nat} (h : Arr w b t l) (r : List Nat) : Arr (w.setRow b (rowv r)) b t r := setRow_heap w b _ _ t (0, 0) h
theorem Arr.farRow {w : World} {b g : Nat} {t : TypeId} {l : List Nat} (h : Arr w b t l) (hp : b ≠ g) (r : Array Value) : Arr (w.setRow g r) b t l := by
  unfold Arr
  rw [setRow_other w g b r hp]; exact h
theorem below_row {B : Nat} {w0 w : World} (h : Below B w0 w) {g : Nat} (hb : B ≤ g) (r : Array Value) : Below B w0 (w.setRow g r) :=
  h.trans ⟨rfl, rfl, rfl, by simp, fun k hk => setRow_other w g k r (by omega)⟩
theorem info16 : (Try.prog.info? 57).map (·.size) = some 16 := by kernel_rfl
theorem sixteen (f : Nat → Nat) : (rowv (part f 16 0)) = #[.int .u32 0, .int .u32 0, .int .u32 0, .int .u32 0, .int .u32 0, .int .u32 0, .int .u32 0, .int .u32 0, .int .u32 0, .int .u32 0, .int .u32 0, .int .u32 0, .int .u32 0, .int .u32 0, .int .u32 0, .int .u32 0] := by
  simp [part, rowv, List.range_succ]
theorem table_any (w : World) : Calls Try.prog 41 #[] w fun e w' => e = .returned (.agg (rowv ((List.range 16).map (shn 4)))) ∧ Below w.heap.size w w' := by
  have H0 := Lib.hid (sixteen (shn 4))
  go_enter Try.func41, Try.ntmps41
  go_wp2_with fail
  rw [← H0.out]
  go_loopw [3] (fun i wr => ∃ k : Nat, k ≤ 16 ∧ i = .int .i64 (k : Int) ∧ Arr wr w.heap.size 57 (part (shn 4) 16 0) ∧ Arr wr (w.heap.size + 1) 57 (part (shn 4) 16 k) ∧ Below w.heap.size w wr) (fun i _ => 16 - (intOf i).toNat)
  case atStart =>
    refine ⟨0, by omega, rfl, ?_, ?_, ?_⟩
    · exact heap_alloc2_old _ _ _
    · exact heap_alloc2_new _ _ _
    · exact ((Below.refl _ _).alloc (Nat.le_refl _) _).alloc (by simp) _
  case round =>
    obtain ⟨k, hk, rfl, ha, hc, hb⟩ := hrel
    have HA := Lib.hid ha
    have HC := Lib.hid hc
    have HB := Lib.hid hb
    by_cases hlt : k < 16
    · have hcell := hc.cell k (by rw [part_length]; exact hlt)
      have hfree := hc.free k
      clear ha hc hb
      go_wp2_with fail
      refine (shifted_any k 4 (by omega) (by omega) _).mono ?_
      rintro e w1 ⟨rfl, rfl⟩
      go_wp2_with fail
      go_roundw
      case rel =>
        refine ⟨k + 1, by omega, by go_num, HA.out.far (by simp) _, ?_, below_set HB.out (by omega) _ _⟩
        have := HC.out.set k (shn 4 k)
        rw [part_set] at this
        exact this
      case measure => simp [intOf]; omega
    · clear ha hc hb
      obtain rfl : k = 16 := by omega
      go_wp2_with (first | (refine wpList_load_row rfl 57 (.tmp 1) rfl (w.heap.size + 1) rfl 57 _ (0, 0) _ HC.out Try.underlying57 rfl info16 ?_) | (refine wpList_store_row rfl 57 (.tmp 0) (.tmp 12) rfl w.heap.size (rowv (part (shn 4) 16 16)) rfl rfl 57 _ HA.out info16 (by simp [rowv_size, part_length]) (rowv_one _) ?_))
      have HR := HA.out.setRow (part (shn 4) 16 16)
      refine bodyPost_ret (v := .agg (rowv (part (shn 4) 16 16))) (results_cell_row Try.results41 _ _ w.heap.size 57 _ (0, 0) _ rfl HR Try.underlying57 rfl (by simp [rowv_size, part_length, info16])) rfl ⟨by rw [part_all], below_row HB.out (Nat.le_refl _) _⟩
end Go.Proofs.Ytdoieknjhdehmaa
