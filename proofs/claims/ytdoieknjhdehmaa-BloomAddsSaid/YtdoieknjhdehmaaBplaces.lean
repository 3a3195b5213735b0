/- places: a key's five bits, as an array. -/
import Derived.Test.YtdoieknjhdehmaaBfun
namespace Go.Proofs.Ytdoieknjhdehmaa
open Go.ChangeShapes Go.WideShapes Go.ChangeAt Go.RowKit

/-- Numbers as the cells of an array of ints. -/
def irow (l : List Nat) : Array Value := (l.map fun n : Nat => Value.int .i64 (n : Int)).toArray
theorem irow_size (l : List Nat) : (irow l).size = l.length := by simp [irow]
theorem irow_one (l : List Nat) : (irow l).all (·.oneCell') = true := by
  simp only [irow, List.all_toArray, List.all_eq_true, List.mem_map]
  rintro x ⟨n, _, rfl⟩
  rfl
theorem irow_get (l : List Nat) (i : Nat) (h : i < l.length) : (irow l)[i]? = some (.int .i64 (l[i] : Int)) := by simp [irow, List.getElem?_eq_getElem h]
theorem irow_set (l : List Nat) (i x : Nat) : (irow l).setIfInBounds i (.int .i64 (x : Int)) = irow (l.set i x) := by simp [irow, List.map_set]
/-- Block b is an array of the type t that has these numbers. -/
def IArr (w : World) (b : Nat) (t : TypeId) (l : List Nat) : Prop := w.heap[b]? = some (.cells (irow l) t (0, 0))
theorem IArr.cell {w : World} {b : Nat} {t : TypeId} {l : List Nat} (h : IArr w b t l) (i : Nat) (hi : i < l.length) : w.cell? ⟨b, i, none⟩ = some (.int .i64 (l[i] : Int)) := by
  rw [cell_of_row w b i _ t _ h, irow_get l i hi]
theorem IArr.free {w : World} {b : Nat} {t : TypeId} {l : List Nat} (h : IArr w b t l) (i : Nat) : w.frozen? ⟨b, i, none⟩ = false := frozen_of_row w b i _ t h
theorem IArr.set {w : World} {b : Nat} {t : TypeId} {l : List Nat} (h : IArr w b t l) (i x : Nat) : IArr (w.setCell ⟨b, i, none⟩ (.int .i64 (x : Int))) b t (l.set i x) := by
  unfold IArr
  rw [heap_setCell_same w b i _ t _ h, irow_set]
theorem IArr.far {w : World} {b : Nat} {t : TypeId} {l : List Nat} (h : IArr w b t l) {p : Addr} (hp : b ≠ p.block) (u : Value) : IArr (w.setCell p u) b t l := by
  unfold IArr
  rw [heap_setCell_other w p b u hp]; exact h
theorem IArr.below {w w' : World} {b B : Nat} {t : TypeId} {l : List Nat} (h : IArr w b t l) (hb : Below B w w') (hlt : b < B) : IArr w' b t l := by
  unfold IArr
  rw [hb.block b hlt]; exact h
theorem IArr.setRow {w : World} {b : Nat} {t : TypeId} {l : List Nat} (h : IArr w b t l) (r : List Nat) : IArr (w.setRow b (irow r)) b t r := setRow_heap w b _ _ t (0, 0) h
theorem info5 : (Try.prog.info? 26).map (·.size) = some 5 := by kernel_rfl
theorem five0 (f : Nat → Nat) : (irow (part f 5 0)) = #[.int .i64 0, .int .i64 0, .int .i64 0, .int .i64 0, .int .i64 0] := by
  simp [part, irow, List.range_succ]
theorem part_kbs (l : List Nat) (m : Nat) : part (kb l m) 5 5 = kbs l m := by rw [part_all]; rfl
/-- What one step reckons. -/
theorem kb_int (l : List Nat) (m i : Nat) (h : 0 < m) (h2 : m ≤ 1048576) : wrap64 ((((crc l : Nat) : Int) + (i : Int) * ((way l : Nat) : Int)) % 4294967296 % (m : Int)) = ((kb l m i : Nat) : Int) := by
  have e : (((crc l : Nat) : Int) + (i : Int) * ((way l : Nat) : Int)) % 4294967296 % (m : Int) = ((kb l m i : Nat) : Int) := by unfold kb; simp
  rw [e]
  have := kb_lt (l := l) (i := i) h
  unfold wrap64; omega

theorem below_new1 (w : World) (o : Obj) : Below w.heap.size w (w.alloc o) := (Below.refl _ _).alloc (Nat.le_refl _) o
set_option maxHeartbeats 2000000 in
theorem places_any (v : Value) (lo hi : Nat) (l : List Nat) (m : Nat) (w : World) (hv : Bs w lo hi v l) (hhi : hi ≤ w.heap.size) (hl : ∀ c ∈ l, c < 256) (hm1 : 0 < m) (hm2 : m ≤ 1048576) :
    Calls Try.prog 27 #[v, .int .i64 (m : Int)] w fun e w' => e = .returned (.agg (irow (kbs l m))) ∧ Below w.heap.size w w' := by
  have HV := Lib.hid hv
  have HL := Lib.hid hl
  have H0 := Lib.hid (five0 (kb l m))
  have c1 : ∀ W, (convert 52 43 (.float .f64 (floatOfInt .f64 ((crc l : Nat) : Int)))).run Try.prog W = .ok (.int .u32 ((crc l : Nat) : Int)) W := fun W => run_convert_float_int W _ _ _ _ _ _ (by kernel_rfl) Try.underlying43 (round_u32 _ (crc_lt hl))
  have c2 : ∀ W, (convert 52 43 (.float .f64 (floatOfInt .f64 ((way l : Nat) : Int)))).run Try.prog W = .ok (.int .u32 ((way l : Nat) : Int)) W := fun W => run_convert_float_int W _ _ _ _ _ _ (by kernel_rfl) Try.underlying43 (round_u32 _ (way_lt hl))
  obtain ⟨A, c, rfl, _, _, _, _⟩ := hv
  clear hl
  go_enter Try.func27, Try.ntmps27
  go_wp2_with fail
  refine (numbers_any _ lo hi l _ (HV.out.alloc hhi _) (by simp; omega) HL.out).mono ?_
  rintro e w1 ⟨rfl, hb1⟩
  have HA1 : Hid (IArr w1 w.heap.size 26 (part (kb l m) 5 0)) := by
    refine IArr.below ?_ hb1 (by simp)
    unfold IArr
    rw [H0.out]
    exact heap_alloc_new _ _
  have HB1 : Hid (Below w.heap.size w w1) := ((Below.refl w.heap.size w).alloc (Nat.le_refl _) _).trans (hb1.mono (by simp))
  have hz1 : w.heap.size < w1.heap.size := by have := hb1.size; simp at this; omega
  clear hb1
  go_wp2_with fail
  rw [← H0.out]
  go_loopw [18] (fun i wr => ∃ k : Nat, k ≤ 5 ∧ i = .int .i64 (k : Int) ∧ IArr wr w.heap.size 26 (part (kb l m) 5 0) ∧ IArr wr w1.heap.size 26 (part (kb l m) 5 k) ∧ Below w.heap.size w wr) (fun i _ => 5 - (intOf i).toNat)
  case atStart =>
    refine ⟨0, by omega, rfl, ?_, ?_, ?_⟩
    · exact HA1.out.below (below_new1 _ _) hz1
    · exact heap_alloc_new _ _
    · exact HB1.out.alloc (by omega) _
  case round =>
    obtain ⟨k, hk, rfl, ha, hc, hb⟩ := hrel
    have HA := Lib.hid ha
    have HC := Lib.hid hc
    have HB := Lib.hid hb
    by_cases hlt : k < 5
    · have hcell := hc.cell k (by rw [part_length]; exact hlt)
      have hfree := hc.free k
      have HK := Lib.hid (kb_int l m k hm1 hm2)
      have hmz : ((m : Int) == 0) = false := by simp; omega
      clear ha hc hb c1 c2
      go_wp2_with fail
      go_roundw
      case rel =>
        rw [HK.out]
        refine ⟨k + 1, by omega, by go_num, HA.out.far (by simp; omega) _, ?_, below_set HB.out (by omega) _ _⟩
        have := HC.out.set k (kb l m k)
        rw [part_set] at this
        exact this
      case measure => simp [intOf]; omega
    · clear ha hc hb c1 c2
      obtain rfl : k = 5 := by omega
      go_wp2_with (first | (refine wpList_load_row rfl 26 (.tmp 8) rfl w1.heap.size rfl 26 _ (0, 0) _ HC.out Try.underlying26 rfl info5 ?_) | (refine wpList_store_row rfl 26 (.tmp 4) (.tmp 34) rfl w.heap.size (irow (part (kb l m) 5 5)) rfl rfl 26 _ HA.out info5 (by simp [irow_size, part_length]) (irow_one _) ?_))
      have HR := HA.out.setRow (part (kb l m) 5 5)
      refine bodyPost_ret (v := .agg (irow (part (kb l m) 5 5))) (results_cell_row Try.results27 _ _ w.heap.size 26 _ (0, 0) _ rfl HR Try.underlying26 rfl (by simp [irow_size, part_length, info5])) rfl ⟨by rw [part_kbs], below_row HB.out (Nat.le_refl _) _⟩
end Go.Proofs.Ytdoieknjhdehmaa
