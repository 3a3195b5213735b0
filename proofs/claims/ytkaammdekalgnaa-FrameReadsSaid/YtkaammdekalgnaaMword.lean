/- Words of four bytes, as an array and as a number. -/
import Derived.Test.YtkaammdekalgnaaCtable
import Derived.Test.YtkaammdekalgnaaArgs
import Derived.Test.YtkaammdekalgnaaMtorn
import Derived.Laws.ResultCell
import Derived.Deep.DeepCutAuto
namespace Go.Proofs.Ytkaammdekalgnaa
open Go.ChangeShapes Go.WideShapes Go.ChangeAt Go.RowKit

/-- The cells of four bytes. -/
def w4 (l : List Nat) : Array Value := (bv l).toArray
theorem w4_be (n : Nat) : w4 (be4 n) = #[.int .u8 ((n / 16777216 % 256 : Nat) : Int), .int .u8 ((n / 65536 % 256 : Nat) : Int), .int .u8 ((n / 256 % 256 : Nat) : Int), .int .u8 ((n % 256 : Nat) : Int)] := rfl
theorem w4_part (f : Nat → Nat) : w4 (part f 4 0) = #[.int .u8 0, .int .u8 0, .int .u8 0, .int .u8 0] := by simp [part, w4, bv, List.range_succ]
/-- The i-th byte of a word, the highest first. -/
def byteAt (n i : Nat) : Nat := n / 2 ^ (8 * (3 - i)) % 256
theorem be4_words (n : Nat) : (List.range 4).map (byteAt n) = be4 n := by simp [List.range_succ, byteAt, be4]
theorem w4_get (l : List Nat) (i : Nat) (h : i < l.length) : (w4 l)[i]? = some (.int .u8 (l[i] : Int)) := by simp [w4, bv, List.getElem?_eq_getElem h]
theorem w4_set (l : List Nat) (i x : Nat) : (w4 l).setIfInBounds i (.int .u8 (x : Int)) = w4 (l.set i x) := by simp [w4, bv, List.map_set]
theorem w4_size (l : List Nat) : (w4 l).size = l.length := by simp [w4, bv]
theorem w4_one (l : List Nat) : (w4 l).all (·.oneCell') = true := by
  simp only [w4, bv, List.all_toArray, List.all_eq_true, List.mem_map]
  rintro x ⟨n, _, rfl⟩
  rfl
/-- Block b is an array of bytes. -/
def Ab (w : World) (b : Nat) (t : TypeId) (l : List Nat) : Prop := w.heap[b]? = some (.cells (w4 l) t (0, 0))
theorem Ab.cell {w : World} {b : Nat} {t : TypeId} {l : List Nat} (h : Ab w b t l) (i : Nat) (hi : i < l.length) : w.cell? ⟨b, i, none⟩ = some (.int .u8 (l[i] : Int)) := by
  rw [cell_of_row w b i _ t _ h, w4_get l i hi]
theorem Ab.free {w : World} {b : Nat} {t : TypeId} {l : List Nat} (h : Ab w b t l) (i : Nat) : w.frozen? ⟨b, i, none⟩ = false := frozen_of_row w b i _ t h
theorem Ab.set {w : World} {b : Nat} {t : TypeId} {l : List Nat} (h : Ab w b t l) (i x : Nat) : Ab (w.setCell ⟨b, i, none⟩ (.int .u8 (x : Int))) b t (l.set i x) := by
  unfold Ab
  rw [heap_setCell_same w b i _ t _ h, w4_set]
theorem Ab.far {w : World} {b : Nat} {t : TypeId} {l : List Nat} (h : Ab w b t l) {p : Addr} (hp : b ≠ p.block) (u : Value) : Ab (w.setCell p u) b t l := by
  unfold Ab
  rw [heap_setCell_other w p b u hp]; exact h
theorem Ab.below {w w' : World} {b B : Nat} {t : TypeId} {l : List Nat} (h : Ab w b t l) (hb : Below B w w') (hlt : b < B) : Ab w' b t l := by
  unfold Ab
  rw [hb.block b hlt]; exact h
theorem Ab.setRow {w : World} {b : Nat} {t : TypeId} {l : List Nat} (h : Ab w b t l) (r : List Nat) : Ab (w.setRow b (w4 r)) b t r := setRow_heap w b _ _ t (0, 0) h
/-- An array's bytes, as a slice. -/
theorem Ab.bs {w : World} {b : Nat} {t : TypeId} {l : List Nat} (h : Ab w b t l) (hl : l.length ≤ 100) : Bs w 0 w.heap.size (.slice (some ⟨b, 0, none⟩) l.length l.length) l := by
  have hlt : b < w.heap.size := (Array.getElem?_eq_some_iff.1 h).1
  refine ⟨_, _, rfl, Nat.le_refl _, by simp [maxLen]; omega, (fun h => by cases h), .inr ⟨b, 0, rfl, Nat.zero_le _, hlt, fun i u hu => ?_⟩⟩
  rw [cell_of_row w b _ _ t _ h, Nat.zero_add]
  simpa [w4] using hu

theorem info4 : (Try.prog.info? 45).map (·.size) = some 4 := by kernel_rfl
theorem byte_bits {n i : Nat} (hi : i < 4) : (n : Int) / 2 ^ (8 * (3 - i)) % 256 = ((byteAt n i : Nat) : Int) := by
  unfold byteAt
  match i, hi with
  | 0, _ => simp
  | 1, _ => simp
  | 2, _ => simp
  | 3, _ => simp

theorem wordOf_any (n : Nat) (hn : n < 4294967296) (w : World) : Calls Try.prog 22 #[.int .u32 (n : Int)] w fun e w' => e = .returned (.agg (w4 (be4 n))) ∧ Below w.heap.size w w' := by
  have H0 := Lib.hid (w4_part (byteAt n))
  have HN := Lib.hid hn
  clear hn
  go_enter Try.func22, Try.ntmps22
  go_wp2_with fail
  rw [← H0.out]
  go_loopw [5] (fun i wr => ∃ k : Nat, k ≤ 4 ∧ i = .int .i64 (k : Int) ∧ Ab wr w.heap.size 45 (part (byteAt n) 4 0) ∧ Ab wr (w.heap.size + 1) 45 (part (byteAt n) 4 k) ∧ Below w.heap.size w wr) (fun i _ => 4 - (intOf i).toNat)
  case atStart =>
    refine ⟨0, by omega, rfl, ?_, ?_, ?_⟩
    · exact heap_alloc2_old _ _ _
    · exact heap_alloc2_new _ _ _
    · exact ((Below.refl _ _).alloc (Nat.le_refl _) _).alloc (by simp) _
  case round =>
    obtain ⟨k, hk, rfl, ha, hc, hb⟩ := hrel
    have HA := Lib.hid ha
    have HC := Lib.hid hc
    have HB := Lib.hid hb
    by_cases hlt : k < 4
    · have hcell := hc.cell k (by rw [part_length]; exact hlt)
      have hfree := hc.free k
      have HX := Lib.hid (byte_bits (n := n) hlt)
      clear ha hc hb
      go_wp2_with fail
      rw [HX.out]
      go_roundw
      case rel =>
        refine ⟨k + 1, by omega, by go_num, HA.out.far (by simp) _, ?_, below_set HB.out (by omega) _ _⟩
        have := HC.out.set k (byteAt n k)
        rw [part_set] at this
        exact this
      case measure => simp [intOf]; omega
    · clear ha hc hb
      obtain rfl : k = 4 := by omega
      go_wp2_with (first | (refine wpList_load_row rfl 45 (.tmp 3) rfl (w.heap.size + 1) rfl 45 _ (0, 0) _ HC.out Try.underlying45 rfl info4 ?_) | (refine wpList_store_row rfl 45 (.tmp 2) (.tmp 17) rfl w.heap.size (w4 (part (byteAt n) 4 4)) rfl rfl 45 _ HA.out info4 (by simp [w4_size, part_length]) (w4_one _) ?_))
      have HR := HA.out.setRow (part (byteAt n) 4 4)
      refine bodyPost_ret (v := .agg (w4 (part (byteAt n) 4 4))) (results_cell_row Try.results22 _ _ w.heap.size 45 _ (0, 0) _ rfl HR Try.underlying45 rfl (by simp [w4_size, part_length, info4])) rfl ⟨by rw [part_all, be4_words], below_row HB.out (Nat.le_refl _) _⟩

/-- A number out of its bytes, one after another. -/
theorem num4_snoc (l : List Nat) (c : Nat) : num4 (l ++ [c]) = num4 l * 256 + c := by simp [num4]
theorem num4_take {l : List Nat} {k : Nat} (h : k < l.length) : num4 (l.take (k + 1)) = num4 (l.take k) * 256 + l[k] := by rw [List.take_succ_eq_append_getElem h, num4_snoc]
theorem num4_lt3 {l : List Nat} (h : l.length = 4) (hb : ∀ c ∈ l, c < 256) {k : Nat} (hk : k < 4) : num4 (l.take k) < 16777216 := by
  obtain ⟨a, b, c, d, rfl⟩ := list4 h
  have ha := hb a (by simp)
  have hb' := hb b (by simp)
  have hc := hb c (by simp)
  match k, hk with
  | 0, _ => simp [num4]
  | 1, _ => simp [num4]; omega
  | 2, _ => simp [num4]; omega
  | 3, _ => simp [num4]; omega
theorem or_byte {m c : Nat} (hm : m < 16777216) (hc : c < 256) : bits .or .u32 ((m : Int) * 256 % 4294967296) (c : Int) = ((m * 256 + c : Nat) : Int) := by
  have e : (m : Int) * 256 % 4294967296 = ((m * 256 : Nat) : Int) := by omega
  rw [e, u32_or_nat _ _ (by omega) (by omega)]
  have : m * 256 ||| c = m * 256 + c := by
    have := Nat.shiftLeft_add_eq_or_of_lt (i := 8) (b := c) (by simpa using hc) m
    simpa [Nat.shiftLeft_eq] using this.symm
  rw [this]

theorem idx0 (a b c d : Nat) (w : World) : (Instr.index 45 (.agg #[.int .u8 (a : Int), .int .u8 (b : Int), .int .u8 (c : Int), .int .u8 (d : Int)]) (.int .i64 0)).run Try.prog w = .ok (.int .u8 (a : Int)) w := by kernel_rfl
theorem idx1 (a b c d : Nat) (w : World) : (Instr.index 45 (.agg #[.int .u8 (a : Int), .int .u8 (b : Int), .int .u8 (c : Int), .int .u8 (d : Int)]) (.int .i64 1)).run Try.prog w = .ok (.int .u8 (b : Int)) w := by kernel_rfl
theorem idx2 (a b c d : Nat) (w : World) : (Instr.index 45 (.agg #[.int .u8 (a : Int), .int .u8 (b : Int), .int .u8 (c : Int), .int .u8 (d : Int)]) (.int .i64 2)).run Try.prog w = .ok (.int .u8 (c : Int)) w := by kernel_rfl
theorem idx3 (a b c d : Nat) (w : World) : (Instr.index 45 (.agg #[.int .u8 (a : Int), .int .u8 (b : Int), .int .u8 (c : Int), .int .u8 (d : Int)]) (.int .i64 3)).run Try.prog w = .ok (.int .u8 (d : Int)) w := by kernel_rfl
theorem run_index4 {l : List Nat} (h : l.length = 4) {k : Nat} (hk : k < 4) {y : Nat} (hy : l[k]? = some y) (w : World) :
    (Instr.index 45 (.agg (w4 l)) (.int .i64 (k : Int))).run Try.prog w = .ok (.int .u8 (y : Int)) w := by
  obtain ⟨a, b, c, d, rfl⟩ := list4 h
  match k, hk with
  | 0, _ => simp at hy; subst hy; exact idx0 a b c d w
  | 1, _ => simp at hy; subst hy; exact idx1 a b c d w
  | 2, _ => simp at hy; subst hy; exact idx2 a b c d w
  | 3, _ => simp at hy; subst hy; exact idx3 a b c d w

theorem number_any (l : List Nat) (h4 : l.length = 4) (hb : ∀ c ∈ l, c < 256) (w : World) : Calls Try.prog 40 #[.agg (w4 l)] w fun e w' => e = .returned (.int .u32 (num4 l : Nat)) ∧ Below w.heap.size w w' := by
  have H4 := Lib.hid h4
  have HL := Lib.hid hb
  have HA : Hid (Ab (w.alloc (.cells (w4 l) 45)) w.heap.size 45 l) := heap_alloc_new _ _
  have HB := Lib.hid ((Below.refl w.heap.size w).alloc (Nat.le_refl _) (.cells (w4 l) 45))
  obtain ⟨W, hW⟩ : ∃ W, W = w.alloc (.cells (w4 l) 45) := ⟨_, rfl⟩
  rw [← hW] at HA HB
  have HW := Lib.hid hW
  clear hW h4 hb
  go_enter Try.func40, Try.ntmps40
  obtain ⟨a, b, c, d, hl⟩ := list4 H4.out
  have HW4 : Hid (w4 l = #[.int .u8 (a : Int), .int .u8 (b : Int), .int .u8 (c : Int), .int .u8 (d : Int)]) := by rw [hl]; rfl
  have c0 := HA.out.cell 0 (by rw [H4.out]; omega)
  have c1 := HA.out.cell 1 (by rw [H4.out]; omega)
  have c2 := HA.out.cell 2 (by rw [H4.out]; omega)
  have c3 := HA.out.cell 3 (by rw [H4.out]; omega)
  simp only [hl, List.getElem_cons_zero, List.getElem_cons_succ] at c0 c1 c2 c3
  clear hl
  go_upto_region 2 with (fail)
  rw [← HW.out]
  go_wp2_with fail
  rw [← HW4.out]
  go_loop [3, 7] (fun r i => ∃ (k m : Nat), k ≤ 4 ∧ i = .int .i64 (k : Int) ∧ r = .int .u32 (m : Int) ∧ Hid (m = num4 (l.take k))) (fun _ i => 4 - (intOf i).toNat)
  case atStart => exact ⟨0, 0, Nat.zero_le _, rfl, rfl, Lib.hid rfl⟩
  case round =>
    obtain ⟨k, m, hk, rfl, rfl, hm⟩ := hrel
    by_cases hlt : k < 4
    · have hkl : k < l.length := by rw [H4.out]; exact hlt
      obtain ⟨y, hy⟩ : ∃ y, y = l[k] := ⟨_, rfl⟩
      have hix := run_index4 H4.out hlt (y := y) (by rw [List.getElem?_eq_getElem hkl, hy]) W
      have HM : Hid (m < 16777216) := by rw [hm.out]; exact num4_lt3 H4.out HL.out hlt
      have hc256 : y < 256 := by rw [hy]; exact HL.out _ (List.getElem_mem hkl)
      have HO := Lib.hid (or_byte HM.out hc256)
      have HT : Hid (num4 (l.take (k + 1)) = m * 256 + y) := by rw [hm.out, hy]; exact num4_take hkl
      clear hy
      go_wp2_with fail
      go_round
      case rel => exact ⟨k + 1, m * 256 + y, by omega, by go_num, by rw [HO.out], Lib.hid HT.out.symm⟩
      case measure => simp [intOf]; omega
    · go_wp2_with fail
      go_ret
      obtain rfl : k = 4 := by omega
      exact ⟨by rw [hm.out, List.take_of_length_le (by rw [H4.out]; exact Nat.le_refl _)]; rfl, HB.out⟩
end Go.Proofs.Ytkaammdekalgnaa
