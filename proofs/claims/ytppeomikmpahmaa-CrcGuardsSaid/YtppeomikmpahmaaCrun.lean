/- A run of noughts: what crc's table of 32 words says of the register, and its squares. -/
import Derived.Test.YtppeomikmpahmaaCsum
import Derived.Deep.DeepCutAuto
namespace Go.Proofs.Ytppeomikmpahmaa
open Go.ChangeShapes Go.WideShapes Go.ChangeAt Go.RowKit

/-- What becomes of each bit alone. -/
def wordsOf (f : Nat → Nat) : List Nat := (List.range 32).map fun i => f (2 ^ i)
theorem wordsOf_length (f : Nat → Nat) : (wordsOf f).length = 32 := by simp [wordsOf]
theorem wordsOf_get (f : Nat → Nat) (i : Nat) (h : i < (wordsOf f).length) : (wordsOf f)[i] = f (2 ^ i) := by simp [wordsOf]
/-- What keeps 32 bits. -/
def Keeps (f : Nat → Nat) : Prop := ∀ x, x < 4294967296 → f x < 4294967296
theorem pow_lt {i : Nat} (h : i < 32) : 2 ^ i < 4294967296 := Nat.pow_lt_pow_right (a := 2) (m := i) (n := 32) (by omega) h

theorem info32 : (Try.prog.info? 48).map (·.size) = some 32 := by kernel_rfl
theorem through_step {f : Nat → Nat} (hf : Lin f) (hk : Keeps f) {x k : Nat} (hx : x < 4294967296) (h : k < 32) :
    bits .xor .u32 ((f (x % 2 ^ k) : Nat) : Int) (bits .and .u32 ((f (2 ^ k) : Nat) : Int) (-bits .and .u32 ((x / 2 ^ k : Nat) : Int) 1 % 4294967296)) = ((f (x % 2 ^ (k + 1)) : Nat) : Int) := by
  have hp := hk _ (pow_lt h)
  have hq : x / 2 ^ k < 4294967296 := Nat.lt_of_le_of_lt (Nat.div_le_self _ _) hx
  have hr : x % 2 ^ k < 4294967296 := Nat.lt_of_le_of_lt (Nat.mod_le _ _) hx
  rw [and_mask _ _ hp hq, xor_u32 (hk _ hr) (by rcases Nat.mod_two_eq_zero_or_one (x / 2 ^ k) with e | e <;> rw [e] <;> omega), hf.step]
  rcases Nat.mod_two_eq_zero_or_one (x / 2 ^ k) with e | e <;> simp [e]
theorem div_step (x k : Nat) : ((x / 2 ^ k : Nat) : Int) / 2 = ((x / 2 ^ (k + 1) : Nat) : Int) := by
  rw [Nat.pow_succ, ← Nat.div_div_eq_div_mul]; omega

theorem size_u32 (w : World) : (sizeOf 23).run Try.prog w = .ok 1 w := by
  have h : (Try.prog.info? 23).map (·.size) = some 1 := by kernel_rfl
  cases hq : Try.prog.info? 23 with
  | none => simp [hq] at h
  | some i =>
    have hs : i.size = 1 := by simpa [hq] using h
    simp [sizeOf, typeInfo, hq, hs]
theorem agg_u32 (w : World) : (isAgg 23).run Try.prog w = .ok false w := by
  unfold isAgg
  rw [Sem.run_bind, run_underlying Try.underlying23 w]
  rfl
theorem index_words (t : TypeId) (ht : Try.prog.underlying t = some (.array 32 23)) (ws : List Nat) (hw : ws.length = 32) (k : Nat) (hk : k < 32) (w : World) :
    (Instr.index t (.agg (rowv ws)) (.int .i64 (k : Int))).run Try.prog w = .ok (.int .u32 ((ws[k]'(by omega) : Nat) : Int)) w := by
  have hg := rowv_get ws k (by omega)
  have hin : (0 : Int) ≤ (k : Int) ∧ (k : Int) < ((32 : Nat) : Int) := by omega
  simp only [Instr.index, asIntOf, Sem.run_bind, Sem.run_pure, Result.andThen, run_underlying ht]
  rw [if_pos hin]
  simp [Sem.run_bind, size_u32, Go.part, agg_u32, hg, Result.andThen]

theorem through_any (f : Nat → Nat) (hf : Lin f) (hk : Keeps f) (x : Nat) (hx : x < 4294967296) (w : World) :
    Calls Try.prog 27 #[.agg (rowv (wordsOf f)), .int .u32 (x : Int)] w fun e w' => e = .returned (.int .u32 (f x : Nat)) ∧ Below w.heap.size w w' := by
  have HX := Lib.hid hx
  have HF := Lib.hid hf
  have HK := Lib.hid hk
  have HZ := Lib.hid hf.zero
  obtain ⟨ws, hws⟩ : ∃ ws, ws = wordsOf f := ⟨_, rfl⟩
  have HW := Lib.hid hws
  have h32 : ws.length = 32 := by rw [hws]; exact wordsOf_length f
  have H32 := Lib.hid h32
  rw [← hws]
  clear hx hf hk hws h32
  go_enter Try.func27, Try.ntmps27
  go_wp2_with (refine wpList_load_row rfl 48 (.tmp 2) rfl w.heap.size rfl 48 (rowv ws) (0, 0) _ (heap_alloc_new _ _) Try.underlying48 rfl (by rw [rowv_size, H32.out]; exact info32) ?_)
  go_loop [1, 5, 9] (fun r b i => ∃ (k q p : Nat), k ≤ 32 ∧ i = .int .i64 (k : Int) ∧ r = .int .u32 (q : Int) ∧ b = .int .u32 (p : Int) ∧ Hid (q = x / 2 ^ k) ∧ Hid (p = f (x % 2 ^ k))) (fun _ _ i => 32 - (intOf i).toNat)
  case atStart => exact ⟨0, x, 0, by omega, rfl, rfl, rfl, Lib.hid (by simp), Lib.hid (by rw [Nat.pow_zero, Nat.mod_one, HZ.out])⟩
  case round =>
    obtain ⟨k, q, p, hk, rfl, rfl, rfl, hq, hp⟩ := hrel
    by_cases hlt : k < 32
    · have hget := fun w => index_words 48 Try.underlying48 ws H32.out k hlt w
      have hwk : ws[k]'(by rw [H32.out]; exact hlt) = f (2 ^ k) := by have := wordsOf_get f k (by rw [wordsOf_length]; exact hlt); simp only [HW.out]; exact this
      have HE := Lib.hid (through_step HF.out HK.out (k := k) HX.out hlt)
      rw [← hwk, ← hp.out, ← hq.out] at HE
      have HQ : Hid ((q : Int) / 2 = ((x / 2 ^ (k + 1) : Nat) : Int)) := by rw [hq.out]; exact div_step x k
      clear hwk
      go_wp2_with fail
      go_round
      case rel => exact ⟨k + 1, x / 2 ^ (k + 1), f (x % 2 ^ (k + 1)), by omega, by go_num, by rw [HQ.out], by rw [HE.out], Lib.hid rfl, Lib.hid rfl⟩
      case measure => simp [intOf]; omega
    · go_wp2_with fail
      go_ret
      obtain rfl : k = 32 := by omega
      have := HX.out
      exact ⟨by rw [hp.out, Nat.mod_eq_of_lt (by omega)]; rfl, (Below.refl _ _).alloc (Nat.le_refl _) _⟩

theorem keeps_shn (n : Nat) : Keeps (shn n) := fun _ h => shn_lt h
theorem shl_pow {k : Nat} (h : k < 32) : (2 : Int) ^ k % 4294967296 = ((2 ^ k : Nat) : Int) := by
  have h1 := pow_lt h
  have h2 : ((2 ^ k : Nat) : Int) = (2 : Int) ^ k := by simp
  rw [← h2]
  generalize 2 ^ k = y at h1
  omega

theorem thirtytwo (f : Nat → Nat) : rowv (part f 32 0) = #[.int .u32 0, .int .u32 0, .int .u32 0, .int .u32 0, .int .u32 0, .int .u32 0, .int .u32 0, .int .u32 0, .int .u32 0, .int .u32 0, .int .u32 0, .int .u32 0, .int .u32 0, .int .u32 0, .int .u32 0, .int .u32 0, .int .u32 0, .int .u32 0, .int .u32 0, .int .u32 0, .int .u32 0, .int .u32 0, .int .u32 0, .int .u32 0, .int .u32 0, .int .u32 0, .int .u32 0, .int .u32 0, .int .u32 0, .int .u32 0, .int .u32 0, .int .u32 0] := by
  have h : part f 32 0 = List.replicate 32 0 := by
    apply List.ext_getElem
    · simp [part]
    · intro i h1 h2; rw [List.getElem_replicate]; simp [part]
  rw [h]
  rfl
theorem oneNought_any (w : World) : Calls Try.prog 26 #[] w fun e w' => e = .returned (.agg (rowv (wordsOf (shn 8)))) ∧ Below w.heap.size w w' := by
  have H0 := Lib.hid (thirtytwo fun i => shn 8 (2 ^ i))
  go_enter Try.func26, Try.ntmps26
  go_wp2_with fail
  rw [← H0.out]
  go_loopw [3] (fun i wr => ∃ k : Nat, k ≤ 32 ∧ i = .int .i64 (k : Int) ∧ Arr wr w.heap.size 48 (part (fun i => shn 8 (2 ^ i)) 32 0) ∧ Arr wr (w.heap.size + 1) 48 (part (fun i => shn 8 (2 ^ i)) 32 k) ∧ Below w.heap.size w wr) (fun i _ => 32 - (intOf i).toNat)
  case atStart =>
    refine ⟨0, by omega, rfl, ?_, ?_, ?_⟩
    · exact heap_alloc2_old _ _ _
    · exact heap_alloc2_new _ _ _
    · exact ((Below.refl _ _).alloc (Nat.le_refl _) _).alloc (by simp) _
  case round =>
    obtain ⟨k, hk, rfl, ha, hc, hb⟩ := hrel
    have HA := Lib.hid ha
    have HC := Lib.hid hc
    have HB := Lib.hid hb
    by_cases hlt : k < 32
    · have hcell := hc.cell k (by rw [part_length]; exact hlt)
      have hfree := hc.free k
      have hd : decide ((k : Int) < 32) = true := by simp; omega
      have HP := Lib.hid (shl_pow hlt)
      clear ha hc hb
      go_wp2_with fail
      rw [HP.out]
      refine (shifted_any (2 ^ k) 8 (pow_lt hlt) (by omega) _).mono ?_
      rintro e w1 ⟨rfl, rfl⟩
      go_wp2_with fail
      go_roundw
      case rel =>
        refine ⟨k + 1, by omega, by go_num, HA.out.far (by simp) _, ?_, below_set HB.out (by omega) _ _⟩
        have := HC.out.set k (shn 8 (2 ^ k))
        rw [part_set (fun i => shn 8 (2 ^ i))] at this
        exact this
      case measure => simp [intOf]; omega
    · clear ha hc hb
      obtain rfl : k = 32 := by omega
      go_wp2_with (first | (refine wpList_load_row rfl 48 (.tmp 1) rfl (w.heap.size + 1) rfl 48 _ (0, 0) _ HC.out Try.underlying48 rfl (by rw [rowv_size, part_length]; exact info32) ?_) | (refine wpList_store_row rfl 48 (.tmp 0) (.tmp 12) rfl w.heap.size (rowv (part (fun i => shn 8 (2 ^ i)) 32 32)) rfl rfl 48 _ HA.out (by rw [rowv_size, part_length]; exact info32) (by simp [rowv_size, part_length]) (rowv_one _) ?_))
      have HR := HA.out.setRow (part (fun i => shn 8 (2 ^ i)) 32 32)
      refine bodyPost_ret (v := .agg (rowv (part (fun i => shn 8 (2 ^ i)) 32 32))) (results_cell_row Try.results26 _ _ w.heap.size 48 _ (0, 0) _ rfl HR Try.underlying48 rfl (by rw [rowv_size, part_length]; exact info32)) rfl ⟨by rw [part_all]; rfl, below_row HB.out (Nat.le_refl _) _⟩

theorem old_block (w : World) (o : Obj) (k : Nat) (h : k < w.heap.size) : (w.alloc o).heap[k]? = w.heap[k]? := ((Below.refl w.heap.size w).alloc (Nat.le_refl _) o).block k h
theorem wordsOf_part (f : Nat → Nat) : part (fun i => f (2 ^ i)) 32 32 = wordsOf f := part_all _ 32
set_option maxHeartbeats 1000000 in
theorem square_any (f : Nat → Nat) (hf : Lin f) (hk : Keeps f) (w : World) : Calls Try.prog 28 #[.agg (rowv (wordsOf f))] w fun e w' => e = .returned (.agg (rowv (wordsOf fun x => f (f x)))) ∧ Below w.heap.size w w' := by
  have H0 := Lib.hid (thirtytwo fun i => f (f (2 ^ i)))
  have HF := Lib.hid hf
  have HK := Lib.hid hk
  obtain ⟨ws, hws⟩ : ∃ ws, ws = wordsOf f := ⟨_, rfl⟩
  have HW := Lib.hid hws
  have h32 : ws.length = 32 := by rw [hws]; exact wordsOf_length f
  have H32 := Lib.hid h32
  rw [← hws]
  clear hf hk hws h32
  go_enter Try.func28, Try.ntmps28
  go_upto_region 2 with (fail)
  obtain ⟨W, hW⟩ : ∃ W, W = (((w.alloc (Obj.cells (rowv ws) 48)).alloc (Obj.cells #[Value.int IntKind.u32 0, Value.int IntKind.u32 0, Value.int IntKind.u32 0, Value.int IntKind.u32 0, Value.int IntKind.u32 0, Value.int IntKind.u32 0, Value.int IntKind.u32 0, Value.int IntKind.u32 0, Value.int IntKind.u32 0, Value.int IntKind.u32 0, Value.int IntKind.u32 0, Value.int IntKind.u32 0, Value.int IntKind.u32 0, Value.int IntKind.u32 0, Value.int IntKind.u32 0, Value.int IntKind.u32 0, Value.int IntKind.u32 0, Value.int IntKind.u32 0, Value.int IntKind.u32 0, Value.int IntKind.u32 0, Value.int IntKind.u32 0, Value.int IntKind.u32 0, Value.int IntKind.u32 0, Value.int IntKind.u32 0, Value.int IntKind.u32 0, Value.int IntKind.u32 0, Value.int IntKind.u32 0, Value.int IntKind.u32 0, Value.int IntKind.u32 0, Value.int IntKind.u32 0, Value.int IntKind.u32 0, Value.int IntKind.u32 0] 48)).alloc (Obj.cells #[Value.int IntKind.u32 0, Value.int IntKind.u32 0, Value.int IntKind.u32 0, Value.int IntKind.u32 0, Value.int IntKind.u32 0, Value.int IntKind.u32 0, Value.int IntKind.u32 0, Value.int IntKind.u32 0, Value.int IntKind.u32 0, Value.int IntKind.u32 0, Value.int IntKind.u32 0, Value.int IntKind.u32 0, Value.int IntKind.u32 0, Value.int IntKind.u32 0, Value.int IntKind.u32 0, Value.int IntKind.u32 0, Value.int IntKind.u32 0, Value.int IntKind.u32 0, Value.int IntKind.u32 0, Value.int IntKind.u32 0, Value.int IntKind.u32 0, Value.int IntKind.u32 0, Value.int IntKind.u32 0, Value.int IntKind.u32 0, Value.int IntKind.u32 0, Value.int IntKind.u32 0, Value.int IntKind.u32 0, Value.int IntKind.u32 0, Value.int IntKind.u32 0, Value.int IntKind.u32 0, Value.int IntKind.u32 0, Value.int IntKind.u32 0] 48)) := ⟨_, rfl⟩
  rw [← hW]
  rw [← H0.out] at hW
  have HA0 : Hid (Arr W w.heap.size 48 ws) := by rw [hW]; exact (old_block _ _ _ (by simp <;> omega)).trans ((old_block _ _ _ (by simp <;> omega)).trans (heap_alloc_new _ _))
  have HR0 : Hid (Arr W (w.heap.size + 1) 48 (part (fun i => f (f (2 ^ i))) 32 0)) := by rw [hW]; exact (old_block _ _ _ (by simp <;> omega)).trans (heap_alloc2_new _ _ _)
  have HC0 : Hid (Arr W (w.heap.size + 2) 48 (part (fun i => f (f (2 ^ i))) 32 0)) := by
    have h3 := heap_alloc2_new (w.alloc (Obj.cells (rowv ws) 48)) (Obj.cells (rowv (part (fun i => f (f (2 ^ i))) 32 0)) 48) (Obj.cells (rowv (part (fun i => f (f (2 ^ i))) 32 0)) 48)
    have e : (w.alloc (Obj.cells (rowv ws) 48)).heap.size + 1 = w.heap.size + 2 := by simp
    rw [e] at h3
    rw [hW]
    exact h3
  have HZ0 : Hid (w.heap.size + 2 < W.heap.size) := by rw [hW]; simp [Hid]
  have HB0 : Hid (Below w.heap.size w W) := by rw [hW]; exact (((Below.refl _ _).alloc (Nat.le_refl _) _).alloc (by simp) _).alloc (by simp; omega) _
  clear hW
  go_wp2_with (refine wpList_load_row rfl 48 (.tmp 1) rfl w.heap.size rfl 48 (rowv ws) (0, 0) _ HA0.out Try.underlying48 rfl (by rw [rowv_size, H32.out]; exact info32) ?_)
  go_loopw [7] (fun i wr => ∃ k : Nat, k ≤ 32 ∧ i = .int .i64 (k : Int) ∧ Arr wr w.heap.size 48 ws ∧ Arr wr (w.heap.size + 1) 48 (part (fun i => f (f (2 ^ i))) 32 0) ∧ Arr wr (w.heap.size + 2) 48 (part (fun i => f (f (2 ^ i))) 32 k) ∧ w.heap.size + 2 < wr.heap.size ∧ Below w.heap.size w wr) (fun i _ => 32 - (intOf i).toNat)
  case atStart => exact ⟨0, by omega, rfl, HA0.out, HR0.out, HC0.out, HZ0.out, HB0.out⟩
  case round =>
    obtain ⟨k, hk, rfl, ha, hr, hc, hz, hb⟩ := hrel
    have HA := Lib.hid ha
    have HR := Lib.hid hr
    have HC := Lib.hid hc
    have HB := Lib.hid hb
    clear ha hr hc hb
    by_cases hlt : k < 32
    · have hget := fun w => index_words 48 Try.underlying48 ws H32.out k hlt w
      have hwk : ws[k]'(by rw [H32.out]; exact hlt) = f (2 ^ k) := by have := wordsOf_get f k (by rw [wordsOf_length]; exact hlt); simp only [HW.out]; exact this
      rw [hwk] at hget
      have HT := Lib.hid (through_any f HF.out HK.out (f (2 ^ k)) (HK.out _ (pow_lt hlt)) wr)
      rw [← HW.out] at HT
      have hd : decide ((k : Int) < 32) = true := by simp; omega
      clear hwk
      go_wp2_with (refine wpList_load_row rfl 48 (.tmp 1) rfl w.heap.size rfl 48 (rowv ws) (0, 0) _ HA.out Try.underlying48 rfl (by rw [rowv_size, H32.out]; exact info32) ?_)
      refine Calls.mono HT.out ?_
      rintro e w1 ⟨rfl, hb1⟩
      have HB1 := Lib.hid hb1
      have hz1 := hb1.size
      have HC1 := Lib.hid (HC.out.below hb1 (by omega))
      clear hb1 hget
      have hcell := HC1.out.cell k (by rw [part_length]; exact hlt)
      have hfree := HC1.out.free k
      go_wp2_with fail
      go_roundw
      case rel =>
        refine ⟨k + 1, by omega, by go_num, (HA.out.below HB1.out (by omega)).far (by simp <;> omega) _, (HR.out.below HB1.out (by omega)).far (by simp <;> omega) _, ?_, by simp; omega, below_set (HB.out.trans (HB1.out.mono (by omega))) (by omega) _ _⟩
        have := HC1.out.set k (f (f (2 ^ k)))
        rw [part_set (fun i => f (f (2 ^ i)))] at this
        exact this
      case measure => simp [intOf]; omega
    · obtain rfl : k = 32 := by omega
      go_wp2_with (first | (refine wpList_load_row rfl 48 (.tmp 3) rfl (w.heap.size + 2) rfl 48 _ (0, 0) _ HC.out Try.underlying48 rfl (by rw [rowv_size, part_length]; exact info32) ?_) | (refine wpList_store_row rfl 48 (.tmp 2) (.tmp 17) rfl (w.heap.size + 1) (rowv (part (fun i => f (f (2 ^ i))) 32 32)) rfl rfl 48 _ HR.out (by rw [rowv_size, part_length]; exact info32) (by simp [rowv_size, part_length]) (rowv_one _) ?_))
      have HX := HR.out.setRow (part (fun i => f (f (2 ^ i))) 32 32)
      refine bodyPost_ret (v := .agg (rowv (part (fun i => f (f (2 ^ i))) 32 32))) (results_cell_row Try.results28 _ _ (w.heap.size + 1) 48 _ (0, 0) _ rfl HX Try.underlying48 rfl (by rw [rowv_size, part_length]; exact info32)) rfl ⟨by rw [part_all]; rfl, below_row HB.out (by omega) _⟩
end Go.Proofs.Ytppeomikmpahmaa
