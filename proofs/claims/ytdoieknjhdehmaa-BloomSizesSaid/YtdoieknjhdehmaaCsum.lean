/- Sum, More and Holds answer the sums. -/
import Derived.Test.YtdoieknjhdehmaaCtaken
import Derived.Test.YtdoieknjhdehmaaArgs
namespace Go.Proofs.Ytdoieknjhdehmaa
open Go.ChangeShapes Go.WideShapes Go.ChangeAt Go.RowKit

theorem xor_ones32 {m : Nat} (h : m < 4294967296) : bits BinOp.xor IntKind.u32 IntKind.u32.max (m : Int) = ((m ^^^ ones : Nat) : Int) := by
  have e : IntKind.u32.max = ((4294967295 : Nat) : Int) := by kernel_rfl
  rw [e, xor_u32 (by omega) h, Nat.xor_comm]
  rfl

theorem table_halves (w : World) : Calls Try.prog 41 #[] w fun e w' => e = .returned (.agg (rowv halves)) ∧ Below w.heap.size w w' := table_any w

theorem reg_flat (s : Nat) (ls : List (List Nat)) {k : Nat} (h : k < ls.length) : reg s (ls.take (k + 1)).flatten = reg (reg s (ls.take k).flatten) ls[k] := by
  rw [flat_take_succ ls h, reg_append]

set_option maxHeartbeats 1000000 in
theorem sum_any (A : Option Addr) (c lo hi : Nat) (vs : List Value) (ls : List (List Nat)) (w : World) (h : Rows2 w lo hi A vs ls) (hhi : hi ≤ w.heap.size) (hc : c ≤ maxLen) (hlc : ls.length ≤ c) (hl : ∀ l ∈ ls, ∀ x ∈ l, x < 256) :
    Calls Try.prog 38 #[.slice A ls.length c] w fun e w' => e = .returned (.int .u32 (crc ls.flatten : Nat)) ∧ Below w.heap.size w w' := by
  have hlen : ls.length ≤ 9223372036854775807 := by unfold maxLen at hc; omega
  have HL := Lib.hid hl
  have HROW := Lib.hid h
  have htop : ∀ k : Nat, reg ones (ls.take k).flatten < 4294967296 := fun k => reg_lt ones_lt fun x hx => by
    obtain ⟨l, hl1, hl2⟩ := List.mem_flatten.1 hx
    exact hl l (List.mem_of_mem_take hl1) x hl2
  have HT := Lib.hid htop
  clear hc hlc hl h htop
  go_enter Try.func38, Try.ntmps38
  go_wp2_with fail
  refine (table_halves _).mono ?_
  rintro e w1 ⟨rfl, hb1⟩
  have hz1 := hb1.size
  have HB1 := Lib.hid hb1
  clear hb1
  go_wp2_with (refine wpList_store_row rfl 57 (.tmp 3) (.tmp 7) rfl w1.heap.size (rowv halves) rfl rfl 57 _ (heap_alloc_new _ _) info16 (by simp [rowv_size, halves_length]) (rowv_one _) ?_)
  obtain ⟨W, hW⟩ : ∃ W, W = (w1.alloc (Obj.cells #[Value.int IntKind.u32 0, Value.int IntKind.u32 0, Value.int IntKind.u32 0, Value.int IntKind.u32 0, Value.int IntKind.u32 0, Value.int IntKind.u32 0, Value.int IntKind.u32 0, Value.int IntKind.u32 0, Value.int IntKind.u32 0, Value.int IntKind.u32 0, Value.int IntKind.u32 0, Value.int IntKind.u32 0, Value.int IntKind.u32 0, Value.int IntKind.u32 0, Value.int IntKind.u32 0, Value.int IntKind.u32 0] 57)).setRow w1.heap.size (rowv halves) := ⟨_, rfl⟩
  have HA : Hid (Arr W w1.heap.size 57 halves) := by rw [hW]; exact setRow_heap _ _ _ _ _ (0, 0) (heap_alloc_new _ _)
  have HB : Hid (Below w.heap.size w W) := by rw [hW]; exact below_row (HB1.out.alloc hz1 _) hz1 _
  have HZ : Hid (w1.heap.size < W.heap.size) := by rw [hW]; simp [Hid]
  rw [← hW]
  clear hW HB1
  go_loopw [4, 10] (fun r i wr => ∃ (k m : Nat), k ≤ ls.length ∧ i = .int .i64 (k : Int) ∧ r = .int .u32 (m : Int) ∧ Hid (m = reg ones (ls.take k).flatten) ∧ Arr wr w1.heap.size 57 halves ∧ w1.heap.size < wr.heap.size ∧ Below w.heap.size w wr) (fun _ i _ => ls.length - (intOf i).toNat)
  case atStart => exact ⟨0, ones, Nat.zero_le _, rfl, rfl, Lib.hid rfl, HA.out, HZ.out, HB.out⟩
  case round =>
    obtain ⟨k, m, hk, rfl, rfl, hm, ha, hz, hb⟩ := hrel
    have HA2 := Lib.hid ha
    have HB2 := Lib.hid hb
    have HM := Lib.hid (show m < 4294967296 by rw [hm.out]; exact HT.out k)
    clear ha hb
    by_cases hlt : k < ls.length
    · have hwr := HROW.out.below HB2.out hhi
      obtain ⟨b, o, A', c', rfl, hcell, q1, q2, q3, q4⟩ := hwr.at_ hlt
      have HV : Hid (Bs wr lo hi (.slice A' ls[k].length c') ls[k]) := ⟨A', c', rfl, q1, q2, q3, q4⟩
      clear hwr q1 q2 q3 q4
      go_wp2_with (refine wpList_load_row rfl 57 (.tmp 3) rfl w1.heap.size rfl 57 _ (0, 0) _ HA2.out Try.underlying57 rfl info16 ?_)
      refine (taken_any m HM.out _ lo hi ls[k] wr HV.out (by omega) (fun x hx => HL.out _ (List.getElem_mem hlt) x hx)).mono ?_
      rintro e w2 ⟨rfl, hb2⟩
      have HB3 := Lib.hid hb2
      have hz2 := hb2.size
      clear hb2
      go_wp2_with fail
      go_roundw
      case rel => exact ⟨k + 1, _, by omega, by go_num, rfl, Lib.hid (by rw [reg_flat ones ls hlt, hm.out]), HA2.out.below HB3.out hz, by omega, HB2.out.trans (HB3.out.mono (by omega))⟩
      case measure => simp [intOf]; omega
    · have HX := Lib.hid (xor_ones32 HM.out)
      go_wp2_with fail
      go_ret
      obtain rfl : k = ls.length := by omega
      exact ⟨by rw [HX.out, hm.out, List.take_length]; rfl, HB2.out⟩

theorem more_any (s : Nat) (hs : s < 4294967296) (v : Value) (lo hi : Nat) (l : List Nat) (w : World) (hv : Bs w lo hi v l) (hhi : hi ≤ w.heap.size) (hl : ∀ c ∈ l, c < 256) :
    Calls Try.prog 39 #[.int .u32 (s : Int), v] w fun e w' => e = .returned (.int .u32 (more s l : Nat)) ∧ Below w.heap.size w w' := by
  have HV := Lib.hid hv
  have HL := Lib.hid hl
  have H1 := Lib.hid (xor_lt hs ones_lt)
  have H2 := Lib.hid (xor_ones32 hs)
  have H3 := Lib.hid (xor_ones32 (reg_lt (xor_lt hs ones_lt) hl))
  obtain ⟨A, c, rfl, _, _, _, _⟩ := hv
  clear hs hl
  go_enter Try.func39, Try.ntmps39
  go_wp2_with fail
  refine (table_halves _).mono ?_
  rintro e w1 ⟨rfl, hb1⟩
  have HB1 := Lib.hid hb1
  have hz1 := hb1.size
  clear hb1
  go_wp2_with fail
  rw [H2.out]
  refine (taken_any _ H1.out _ lo hi l w1 (HV.out.below HB1.out hhi) (by omega) HL.out).mono ?_
  rintro e w2 ⟨rfl, hb2⟩
  have HB2 := Lib.hid (HB1.out.trans (hb2.mono hz1))
  clear hb2
  go_wp2_with fail
  go_ret
  exact ⟨by rw [H3.out]; rfl, HB2.out⟩

/-- A row of one slice of bytes, in a block that was made for it. -/
theorem rows_one {w : World} {lo hi : Nat} {v : Value} {l : List Nat} (h : Bs w lo hi v l) (hhi : hi ≤ w.heap.size) : Rows2 (w.alloc (.cells #[v] 25)) 0 (w.heap.size + 1) (some ⟨w.heap.size, 0, none⟩) [v] [l] := by
  refine ⟨.inr ⟨w.heap.size, 0, rfl, Nat.zero_le _, by omega, fun i u hu => ?_⟩, rfl, fun i u r hu hr => ?_⟩
  · rw [World.cell?_alloc_at _ _ _ _ rfl, Nat.zero_add]
    simpa using hu
  · cases i with
    | zero => simp at hu hr; subst hu hr; exact (h.alloc hhi _).wide (Nat.zero_le _) (by omega)
    | succ i => simp at hu

end Go.Proofs.Ytdoieknjhdehmaa
