/- Readers that are not there: nil, or of no bytes and not open. -/
import Derived.Test.YtdggemdgndiafaaWas
namespace Go.Proofs.Ytdggemdgndiafaa
open Go.ChangeShapes Go.WideShapes Go.ChangeAt Go.RowKit

/-- No reader. -/
def NoRd (w : World) (v : Value) : Prop := v = .pointer none ∨ ∃ r, v = .pointer (some ⟨r, 0, none⟩) ∧ RObj w r (.slice none 0 0) false
theorem NoRd.below {w w' : World} {v : Value} (h : NoRd w v) (hb : Below w.heap.size w w') : NoRd w' v := by
  rcases h with h | ⟨r, h1, h2⟩
  · exact .inl h
  · exact .inr ⟨r, h1, h2.below hb h2.lt⟩

theorem none_nord (v : Value) (w : World) (h : NoRd w v) : Calls Try.prog 48 #[v] w fun e w' => e = .returned (.bool true) ∧ w = w' := by
  rcases h with rfl | ⟨r, rfl, h⟩
  · exact none_nil w
  · exact none_open r _ false w h

theorem left_nord (v : Value) (w : World) (h : NoRd w v) : Calls Try.prog 18 #[v] w fun e w' => e = .returned (.int .i64 0) ∧ w = w' := by
  have H := Lib.hid (none_nord v w h)
  clear h
  go_enter Try.func18, Try.ntmps18
  go_wp2_with fail
  refine Calls.mono H.out ?_
  rintro e w1 ⟨rfl, rfl⟩
  go_wp2_with fail
  go_ret
  exact ⟨rfl, rfl⟩

theorem end_nord (v : Value) (w : World) (h : NoRd w v) : Calls Try.prog 22 #[v] w fun e w' => e = .returned (.int .i64 1) ∧ w = w' := by
  have H := Lib.hid (none_nord v w h)
  clear h
  go_enter Try.func22, Try.ntmps22
  go_wp2_with fail
  refine Calls.mono H.out ?_
  rintro e w1 ⟨rfl, rfl⟩
  go_wp2_with fail
  go_ret
  exact ⟨rfl, rfl⟩

theorem whole_u64_nord (v f : Value) (w : World) (h : NoRd w v) : Calls Try.prog 46 #[v, f] w fun e w' => e = .returned (.tuple #[.int .u64 0, .int .i64 1]) ∧ Below w.heap.size w w' := by
  have H := Lib.hid (none_nord v w h)
  clear h
  go_enter Try.func46, Try.ntmps46
  go_wp2_with fail
  refine Calls.mono H.out ?_
  rintro e w1 ⟨rfl, rfl⟩
  go_wp2_with fail
  go_ret2
  exact ⟨rfl, Below.refl _ _⟩

theorem whole_i64_nord (v f : Value) (w : World) (h : NoRd w v) : Calls Try.prog 49 #[v, f] w fun e w' => e = .returned (.tuple #[.int .i64 0, .int .i64 1]) ∧ Below w.heap.size w w' := by
  have H := Lib.hid (none_nord v w h)
  clear h
  go_enter Try.func49, Try.ntmps49
  go_wp2_with fail
  refine Calls.mono H.out ?_
  rintro e w1 ⟨rfl, rfl⟩
  go_wp2_with fail
  go_ret2
  exact ⟨rfl, Below.refl _ _⟩

theorem whole_bool_nord (v f : Value) (w : World) (h : NoRd w v) : Calls Try.prog 70 #[v, f] w fun e w' => e = .returned (.tuple #[.bool false, .int .i64 1]) ∧ Below w.heap.size w w' := by
  have H := Lib.hid (none_nord v w h)
  clear h
  go_enter Try.func70, Try.ntmps70
  go_wp2_with fail
  refine Calls.mono H.out ?_
  rintro e w1 ⟨rfl, rfl⟩
  go_wp2_with fail
  go_ret2
  exact ⟨rfl, Below.refl _ _⟩

theorem whole_bytes_nord (v f : Value) (w : World) (h : NoRd w v) : Calls Try.prog 58 #[v, f] w fun e w' => e = .returned (.tuple #[.slice none 0 0, .int .i64 1]) ∧ Below w.heap.size w w' := by
  have H := Lib.hid (none_nord v w h)
  clear h
  go_enter Try.func58, Try.ntmps58
  go_wp2_with fail
  refine Calls.mono H.out ?_
  rintro e w1 ⟨rfl, rfl⟩
  go_wp2_with fail
  go_ret2
  exact ⟨rfl, Below.refl _ _⟩

theorem Number_nord (v : Value) (w : World) (h : NoRd w v) : Calls Try.prog 16 #[v] w fun e w' => e = .returned (.tuple #[.int .u64 0, .int .i64 1]) ∧ Below w.heap.size w w' := by
  have H := Lib.hid (fun f => whole_u64_nord v f w h)
  clear h
  go_enter Try.func16, Try.ntmps16
  go_wp2_with fail
  refine Calls.mono (H.out _) ?_
  rintro e w1 ⟨rfl, hb⟩
  go_wp2_with fail
  go_ret2
  exact ⟨rfl, hb⟩

theorem Signed_nord (v : Value) (w : World) (h : NoRd w v) : Calls Try.prog 21 #[v] w fun e w' => e = .returned (.tuple #[.int .i64 0, .int .i64 1]) ∧ Below w.heap.size w w' := by
  have H := Lib.hid (fun f => whole_i64_nord v f w h)
  clear h
  go_enter Try.func21, Try.ntmps21
  go_wp2_with fail
  refine Calls.mono (H.out _) ?_
  rintro e w1 ⟨rfl, hb⟩
  go_wp2_with fail
  go_ret2
  exact ⟨rfl, hb⟩

theorem Flag_nord (v : Value) (w : World) (h : NoRd w v) : Calls Try.prog 42 #[v] w fun e w' => e = .returned (.tuple #[.bool false, .int .i64 1]) ∧ Below w.heap.size w w' := by
  have H := Lib.hid (fun f => whole_bool_nord v f w h)
  clear h
  go_enter Try.func42, Try.ntmps42
  go_wp2_with fail
  refine Calls.mono (H.out _) ?_
  rintro e w1 ⟨rfl, hb⟩
  go_wp2_with fail
  go_ret2
  exact ⟨rfl, hb⟩

theorem whole_pairs_nord (v f : Value) (w : World) (h : NoRd w v) : Calls Try.prog 64 #[v, f] w fun e w' => e = .returned (.tuple #[.slice none 0 0, .int .i64 1]) ∧ Below w.heap.size w w' := by
  have H := Lib.hid (none_nord v w h)
  clear h
  go_enter Try.func64, Try.ntmps64
  go_wp2_with fail
  refine Calls.mono H.out ?_
  rintro e w1 ⟨rfl, rfl⟩
  go_wp2_with fail
  go_ret2
  exact ⟨rfl, Below.refl _ _⟩

theorem Bytes_nord (v : Value) (most : Int) (w : World) (h : NoRd w v) : Calls Try.prog 31 #[v, .int .i64 most] w fun e w' => e = .returned (.tuple #[.slice none 0 0, .int .i64 1]) ∧ Below w.heap.size w w' := by
  have hmf := mkf
  have h1 : NoRd (w.alloc (.cells #[.int .i64 most] 3)) v := h.below ((Below.refl _ _).alloc (Nat.le_refl _) _)
  have H := Lib.hid (fun f => whole_bytes_nord v f _ h1)
  clear h h1
  go_enter Try.func31, Try.ntmps31
  go_wp2_with fail
  refine Calls.mono (H.out _) ?_
  rintro e w1 ⟨rfl, hb⟩
  go_wp2_with fail
  go_ret2
  exact ⟨rfl, ((Below.refl _ _).alloc (Nat.le_refl _) _).trans (hb.mono (by simp))⟩

theorem fnil3 (w : World) : (binOp .eql 74 (.func (.func 38) #[] #[]) .nilFunc).run Try.prog w = .ok (.bool false) w := by kernel_rfl

theorem Take_nord (v : Value) (most : Int) (w : World) (h : NoRd w v) : Calls Try.prog 37 #[v, .int .i64 most, .func (.func 38) #[] #[]] w fun e w' => e = .returned (.tuple #[.slice none 0 0, .int .i64 1]) ∧ Below w.heap.size w w' := by
  have hmf := mkf
  have hfn := fnil3
  have h1 : NoRd (w.alloc (.cells #[.int .i64 most] 3)) v := h.below ((Below.refl _ _).alloc (Nat.le_refl _) _)
  have h2 : NoRd ((w.alloc (.cells #[.int .i64 most] 3)).alloc (.cells #[.func (.func 38) #[] #[]] 74)) v := h1.below ((Below.refl _ _).alloc (Nat.le_refl _) _)
  have H := Lib.hid (fun f => whole_pairs_nord v f _ h2)
  clear h h1 h2
  go_enter Try.func37, Try.ntmps37
  go_wp2_with fail
  refine Calls.mono (H.out _) ?_
  rintro e w1 ⟨rfl, hb⟩
  go_wp2_with fail
  go_ret2
  exact ⟨rfl, (((Below.refl _ _).alloc (Nat.le_refl _) _).alloc (by simp) _).trans (hb.mono (by simp; omega))⟩

theorem fnil5 (w : World) : (binOp .eql 108 .nilFunc .nilFunc).run Try.prog w = .ok (.bool true) w := by kernel_rfl
theorem fnil6 (w : World) : (binOp .eql 80 .nilFunc .nilFunc).run Try.prog w = .ok (.bool true) w := by kernel_rfl

/-- A list that nothing reads. -/
theorem Take_nofunc (v : Value) (most : Int) (w : World) : Calls Try.prog 41 #[v, .int .i64 most, .nilFunc] w fun e w' => e = .returned (.tuple #[.slice none 0 0, .int .i64 1]) ∧ Below w.heap.size w w' := by
  have hfn := fnil5
  go_enter Try.func41, Try.ntmps41
  go_wp2_with fail
  go_ret2
  exact ⟨rfl, ((Below.refl _ _).alloc (Nat.le_refl _) _).alloc (by simp) _⟩

theorem Put_nofunc (w : World) : Calls Try.prog 39 #[.slice none 0 0, .nilFunc] w fun e w' => e = .returned (.tuple #[.slice none 0 0, .int .i64 1]) ∧ w = w' := by
  have hfn := fnil6
  go_enter Try.func39, Try.ntmps39
  go_wp2_with fail
  go_ret2
  exact ⟨rfl, rfl⟩

theorem fnil4 (w : World) : (binOp .eql 80 (.func (.func 40) #[] #[]) .nilFunc).run Try.prog w = .ok (.bool false) w := by kernel_rfl

theorem Put_none (w : World) : Calls Try.prog 39 #[.slice none 0 0, .func (.func 40) #[] #[]] w (PutBy w (form 0)) := by
  have hfn := fnil4
  have H := Lib.hid (number_any 0 ⟨by omega⟩ w)
  go_enter Try.func39, Try.ntmps39
  go_wp2_with fail
  refine Calls.mono H.out ?_
  rintro e w1 ⟨v1, rfl, hown, hb⟩
  go_wp2_with fail
  go_loopw [6, 8, 17] (fun v _ i wr => v = v1 ∧ i = .int .i64 0 ∧ wr = w1) (fun _ _ _ _ => 0)
  case atStart => exact ⟨rfl, rfl, rfl⟩
  case round =>
    obtain ⟨rfl, rfl, rfl⟩ := hrel
    go_wp2_with fail
    go_ret2
    exact ⟨_, rfl, hown, hb⟩
end Go.Proofs.Ytdggemdgndiafaa
