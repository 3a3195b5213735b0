/- The chapter's rows, which every law asks. -/
import Derived.Test.YtdoieknjhdehmaaBrmake
import Derived.Lib.SlBytesConst
import Derived.Lib.SmallJoins
import Derived.Laws.Concat
namespace Go.Proofs.Ytdoieknjhdehmaa
open Go.ChangeShapes Go.WideShapes Go.ChangeAt Go.RowKit Go.Lib Go.Joins

/-- A literal of bytes: its marked block reads as they. -/
theorem bs_mark (w : World) (l : List Nat) (hl : l.length ≤ 100) (fr : Nat × Nat) : Bs (w.alloc (.cells (bv l).toArray 5 fr)) w.heap.size (w.heap.size + 1) (.slice (some ⟨w.heap.size, 0, none⟩) l.length l.length) l := by
  refine ⟨_, _, rfl, Nat.le_refl _, by simp [maxLen]; omega, (fun h => by cases h), .inr ⟨w.heap.size, 0, rfl, Nat.le_refl _, Nat.lt_succ_self _, fun i u hu => ?_⟩⟩
  rw [cell_alloc_mark_at _ _ _ _ _ _ rfl, Nat.zero_add]
  simpa using hu
theorem cv_a (W : World) : (convert 25 25 (.slice (some ⟨W.heap.size, 0, none⟩) 1 1)).run Try.prog (W.alloc (.cells #[.int .u8 97] 5)) = .ok (.slice (some ⟨W.heap.size, 0, none⟩) 1 1) (W.alloc (.cells #[.int .u8 97] 5 (1, 2))) := run_convert_bytes_const_at _ _ _ _ _ _ _ (rfl) Try.underlying25 Try.underlying5
theorem bs_a (W : World) : Bs (W.alloc (.cells #[.int .u8 97] 5 (1, 2))) W.heap.size (W.heap.size + 1) (.slice (some ⟨W.heap.size, 0, none⟩) 1 1) [97] := bs_mark W [97] (by simp) (1, 2)
theorem lt_a : ∀ x ∈ [97], x < 256 := by decide
theorem num_any (n : Int) (w : World) : Calls Try.prog 14 #[.int .i64 n] w fun e w' => e = .returned (.int .i64 n) ∧ w = w' := by
  go_enter Try.func14, Try.ntmps14
  go_wp2
  go_ret
  exact ⟨rfl, rfl⟩
theorem cnt_none : cnt (mk []) = 0 := by decide +kernel
theorem cnt_a : cnt (mk [[97]]) = 5 := by decide +kernel
theorem rows_none (w : World) : Rows2 w 0 0 none [] [] := ⟨Sl.nil _ _ _ _, rfl, fun i v l hv _ => by simp at hv⟩
theorem make_none (w : World) : Calls Try.prog 17 #[.slice none 0 0] w fun e w' => ∃ g c, e = .returned (.tuple #[.slice (some ⟨g, 0, none⟩) 8 c, .int .i64 0]) ∧ Own w.heap.size (mk []) (.slice (some ⟨g, 0, none⟩) 8 c) w' ∧ Ext w w' := by
  refine (make_any none 0 0 0 [] [] w (rows_none w) (Nat.zero_le _) (by simp [maxLen]) (Nat.le_refl _) (by simp)).mono ?_
  rintro e w' ⟨hx, ⟨h, _⟩ | ⟨_, g, c, he, ho⟩⟩
  · simp at h
  · exact ⟨g, c, he, ho, hx⟩
theorem make_a {w : World} {lo hi q : Nat} {v : Value} (hv : Bs w lo hi v [97]) (hhi : hi ≤ w.heap.size) (hq : q = w.heap.size) :
    Calls Try.prog 17 #[.slice (some ⟨q, 0, none⟩) 1 1] (w.alloc (.cells #[v] 25)) fun e w' => ∃ g c, e = .returned (.tuple #[.slice (some ⟨g, 0, none⟩) 8 c, .int .i64 0]) ∧ Own w.heap.size (mk [[97]]) (.slice (some ⟨g, 0, none⟩) 8 c) w' ∧ Ext w w' := by
  subst hq
  refine (make_any _ 1 _ _ [v] [[97]] _ (rows_one hv hhi) (by simp) (by simp [maxLen]) (Nat.le_refl _) (by intro l h; rw [List.mem_singleton] at h; rw [h]; exact lt_a)).mono ?_
  rintro e w' ⟨hx, ⟨h, _⟩ | ⟨_, g, c, he, ho⟩⟩
  · simp at h
  · exact ⟨g, c, he, ho.base (by simp), Ext.trans (ext_alloc w _) hx⟩
theorem may_is {u v : Value} {lo hi lo2 hi2 : Nat} {F l : List Nat} {w : World} (hu : Bs w lo hi u F) (hhi : hi ≤ w.heap.size) (hF : ∀ x ∈ F, x < 256) (hv : Bs w lo2 hi2 v l) (hhi2 : hi2 ≤ w.heap.size) (hl : ∀ x ∈ l, x < 256) (hm : (!okF F.length || mayB F l) = true) :
    Calls Try.prog 22 #[u, v] w fun e w' => e = .returned (.bool true) ∧ Ext w w' := by rw [← hm]; exact may_any hu hhi hF hv hhi2 hl
theorem check_is {w : World} {A : Option Addr} {n c : Nat} {k : Int} (hn : n ≤ 9223372036854775807) (hk : chk n = k) : Calls Try.prog 19 #[.slice A n c] w fun e w' => e = .returned (.int .i64 k) ∧ w = w' := by rw [← hk]; exact check_any hn
theorem count_is {A : Option Addr} {c lo hi : Nat} {F : List Nat} {w : World} {n k : Nat} (hu : Bs w lo hi (.slice A n c) F) (hF : ∀ x ∈ F, x < 256) (hl : F.length ≤ 1099511627776) (hk : cnt F = k) : Calls Try.prog 20 #[.slice A n c] w fun e w' => e = .returned (.int .i64 (k : Int)) ∧ w = w' := by rw [← hk]; exact count_any hu hF hl
theorem size_is {n : Int} {k : Int} (h1 : -9223372036854775808 ≤ n) (h2 : n ≤ 9223372036854775807) (hk : ((sizeI n : Nat) : Int) = k) (w : World) : Calls Try.prog 10 #[.int .i64 n] w fun e w' => e = .returned (.int .i64 k) ∧ w = w' := by rw [← hk]; exact size_any n h1 h2 w

theorem below_mark (w : World) (fr : Nat × Nat) : Below w.heap.size w (w.alloc (.cells #[.int .u8 97] 5 fr)) := below_new1 _ _
theorem tx_snoc {l : List Nat} {x : Nat} (_hl : ∀ b ∈ l, b < 256) (_hx : x < 256) : (tx (l ++ [x])).toList = (tx l).toList ++ [UInt8.ofNat x] := by
  rw [ByteArray.toList_eq, ByteArray.toList_eq]
  unfold tx
  rw [strOfNums_data, strOfNums_data]
  simp
theorem tx_size (l : List Nat) : (tx l).size = l.length := by
  show (tx l).data.size = l.length
  rw [← Array.length_toList]
  unfold tx
  rw [strOfNums_data]
  simp
theorem add_text (F : List Nat) (h : F.length ≤ 1000000) : ∃ S : ByteArray, (∀ W, (Op.stringOp .add (tx F) ⟨#[119]⟩).run Try.prog W = .ok (.string S) W) ∧ (tx (F ++ [119])).toList = S.toList := by
  refine ⟨tx F ++ ⟨#[119]⟩, fun W => run_string_add_sum W _ _ ?_, ?_⟩
  · have h1 := tx_size F
    have h2 : (⟨#[119]⟩ : ByteArray).size = 1 := rfl
    omega
  · rw [ByteArray.toList_eq, ByteArray.toList_eq]
    have e : (tx F ++ (⟨#[119]⟩ : ByteArray)).data = (tx F).data ++ #[119] := by simp
    rw [e, Array.toList_append]
    unfold tx
    rw [strOfNums_data, strOfNums_data]
    simp
theorem may_yes : (!okF (mk [[97]]).length || mayB (mk [[97]]) [97]) = true := by rw [may_mk (by simp), Bool.or_true]
end Go.Proofs.Ytdoieknjhdehmaa
