/- What the methods of a disk that is none answer. -/
import Derived.Test.YthcepihibnmgfaaDops
namespace Go.Proofs.Ythcepihibnmgfaa
open Go.RowKit Go.Maps Go.Sort Go.Shelf

theorem read_nil {w : World} {o : Option Addr} (hN : NoDisk w (.pointer o)) (s : ByteArray) : Calls Try.prog 21 #[.pointer o, .string s] w fun e w' => e = .returned (.tuple #[.slice none 0 0, .int .i64 1]) ∧ Below w.heap.size w w' := by
  have HN := Lib.hid hN
  clear hN
  go_enter Try.func21, Try.ntmps21
  go_wp2_with fail
  refine (lacks_any o s w).mono ?_
  rintro e w1 ⟨rfl, rfl⟩
  go_wp2_with fail
  obtain ⟨w2, hw2⟩ : ∃ w2, w2 = ((w.alloc (.cells #[.pointer o] 25)).alloc (.cells #[.string s] 9)).alloc (.cells #[.string s] 9) := ⟨_, rfl⟩
  rw [← hw2]
  have HX : Hid (Ext w w2) := by rw [hw2]; exact Ext.trans (Ext.trans (ext_alloc _ _) (ext_alloc _ _)) (ext_alloc _ _)
  clear hw2
  refine (refused_nil (HN.out.ext HX.out)).mono ?_
  rintro e w9 ⟨rfl, rfl⟩
  go_wp2_with fail
  go_ret2
  exact ⟨rfl, HX.out⟩
theorem lasting_nil {w : World} {o : Option Addr} (hN : NoDisk w (.pointer o)) (s : ByteArray) : Calls Try.prog 31 #[.pointer o, .string s] w fun e w' => e = .returned (.tuple #[.int .i64 0, .int .i64 1]) ∧ Below w.heap.size w w' := by
  have HN := Lib.hid hN
  clear hN
  go_enter Try.func31, Try.ntmps31
  go_wp2_with fail
  refine (lacks_any o s w).mono ?_
  rintro e w1 ⟨rfl, rfl⟩
  go_wp2_with fail
  obtain ⟨w2, hw2⟩ : ∃ w2, w2 = ((w.alloc (.cells #[.pointer o] 25)).alloc (.cells #[.string s] 9)).alloc (.cells #[.string s] 9) := ⟨_, rfl⟩
  rw [← hw2]
  have HX : Hid (Ext w w2) := by rw [hw2]; exact Ext.trans (Ext.trans (ext_alloc _ _) (ext_alloc _ _)) (ext_alloc _ _)
  clear hw2
  refine (refused_nil (HN.out.ext HX.out)).mono ?_
  rintro e w9 ⟨rfl, rfl⟩
  go_wp2_with fail
  go_ret2
  exact ⟨rfl, HX.out⟩
theorem remove_nil {w : World} {o : Option Addr} (hN : NoDisk w (.pointer o)) (s : ByteArray) : Calls Try.prog 24 #[.pointer o, .string s] w fun e w' => e = .returned (.int .i64 1) ∧ Below w.heap.size w w' := by
  have HN := Lib.hid hN
  clear hN
  go_enter Try.func24, Try.ntmps24
  go_wp2_with fail
  refine (lacks_any o s w).mono ?_
  rintro e w1 ⟨rfl, rfl⟩
  go_wp2_with fail
  obtain ⟨w2, hw2⟩ : ∃ w2, w2 = ((w.alloc (.cells #[.pointer o] 25)).alloc (.cells #[.string s] 9)).alloc (.cells #[.string s] 9) := ⟨_, rfl⟩
  rw [← hw2]
  have HX : Hid (Ext w w2) := by rw [hw2]; exact Ext.trans (Ext.trans (ext_alloc _ _) (ext_alloc _ _)) (ext_alloc _ _)
  clear hw2
  refine (refused_nil (HN.out.ext HX.out)).mono ?_
  rintro e w9 ⟨rfl, rfl⟩
  go_wp2_with fail
  go_ret
  exact ⟨rfl, HX.out⟩
theorem sync_nil {w : World} {o : Option Addr} (hN : NoDisk w (.pointer o)) (s : ByteArray) : Calls Try.prog 25 #[.pointer o, .string s] w fun e w' => e = .returned (.int .i64 1) ∧ Below w.heap.size w w' := by
  have HN := Lib.hid hN
  clear hN
  go_enter Try.func25, Try.ntmps25
  go_wp2_with fail
  refine (lacks_any o s w).mono ?_
  rintro e w1 ⟨rfl, rfl⟩
  go_wp2_with fail
  obtain ⟨w2, hw2⟩ : ∃ w2, w2 = ((w.alloc (.cells #[.pointer o] 25)).alloc (.cells #[.string s] 9)).alloc (.cells #[.string s] 9) := ⟨_, rfl⟩
  rw [← hw2]
  have HX : Hid (Ext w w2) := by rw [hw2]; exact Ext.trans (Ext.trans (ext_alloc _ _) (ext_alloc _ _)) (ext_alloc _ _)
  clear hw2
  refine (refused_nil (HN.out.ext HX.out)).mono ?_
  rintro e w9 ⟨rfl, rfl⟩
  go_wp2_with fail
  go_ret
  exact ⟨rfl, HX.out⟩
theorem rename_nil {w : World} {o : Option Addr} (hN : NoDisk w (.pointer o)) (s u : ByteArray) : Calls Try.prog 30 #[.pointer o, .string s, .string u] w fun e w' => e = .returned (.int .i64 1) ∧ Below w.heap.size w w' := by
  have HN := Lib.hid hN
  clear hN
  go_enter Try.func30, Try.ntmps30
  go_wp2_with fail
  refine (lacks_any o s w).mono ?_
  rintro e w1 ⟨rfl, rfl⟩
  go_wp2_with fail
  obtain ⟨w2, hw2⟩ : ∃ w2, w2 = ((w.alloc (.cells #[.pointer o] 25)).alloc (.cells #[.string s] 9)).alloc (.cells #[.string s, .string u] 9) := ⟨_, rfl⟩
  rw [← hw2]
  have HX : Hid (Ext w w2) := by rw [hw2]; exact Ext.trans (Ext.trans (ext_alloc _ _) (ext_alloc _ _)) (ext_alloc _ _)
  clear hw2
  refine (refused_nil (HN.out.ext HX.out)).mono ?_
  rintro e w9 ⟨rfl, rfl⟩
  go_wp2_with fail
  go_ret
  exact ⟨rfl, HX.out⟩
theorem append_nil {w : World} {o : Option Addr} (hN : NoDisk w (.pointer o)) (s : ByteArray) : Calls Try.prog 27 #[.pointer o, .string s, .slice none 0 0] w fun e w' => e = .returned (.int .i64 1) ∧ Below w.heap.size w w' := by
  have HN := Lib.hid hN
  clear hN
  go_enter Try.func27, Try.ntmps27
  go_wp2_with fail
  obtain ⟨w2, hw2⟩ : ∃ w2, w2 = (((w.alloc (.cells #[.pointer o] 25)).alloc (.cells #[.string s] 9)).alloc (.cells #[.slice none 0 0] 35)).alloc (.cells #[.string s] 9) := ⟨_, rfl⟩
  rw [← hw2]
  have HX : Hid (Ext w w2) := by rw [hw2]; exact Ext.trans (Ext.trans (Ext.trans (ext_alloc _ _) (ext_alloc _ _)) (ext_alloc _ _)) (ext_alloc _ _)
  clear hw2
  refine (refused_nil (HN.out.ext HX.out)).mono ?_
  rintro e w9 ⟨rfl, rfl⟩
  go_wp2_with fail
  go_ret
  exact ⟨rfl, HX.out⟩
theorem used_nil {w : World} {v : Value} (hN : NoDisk w v) : Calls Try.prog 32 #[v] w fun e w' => e = .returned (.int .i64 0) ∧ w = w' := by
  have HC := Lib.hid (none_yes hN)
  clear hN
  go_enter Try.func32, Try.ntmps32
  go_wp2_with fail
  refine Calls.mono HC.out ?_
  rintro e w' ⟨rfl, rfl⟩
  go_wp2_with fail
  go_ret
  exact ⟨rfl, rfl⟩
theorem room_nil {w : World} {v : Value} (hN : NoDisk w v) : Calls Try.prog 39 #[v] w fun e w' => e = .returned (.int .i64 0) ∧ w = w' := by
  have HC := Lib.hid (none_yes hN)
  clear hN
  go_enter Try.func39, Try.ntmps39
  go_wp2_with fail
  refine Calls.mono HC.out ?_
  rintro e w' ⟨rfl, rfl⟩
  go_wp2_with fail
  go_ret
  exact ⟨rfl, rfl⟩
theorem copy_nil {w : World} {v : Value} (hN : NoDisk w v) : Calls Try.prog 35 #[v] w fun e w' => e = .returned (.pointer none) ∧ w = w' := by
  have HC := Lib.hid (none_yes hN)
  clear hN
  go_enter Try.func35, Try.ntmps35
  go_wp2_with fail
  refine Calls.mono HC.out ?_
  rintro e w' ⟨rfl, rfl⟩
  go_wp2_with fail
  go_ret
  exact ⟨rfl, rfl⟩
theorem same_nil {w : World} {v : Value} (hN : NoDisk w v) : Calls Try.prog 26 #[v, .pointer none] w fun e w' => e = .returned (.bool true) ∧ w = w' := by
  have HC := Lib.hid (none_yes hN)
  have HD := Lib.hid (none_yes (w := w) (v := .pointer none) (.inl rfl))
  clear hN
  go_enter Try.func26, Try.ntmps26
  go_wp2_with fail
  refine Calls.mono HC.out ?_
  rintro e w' ⟨rfl, rfl⟩
  go_wp2_with fail
  refine Calls.mono HC.out ?_
  rintro e w' ⟨rfl, rfl⟩
  go_wp2_with fail
  refine Calls.mono HD.out ?_
  rintro e w' ⟨rfl, rfl⟩
  go_wp2_with fail
  go_ret
  exact ⟨rfl, rfl⟩
theorem same_not {w : World} {d : Nat} (h : IsDisk w d) : Calls Try.prog 26 #[.pointer (some ⟨d, 0, none⟩), .pointer none] w fun e w' => e = .returned (.bool false) ∧ w = w' := by
  have HC := Lib.hid (none_no h)
  have HD := Lib.hid (none_yes (w := w) (v := .pointer none) (.inl rfl))
  clear h
  go_enter Try.func26, Try.ntmps26
  go_wp2_with fail
  refine Calls.mono HC.out ?_
  rintro e w' ⟨rfl, rfl⟩
  go_wp2_with fail
  refine Calls.mono HD.out ?_
  rintro e w' ⟨rfl, rfl⟩
  go_wp2_with fail
  refine Calls.mono HC.out ?_
  rintro e w' ⟨rfl, rfl⟩
  go_wp2_with fail
  go_ret
  exact ⟨rfl, rfl⟩

end Go.Proofs.Ythcepihibnmgfaa
