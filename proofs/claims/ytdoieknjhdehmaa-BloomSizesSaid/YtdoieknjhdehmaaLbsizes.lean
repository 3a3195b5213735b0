/- BloomSizes: how many bytes a filter has is what the chapter says, for any number of keys. -/
import Derived.Test.YtdoieknjhdehmaaBknown
namespace Go.Proofs.Ytdoieknjhdehmaa.bloomSizes
open Go.ChangeShapes Go.WideShapes Go.ChangeAt Go.RowKit

set_option maxRecDepth 100000 in
theorem walk (w : World) (n : Int) (hn : (Lit.int .i64 n).wf = true) :
    Calls Try.prog 3 #[.int .i64 n] w fun e w' => e = .returned (.bool true) ∧ Below w.heap.size w w' := by
  obtain ⟨h1, h2⟩ := i64_wf hn
  have HS := Lib.hid (size_any n h1 h2 w)
  have HR := Lib.hid (rsize_any n h1 h2 w)
  clear hn h1 h2
  obtain ⟨N, hN⟩ : ∃ N, N = sizeI n := ⟨_, rfl⟩
  rw [← hN] at HS HR
  clear hN
  go_enter Try.func3, Try.ntmps3
  go_wp2_with fail
  refine Calls.mono HS.out ?_
  rintro e w1 ⟨rfl, rfl⟩
  go_wp2_with fail
  refine Calls.mono HR.out ?_
  rintro e w1 ⟨rfl, rfl⟩
  go_wp2_with fail
  refine (known_any w).mono ?_
  rintro e w1 ⟨rfl, hb⟩
  go_wp2_with fail
  go_ret
  exact ⟨rfl, hb⟩
end Go.Proofs.Ytdoieknjhdehmaa.bloomSizes
