/- The method Bytes: the closure that it hands to whole. -/
import Derived.Test.YtcofnbeemfhcpaaWtext
namespace Go.Proofs.Ytcofnbeemfhcpaa
open Go.ChangeShapes Go.WideShapes Go.ChangeAt Go.RowKit

theorem grown_alloc {w w' : World} {o : Obj} {row : Option Nat} (h : (w.alloc o).grownBy w' row) : w.grownBy w' row :=
  ⟨h.os, h.tape, h.output, by have := h.size; simp at this; omega, fun i hi hne => (h.block i (by simp; omega) hne).trans (Below.heap_alloc w o i hi)⟩

theorem WholePost.weaken {zero : Value} {ok ok' : Value → List Nat → World → Prop} {err err' : Int → Prop} {w wa : World} {r lo hi : Nat} {l : List Nat} (hok : ∀ v rest w', ok v rest w' → ok' v rest w') (herr : ∀ n, err n → err' n)
    (hg : ∀ w', wa.grownBy w' (some r) → w.grownBy w' (some r)) {e : Ending} {w' : World} (h : WholePost zero ok err wa r lo hi l e w') : WholePost zero ok' err' w r lo hi l e w' := by
  rcases h with ⟨v, rest, h1, h2, h3, h4⟩ | ⟨n, h1, h2, h3, h4, h5⟩
  · exact .inl ⟨v, rest, hok _ _ _ h1, h2, h3, hg _ h4⟩
  · exact .inr ⟨n, herr _ h1, h2, h3, h4, hg _ h5⟩

theorem mkf (fn : Fn) (first cap : Array Value) (w : World) : (Instr.makeFunc fn first cap).run Try.prog w = .ok (.func fn first cap) w := rfl

set_option maxHeartbeats 400000 in
theorem bytes_clo (p : Nat) (most : Int) (hm1 : -9223372036854775808 ≤ most) (hm2 : most ≤ 9223372036854775807) (r lo hi : Nat) (l : List Nat) (w : World) (h : Rd w r lo hi l) (hl : l.length ≤ 1000000000000)
    (hp : w.cell? ⟨p, 0, none⟩ = some (.int .i64 most)) :
    Calls Try.prog 27 #[.pointer (some ⟨r, 0, none⟩), .pointer (some ⟨p, 0, none⟩)] w (LoosePost (OkText w.heap.size most l) (ErrText most l) w r lo hi) := by
  have HC := Lib.hid (text_loose most hm1 hm2 r lo hi l w h hl)
  clear h hl hm1 hm2
  go_enter Try.func27, Try.ntmps27
  go_wp2_with fail
  refine Calls.mono HC.out ?_
  rintro e w1 (⟨v1, rest, hv, rfl, hrd, hg⟩ | ⟨v1, n, hn, hn0, rfl, hg⟩)
  · have HF : Hid (LoosePost (OkText w.heap.size most l) (ErrText most l) w r lo hi (.returned (.tuple #[v1, .int .i64 0])) w1) := .inl ⟨v1, rest, hv, rfl, hrd, hg⟩
    clear hv hrd hg
    go_wp2_with fail
    go_ret2
    exact HF.out
  · have HF : Hid (LoosePost (OkText w.heap.size most l) (ErrText most l) w r lo hi (.returned (.tuple #[v1, .int .i64 n])) w1) := .inr ⟨v1, n, hn, hn0, rfl, hg⟩
    clear hn hn0 hg
    go_wp2_with fail
    go_ret2
    exact HF.out

set_option maxHeartbeats 400000 in
theorem Bytes_any (most : Int) (hm1 : -9223372036854775808 ≤ most) (hm2 : most ≤ 9223372036854775807) (r lo hi : Nat) (l : List Nat) (w : World) (h : Rd w r lo hi l) (hl : l.length ≤ 1000000000000) :
    Calls Try.prog 19 #[.pointer (some ⟨r, 0, none⟩), .int .i64 most] w (WholePost (.slice none 0 0) (OkText w.heap.size most l) (ErrText most l) w r lo hi l) := by
  have hmf := mkf
  have HC := Lib.hid (whole_bytes w.heap.size (OkText (w.heap.size + 3) most l) (ErrText most l) r lo hi l (w.alloc (.cells #[.int .i64 most] 3)) (h.alloc _)
    (holds_text _ _ _ _ (by simp)) (fun v hv => by
      have hc := bytes_clo w.heap.size most hm1 hm2 _ lo hi l _ hv hl (by
        rw [World.cell?_alloc_past _ _ _ (by simp; omega), World.cell?_alloc_past _ _ _ (by simp), World.cell?_alloc_at _ _ _ _ rfl]; rfl)
      simpa using hc))
  clear h hm1 hm2 hl
  go_enter Try.func19, Try.ntmps19
  go_wp2_with fail
  refine Calls.mono HC.out ?_
  intro e w1 hpost
  have hpost := WholePost.weaken (ok' := OkText w.heap.size most l) (err' := ErrText most l) (w := w)
    (fun v rest w' => by rintro ⟨bs, h1, h2, h3, h4⟩; exact ⟨bs, h1, h2, h3, own_lower h4 (by omega)⟩) (fun _ h => h) (fun w' hg => grown_alloc hg) hpost
  have HP := Lib.hid hpost
  rcases hpost with ⟨v1, rest, _, rfl, _, _⟩ | ⟨n, _, _, rfl, _, _⟩
  · go_wp2_with fail
    go_ret2
    exact HP.out
  · go_wp2_with fail
    go_ret2
    exact HP.out
end Go.Proofs.Ytcofnbeemfhcpaa
