/- slices.Clone at bytes. -/
import Derived.Test.YtdoieknjhdehmaaWords
import Derived.WalkLawsBesides
import Derived.WalkSpells
namespace Go.Proofs.Ytdoieknjhdehmaa
open Go.RowKit
theorem nilq (A : Option Addr) (n c : Nat) (w : World) : (binOp .eql 25 (.slice A n c) (.slice none 0 0)).run Try.prog w = .ok (.bool A.isNone) w := Lib.run_eql_slice_nil w _ _ A n c 0 0 Try.underlying25

theorem own_empty (w : World) (e : TypeId) : (w.alloc (.cells #[] e)).ownsRow w.heap.size e 1 (.slice (some ⟨w.heap.size, 0, none⟩) 0 0) 0 [] :=
  ⟨by simp, .inr ⟨w.heap.size, 0, _, rfl, Nat.le_refl _, heap_alloc_new w _, Nat.le_refl _, by simp [maxLen], by simp, by simp⟩⟩

set_option maxHeartbeats 400000 in
theorem clone_any (v : Value) (lo hi : Nat) (l : List Nat) (w : World) (h : Bs w lo hi v l) (hhi : hi ≤ w.heap.size) (hl : l.length ≤ 1099511627776) :
    Calls Try.prog 33 #[v] w (NewBy w l) := by
  obtain ⟨i0, hi0, hz0, hz1, hz2⟩ := info_parts t5info
  have HI := Lib.hid hi0
  clear hi0
  obtain ⟨A, c, rfl, h1, h2, hnil, hby⟩ := h
  rcases A with _ | a
  · obtain rfl := hnil rfl
    have hl0 : l = [] := by simpa using h1
    subst hl0
    have hq := nilq none 0 0
    clear h1 h2 hl
    go_enter Try.func33, Try.ntmps33
    go_wp2_with fail
    go_ret
    exact ⟨_, rfl, World.ownsRow_nil _ _ _ _, Below.refl _ _⟩
  · have hq := fun n => nilq (some a) n c
    have HL := Lib.hid hl
    clear h1 h2 hl hnil
    go_enter Try.func33, Try.ntmps33
    go_wp2_with (at_builtin; refine wpList_addall rfl (.tmp 5) (.tmp 6) 25 rfl w.heap.size 5 i0 (.int .u8 0) 1 Try.underlying25 HI.out hz0 hz1 hz2 rfl _ _ _ rfl (own_empty w _) lo hi (some a) l.length c (bv l) rfl ?c1 ?c2 ?c3 (bv_one l) ?c4 ?c5 ?c6 ?_)
    case c1 => intro h; cases h
    case c2 => exact bv_length l
    case c3 => exact Sl.alloc hby hhi _
    case c4 => have := HL.out; unfold maxLen; omega
    case c5 => have := HL.out; omega
    case c6 => simp
    intro v1 w1 hown1 hb1
    go_wp2
    go_ret
    exact ⟨v1, rfl, by simpa using hown1, hb1 _ ((Below.refl _ _).alloc (Nat.le_refl _) _)⟩
end Go.Proofs.Ytdoieknjhdehmaa
