/- The reference's Signed, Flag, Bytes. -/
import Derived.Test.YtfalpagimmaipaaRnum
namespace Go.Proofs.Ytfalpagimmaipaa
open Go.ChangeShapes Go.WideShapes Go.ChangeAt Go.RowKit

set_option maxHeartbeats 400000 in
theorem rbytes_any (v : Value) (lo hi : Nat) (l : List Nat) (w : World) (h : Bs w lo hi v l) (hhi : hi ≤ w.heap.size) (hl : l.length ≤ 1000000000000) :
    Calls Try.prog 45 #[v] w (NewBy w (bytesForm l)) := by
  obtain ⟨i0, hi0, hz0, hz1, hz2⟩ := info_parts t5info
  have HI := Lib.hid hi0
  have h64 : U64 l.length := ⟨by omega⟩
  have hf := form_len64 h64
  have HL := Lib.hid hl
  have H := Lib.hid h
  have hlI : ((l.length : Nat) : Int) ≤ 1000000000000 := by omega
  obtain ⟨A, c, rfl, h1, h2, hnil, hby⟩ := h
  have HN := Lib.hid hnil
  clear hl h1 h2 hby hi0 hnil
  go_enter Try.func45, Try.ntmps45
  go_wp2_with fail
  refine (rnumber_any _ h64 _).mono ?_
  rintro e w1 ⟨v1, rfl, hown, hb⟩
  have hz := hb.size
  have g2 := Lib.hid (show Bs w1 lo hi (.slice A l.length c) l from H.out.below hb hhi)
  go_wp2_with (at_builtin; refine wpList_addall rfl (.tmp 6) (.tmp 7) 22 rfl w.heap.size 5 i0 (.int .u8 0) 1 Try.underlying22 HI.out hz0 hz1 hz2 rfl _ _ _ rfl hown lo hi A l.length c (bv l) rfl HN.out ?c2 ?c3 (bv_one l) ?c4 ?c5 ?c6 ?_)
  case c2 => exact bv_length l
  case c3 =>
    obtain ⟨A', c', he, _, _, _, h4⟩ := g2.out
    injection he with he1
    subst he1
    exact h4
  case c4 => have := HL.out; unfold maxLen; omega
  case c5 => have := HL.out; omega
  case c6 => exact hz
  intro v2 w2 hown2 hb2
  have HF : Hid (NewBy w (bytesForm l) (.returned v2) w2) := ⟨v2, rfl, by rw [bytesForm, bv_append, List.length_append]; exact hown2, hb2 _ hb⟩
  clear hown hown2 hb2
  go_wp2
  go_ret
  exact HF.out
end Go.Proofs.Ytfalpagimmaipaa
