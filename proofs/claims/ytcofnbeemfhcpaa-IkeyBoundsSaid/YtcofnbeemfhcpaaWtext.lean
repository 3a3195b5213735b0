/- The reader of bytes. -/
import Derived.Test.YtcofnbeemfhcpaaWmeth
namespace Go.Proofs.Ytcofnbeemfhcpaa
open Go.ChangeShapes Go.WideShapes Go.ChangeAt Go.RowKit

/-- Bytes that stand here, in new memory from block B on. -/
def OkText (B : Nat) (most : Int) (l : List Nat) (v : Value) (rest : List Nat) (w : World) : Prop :=
  ∃ bs : List Nat, (bs.length : Int) ≤ most ∧ U64 bs.length ∧ l = bytesForm bs ++ rest ∧ w.ownsRow B 5 1 v bs.length (bv bs)
def ErrText (most : Int) (l : List Nat) (n : Int) : Prop := ErrCount most l n ∨ (n = 4 ∧ ∃ m rest, Begins l m rest ∧ (m : Int) ≤ most ∧ rest.length < m)

theorem holds_text (B : Nat) (most : Int) (l : List Nat) (B' : Nat) (h : B' ≤ B) : Holds2 (OkText B most l) B' := by
  rintro v rest w b o u ⟨bs, h1, h2, h3, h4⟩ hb
  exact ⟨bs, h1, h2, h3, ownsRow_setCell_below h4 (by simpa using Nat.lt_of_lt_of_le hb h) u⟩

set_option maxHeartbeats 1000000 in
theorem text_loose (most : Int) (hm1 : -9223372036854775808 ≤ most) (hm2 : most ≤ 9223372036854775807) (r lo hi : Nat) (l : List Nat) (w : World) (h : Rd w r lo hi l) (hl : l.length ≤ 1000000000000) :
    Calls Try.prog 28 #[.pointer (some ⟨r, 0, none⟩), .int .i64 most] w (LoosePost (OkText w.heap.size most l) (ErrText most l) w r lo hi) := by
  have HC := Lib.hid (count_loose most hm1 hm2 r lo hi l w h)
  have HL := Lib.hid hl
  have HR0 := Lib.hid h
  clear h hm1 hm2 hl
  go_enter Try.func28, Try.ntmps28
  go_wp2_with fail
  refine Calls.mono HC.out ?_
  rintro e w1 (⟨v, rest, ⟨n, hb, hle, rfl⟩, rfl, hr, hg⟩ | ⟨v, n, hn, hn0, rfl, hg⟩)
  · obtain ⟨v1, h1, A, c, rfl, hlc, hcm, hnil, hby⟩ := hr.ex
    have c0 := h1.c0
    have f0 := h1.f0
    have hlr : rest.length ≤ l.length := by have := congrArg List.length hb.eq; simp at this; omega
    have hlI : (rest.length : Int) ≤ 1000000000000 := by have := HL.out; omega
    have H1 := Lib.hid h1
    have HR := Lib.hid hr
    have HB := Lib.hid hb
    have HG := Lib.hid hg
    have HLC := Lib.hid hlc
    have HCM := Lib.hid hcm
    have HLE := Lib.hid hle
    clear h1 hr hb hg hlc hcm hlr hle
    by_cases hlt : rest.length < n
    · have hd : decide (rest.length < n) = true := by simp [hlt]
      have hd2 : decide ((rest.length : Int) < (n : Int)) = true := by simp; omega
      have HF : Hid (LoosePost (OkText w.heap.size most l) (ErrText most l) w r lo hi (.returned (.tuple #[.slice none 0 0, .int .i64 4])) w1) := .inr ⟨_, 4, .inr ⟨rfl, n, rest, HB.out, HLE.out, hlt⟩, by decide, rfl, HG.out⟩
      go_wp2_with fail
      go_ret2
      exact HF.out
    · have hd : decide (rest.length < n) = false := by simp; omega
      have hd2 : decide ((rest.length : Int) < (n : Int)) = false := by simp; omega
      obtain ⟨A1, hA1, hA1n, hrun1⟩ := head_run .u64 A rest.length c n (by omega) HLC.out
      obtain ⟨A2, hA2, hA2n, hrun2⟩ := tail_run' .u64 A rest.length c n (by omega) HLC.out
      have hnl : (rest.take n).length = n := by simp; omega
      have hbs1 : Bs w1 lo hi (.slice A1 n c) (rest.take n) := ⟨A1, c, by rw [hnl], by rw [hnl]; have := HLC.out; omega, HCM.out, fun h => hnil (hA1n h), hA1 rest rfl _ _ _ hby⟩
      have HK := Lib.hid (clone_any _ lo hi _ w1 hbs1 HR.out.top (by have := HL.out; omega))
      have H2 := Lib.hid (hA2 rest rfl w1 lo hi hby)
      have H2n := Lib.hid (fun h => hnil (hA2n h))
      clear hbs1 hA1 hA1n hA2 hA2n hby hnil
      go_wp2_with fail
      refine Calls.mono HK.out ?_
      rintro e w2 ⟨v2, rfl, hown, hbel⟩
      have hsz := HG.out.size
      have hr1 : Rd w2 r lo hi rest := HR.out.below hbel HR.out.top HR.out.lt
      have h2 : RObj w2 r (.slice A rest.length c) true := H1.out.below hbel HR.out.lt
      have hfin : LoosePost (OkText w.heap.size most l) (ErrText most l) w r lo hi (.returned (.tuple #[v2, .int .i64 0])) (w2.setCell ⟨r, 0, none⟩ (.slice A2 (rest.length - n) (c - n))) := by
        have hlc := HLC.out
        have hcm := HCM.out
        have hrlt := HR0.out.lt
        refine .inl ⟨v2, rest.drop n, ⟨rest.take n, by rw [hnl]; exact HLE.out, by rw [hnl]; exact HB.out.n64, ?_, ?_⟩, rfl, rd_cut n hr1 h2 (by omega) (by omega) (fun h => by have := H2n.out h; omega) (Sl.below H2.out hbel HR.out.top), ?_⟩
        · unfold bytesForm
          rw [hnl, List.append_assoc, List.take_append_drop]
          exact HB.out.eq
        · exact ownsRow_setCell_below (own_lower hown hsz) (by simpa using hrlt) _
        · have g1 := HG.out
          refine ⟨hbel.os.trans g1.os, hbel.tape.trans g1.tape, hbel.output.trans g1.output, ?_, fun i hi hne => ?_⟩
          · have := hbel.size; simp [World.setCell]; omega
          · rw [Below.heap_setCell _ _ _ _ (by rintro rfl; exact hne rfl), hbel.block i (by omega)]
            exact g1.block i hi hne
      have HF := Lib.hid hfin
      have c0' := h2.c0
      have f0' := h2.f0
      obtain ⟨A3, c3, rfl, _, _, _, _⟩ := Sl.of_own hown
      rw [hnl] at HF
      clear hfin hr1 h2 hown
      go_wp2_with fail
      go_ret2
      exact HF.out
  · have HF : Hid (LoosePost (OkText w.heap.size most l) (ErrText most l) w r lo hi (.returned (.tuple #[.slice none 0 0, .int .i64 n])) w1) := .inr ⟨_, n, .inl hn, hn0, rfl, hg⟩
    have hn0' : (n != 0) = true := by simpa using hn0
    clear hn hg hn0
    go_wp2_with fail
    go_ret2
    exact HF.out
end Go.Proofs.Ytcofnbeemfhcpaa
