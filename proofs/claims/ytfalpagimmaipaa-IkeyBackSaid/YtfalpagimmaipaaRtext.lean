/- The reference's reader: bytes. -/
import Derived.Test.YtfalpagimmaipaaRnumb
namespace Go.Proofs.Ytfalpagimmaipaa
open Go.ChangeShapes Go.WideShapes Go.ChangeAt Go.RowKit

theorem Qd.back {w w' : World} {q lo hi : Nat} {l rest : List Nat} {v : Value} (h0 : Qd w q lo hi l) (hv : Bs w lo hi v l) (hg : w.grownBy w' (some q)) (h : Qd w' q lo hi rest) :
    Qd (w'.setCell ⟨q, 0, none⟩ v) q lo hi l := by
  obtain ⟨v', h1, _⟩ := h.ex
  have hap := h0.apart
  have ht := h.top
  exact ⟨⟨v, h1.set v, (hv.grown hg h0.top (fun k hk => by injection hk with hk; omega)).setCell (by simpa using hap) _⟩, hap, by simpa [World.setCell] using ht, h0.byt⟩
theorem Qd.room {w : World} {q lo hi : Nat} {l : List Nat} (h : Qd w q lo hi l) : ∃ A c, QObj w q (.slice A l.length c) ∧ l.length ≤ c ∧ c ≤ maxLen ∧ (A = none → c = 0) ∧ By w lo hi A l := by
  obtain ⟨v, h1, A, c, rfl, h2, h3, h4, h5⟩ := h.ex
  exact ⟨A, c, h1, h2, h3, h4, h5⟩
theorem QObj.below {w w' : World} {q B : Nat} {v : Value} (h : QObj w q v) (hb : Below B w w') (hq : q < B) : QObj w' q v := (hb.block q hq).trans h

def RErrText (most : Int) (l : List Nat) (n : Int) : Prop := RErrCount most l n ∨ (n = 4 ∧ ∃ m rest, Begins l m rest ∧ (m : Int) ≤ most ∧ rest.length < m)

set_option maxHeartbeats 2000000 in
theorem RBytes_any (most : Int) (hm1 : 0 ≤ most) (hm2 : most ≤ 9223372036854775807) (q lo hi : Nat) (l : List Nat) (w : World) (h : Qd w q lo hi l) (hl : l.length ≤ 1000000000000) :
    Calls Try.prog 56 #[.pointer (some ⟨q, 0, none⟩), .int .i64 most] w (QPost (.slice none 0 0) (OkText w.heap.size most l) (RErrText most l) w q lo hi l) := by
  obtain ⟨i0, hi0, ix0, ix1, ix2⟩ := info_parts t5info
  have HI := Lib.hid hi0
  have HC := Lib.hid (Rmany_any most hm1 hm2 q lo hi l w h)
  obtain ⟨A0, c0, h1, hlc, hcm, hnil, hby⟩ := h.room
  have e0 := h1.c0
  have g0 := h1.f0
  have HBS := Lib.hid (show Bs w lo hi (.slice A0 l.length c0) l from ⟨A0, c0, rfl, hlc, hcm, hnil, hby⟩)
  have HR := Lib.hid h
  have HL := Lib.hid hl
  have HQ := Lib.hid h.lt
  clear h h1 hlc hcm hnil hby hm1 hm2 hl hi0
  go_enter Try.func56, Try.ntmps56
  go_wp2_with fail
  refine Calls.mono HC.out ?_
  rintro e w1 ⟨hg, ⟨n, rest, hb, hle, rfl, hr⟩ | ⟨n, rest, hn, hn0, rfl, hrl, hr⟩⟩
  · obtain ⟨A, c, h1, hlc, hcm, hnil, hby⟩ := hr.room
    have e1 := h1.c0
    have g1 := h1.f0
    have hlr : rest.length ≤ l.length := by have := congrArg List.length hb.eq; simp at this; omega
    have hlI : (rest.length : Int) ≤ 1000000000000 := by have := HL.out; omega
    have HH1 := Lib.hid h1
    have HR1 := Lib.hid hr
    have HB := Lib.hid hb
    have HG := Lib.hid hg
    have HLC := Lib.hid hlc
    have HCM := Lib.hid hcm
    have HNL := Lib.hid hnil
    have HBY := Lib.hid hby
    have HLE := Lib.hid hle
    clear h1 hr hb hg hlc hcm hnil hby hlr hle
    by_cases hlt : rest.length < n
    · have hd : decide (rest.length < n) = true := by simp [hlt]
      have hd2 : decide ((rest.length : Int) < (n : Int)) = true := by simp; omega
      have HF : Hid (QPost (.slice none 0 0) (OkText w.heap.size most l) (RErrText most l) w q lo hi l (.returned (.tuple #[.slice none 0 0, .int .i64 4])) (w1.setCell ⟨q, 0, none⟩ (.slice A0 l.length c0))) :=
        .inr ⟨4, .inr ⟨rfl, n, rest, HB.out, HLE.out, hlt⟩, by decide, rfl, HR.out.back HBS.out HG.out HR1.out, grownBy_trans HG.out (grownBy_set _ _ _ _)⟩
      go_wp2_with fail
      go_ret2
      exact HF.out
    · have hd : decide (rest.length < n) = false := by simp; omega
      have hd2 : decide ((rest.length : Int) < (n : Int)) = false := by simp; omega
      obtain ⟨A1, hA1, hA1n, hrun1⟩ := head_run .u64 A rest.length c n (by omega) HLC.out
      obtain ⟨A2, hA2, hA2n, hrun2⟩ := tail_run' .u64 A rest.length c n (by omega) HLC.out
      have hnl : (rest.take n).length = n := by simp; omega
      have hn12 : n ≤ 1000000000000 := by omega
      have H2 := Lib.hid hA2
      have H2n := Lib.hid (fun h => HNL.out (hA2n h))
      have HA1 := Lib.hid (hA1 rest rfl w1 lo hi HBY.out)
      have HN1 := Lib.hid (fun h => HNL.out (hA1n h))
      have HLT := Lib.hid hlt
      have HNL2 := Lib.hid hnl
      clear hA1 hA1n hA2 hA2n hlt hnl
      go_wp2_with (at_builtin; refine wpList_addall rfl (.const (.slice none 0 0)) (.tmp 44) 22 rfl w1.heap.size 5 i0 (.int .u8 0) 1 Try.underlying22 HI.out ix0 ix1 ix2 rfl _ _ _ rfl (World.ownsRow_nil _ _ _ _) lo hi A1 n c (bv (rest.take n)) rfl HN1.out (by rw [bv_length]; exact HNL2.out) HA1.out (bv_one _) (by unfold maxLen; omega) (by omega) (Nat.le_refl _) ?_)
      intro v2 w2 hown hbel
      have hbel := hbel w1 (Below.refl _ _)
      have e2 := (HH1.out.below hbel HH1.out.lt).c0
      have g2 := (HH1.out.below hbel HH1.out.lt).f0
      have HH2 := Lib.hid (HH1.out.below hbel HH1.out.lt)
      have HR2 := Lib.hid (HR1.out.below hbel HR1.out.top HR1.out.lt)
      have HOWN := Lib.hid (show w2.ownsRow w1.heap.size 5 1 v2 (rest.take n).length (bv (rest.take n)) by simpa [HNL2.out] using hown)
      have HBEL := Lib.hid hbel
      clear hown hbel e1 g1
      have hby2 : By w2 lo hi A rest := Sl.below HBY.out HBEL.out HR1.out.top
      have hrd := qd_cut (c2 := c - n) n HR2.out HH2.out (by have := HLC.out; omega) (by have := HCM.out; omega) (fun h => by have := H2n.out h; omega) (H2.out rest rfl _ _ _ hby2)
      have hsz := HG.out.size
      have HF : Hid (QPost (.slice none 0 0) (OkText w.heap.size most l) (RErrText most l) w q lo hi l (.returned (.tuple #[v2, .int .i64 0])) (w2.setCell ⟨q, 0, none⟩ (.slice A2 (rest.length - n) (c - n)))) := by
        refine .inl ⟨_, rest.drop n, ⟨rest.take n, by rw [HNL2.out]; exact HLE.out, by rw [HNL2.out]; exact HB.out.n64, ?_, ?_⟩, rfl, hrd, grownBy_trans (grown_then HG.out HBEL.out) (grownBy_set _ _ _ _)⟩
        · unfold bytesForm
          rw [HNL2.out, List.append_assoc, List.take_append_drop]
          exact HB.out.eq
        · exact own_lower (ownsRow_setCell_below HOWN.out (by have := HQ.out; show q < _; omega) _) hsz
      clear hrd hby2 hsz
      go_wp2_with fail
      go_ret2
      exact HF.out
  · have hnb : (n != 0) = true := by simpa using hn0
    have hnq : (n == 0) = false := by simpa using hn0
    have h1 : ∃ v, QObj w1 q v := by obtain ⟨v, h, _⟩ := hr.ex; exact ⟨v, h⟩
    obtain ⟨v, h1⟩ := h1
    have e1 := h1.c0
    have g1 := h1.f0
    have HF : Hid (QPost (.slice none 0 0) (OkText w.heap.size most l) (RErrText most l) w q lo hi l (.returned (.tuple #[.slice none 0 0, .int .i64 n])) (w1.setCell ⟨q, 0, none⟩ (.slice A0 l.length c0))) :=
      .inr ⟨n, .inl hn, hn0, rfl, HR.out.back HBS.out hg hr, grownBy_trans hg (grownBy_set _ _ _ _)⟩
    clear hn hn0 hrl hr hg h1
    go_wp2_with fail
    go_ret2
    exact HF.out
end Go.Proofs.Ytfalpagimmaipaa
