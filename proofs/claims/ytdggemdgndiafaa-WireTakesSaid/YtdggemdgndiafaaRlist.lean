/- The reference's reader: a list of numbers. -/
import Derived.Test.YtdggemdgndiafaaRtext
namespace Go.Proofs.Ytdggemdgndiafaa
open Go.ChangeShapes Go.WideShapes Go.ChangeAt Go.RowKit

def RErrList (most : Int) (l : List Nat) (n : Int) : Prop := RErrCount most l n ∨ (n = 4 ∧ ∃ m mid, Begins l m mid ∧ (m : Int) ≤ most ∧ ∃ xs rest, xs.length < m ∧ AllNum mid xs rest ∧ NoNum rest)
def lenOf : Value → Nat
  | .slice _ n _ => n
  | _ => 0

def RIn (w : World) (q lo hi n : Nat) (mid : List Nat) (e v : Value) (wr : World) : Prop :=
  w.grownBy wr (some q) ∧ ((∃ (xs rest : List Nat), xs.length ≤ n ∧ e = .int .i64 0 ∧ AllNum mid xs rest ∧ Qd wr q lo hi rest ∧ wr.ownsRow w.heap.size 22 1 v xs.length (uv xs)) ∨
    (∃ (xs ys rest : List Nat), e = .int .i64 4 ∧ xs.length < n ∧ AllNum mid xs rest ∧ NoNum rest ∧ Qd wr q lo hi rest ∧ wr.ownsRow w.heap.size 22 1 v ys.length (uv ys) ∧ ys.length = xs.length + 1))

set_option maxHeartbeats 4000000 in
theorem RNumbers_any (most : Int) (hm1 : 0 ≤ most) (hm2 : most ≤ 9223372036854775807) (q lo hi : Nat) (l : List Nat) (w : World) (h : Qd w q lo hi l) (hl : l.length ≤ 1000000000000) :
    Calls Try.prog 55 #[.pointer (some ⟨q, 0, none⟩), .int .i64 most] w (QPost (.slice none 0 0) (OkList w.heap.size most l) (RErrList most l) w q lo hi l) := by
  obtain ⟨i0, hi0, ix0, ix1, ix2⟩ := info_parts t22info
  have HI := Lib.hid hi0
  have HC := Lib.hid (Rmany_any most hm1 hm2 q lo hi l w h)
  obtain ⟨A0, c0, h1, hlc, hcm, hnil, hby⟩ := h.room
  have e0 := h1.c0
  have g0 := h1.f0
  have HBS := Lib.hid (show Bs w lo hi (.slice A0 l.length c0) l from ⟨A0, c0, rfl, hlc, hcm, hnil, hby⟩)
  have HR := Lib.hid h
  have HL := Lib.hid hl
  have HQ := Lib.hid h.lt
  clear h h1 hlc hcm hnil hby hm1 hm2 hl hi0
  go_enter Try.func55, Try.ntmps55
  go_wp2_with fail
  refine Calls.mono HC.out ?_
  rintro e w1 ⟨hg, ⟨n, mid, hb, hle, rfl, hr⟩ | ⟨n, rest, hn, hn0, rfl, hrl, hr⟩⟩
  · have hlr : mid.length ≤ l.length := by have := congrArg List.length hb.eq; simp at this; omega
    have hn64 : n ≤ 18446744073709551615 := by have := hb.n64.lt; omega
    have HB := Lib.hid hb
    have HLE := Lib.hid hle
    have HML := Lib.hid hlr
    have HR1 := Lib.hid hr
    have HG1 := Lib.hid hg
    clear hb hle hlr hr hg
    go_wp2_with fail
    go_loopw [8, 9] (fun e v wr => RIn w q lo hi n mid e v wr) (fun e v _ => if intOf e = 0 then n + 1 - lenOf v else 0)
    case atStart => exact ⟨HG1.out, .inl ⟨[], mid, Nat.zero_le _, rfl, rfl, HR1.out, World.ownsRow_nil _ _ _ _⟩⟩
    case round =>
      obtain ⟨hg, ⟨xs, rest, hk, rfl, hall, hrd, hown⟩ | ⟨xs, ys, rest, rfl, hlt, hall, hno, hrd, hown, hys⟩⟩ := hrel
      · have hxl : xs.length ≤ 1000000000000 := by have := hall.len; have := HML.out; have := HL.out; omega
        obtain ⟨A, c, rfl, _, _, _, _⟩ := Sl.of_own hown
        have HRD := Lib.hid hrd
        have HO := Lib.hid hown
        have HG := Lib.hid hg
        have HA := Lib.hid hall
        have HXL := Lib.hid hxl
        clear hrd hown hg hall
        rename_i y1 y2 y3 y4
        clear y1 y2 y3 y4
        by_cases hlt : xs.length < n
        · have hd : decide (xs.length < n) = true := by simp [hlt]
          have hd2 : decide ((xs.length : Int) < (n : Int)) = true := by simp; omega
          have HLT := Lib.hid hlt
          go_wp2_with fail
          refine Calls.mono (RNumber_any q lo hi rest _ HRD.out) ?_
          rintro e w2 (⟨v, rest', ⟨x, hbx, rfl⟩, rfl, hrd2, hg2⟩ | ⟨k, ⟨rfl, hno⟩, _, rfl, hrd2, hg2⟩)
          · have HRD2 := Lib.hid hrd2
            have HG2 := Lib.hid (grownBy_trans HG.out hg2)
            have hown2 := own_grown HO.out hg2 HQ.out
            have hz2' : w.heap.size ≤ w2.heap.size := HG2.out.size
            have HALL := Lib.hid (HA.out.snoc hbx)
            clear hrd2 hg2 hbx
            go_wp2_with (at_builtin; refine wpList_push rfl (.tmp 36) (.tmp 38) 54 rfl w.heap.size 22 i0 (.int .u64 0) 8 Try.underlying54 HI.out ix0 ix1 ix2 rfl _ _ _ rfl hown2 _ rfl rfl ?c3 ?c4 hz2' ?_)
            case c3 => unfold maxLen; omega
            case c4 => omega
            intro v3 w3 hown3 hb3
            have HB3 := Lib.hid (hb3 _ (Below.refl _ _))
            have hown4 : w3.ownsRow w.heap.size 22 1 v3 (xs ++ [x]).length (uv (xs ++ [x])) := by simpa [uv] using hown3
            have HO4 := Lib.hid hown4
            have HV3 := Lib.hid (show lenOf v3 = xs.length + 1 by obtain ⟨_, _, rfl, _⟩ := Sl.of_own hown3; rfl)
            clear hown3 hown2 hown4 hb3
            go_wp2_with fail
            go_roundw
            case rel => exact ⟨grownBy_below HG2.out HB3.out, .inl ⟨xs ++ [x], rest', by simp; omega, rfl, HALL.out, HRD2.out.below HB3.out HR.out.top HQ.out, HO4.out⟩⟩
            case measure => simp [intOf, HV3.out]; simp [lenOf]; omega
          · have HRD2 := Lib.hid hrd2
            have HNO := Lib.hid hno
            have HG2 := Lib.hid (grownBy_trans HG.out hg2)
            have hown2 := own_grown HO.out hg2 HQ.out
            have hz2' : w.heap.size ≤ w2.heap.size := HG2.out.size
            clear hrd2 hg2 hno
            go_wp2_with (at_builtin; refine wpList_push rfl (.tmp 36) (.tmp 38) 54 rfl w.heap.size 22 i0 (.int .u64 0) 8 Try.underlying54 HI.out ix0 ix1 ix2 rfl _ _ _ rfl hown2 _ rfl rfl ?c3 ?c4 hz2' ?_)
            case c3 => unfold maxLen; omega
            case c4 => omega
            intro v3 w3 hown3 hb3
            have HB3 := Lib.hid (hb3 _ (Below.refl _ _))
            have hown4 : w3.ownsRow w.heap.size 22 1 v3 (xs ++ [0]).length (uv (xs ++ [0])) := by simpa [uv] using hown3
            have HO4 := Lib.hid hown4
            clear hown3 hown2 hown4 hb3
            go_wp2_with fail
            go_roundw
            case rel => exact ⟨grownBy_below HG2.out HB3.out, .inr ⟨xs, xs ++ [0], rest, rfl, HLT.out, HA.out, HNO.out, HRD2.out.below HB3.out HR.out.top HQ.out, HO4.out, by simp⟩⟩
            case measure => simp [intOf, lenOf]; omega
        · have hd : decide (xs.length < n) = false := by simp; omega
          have hd2 : decide ((xs.length : Int) < (n : Int)) = false := by simp; omega
          have hn : n = xs.length := by omega
          have HF : Hid (QPost (.slice none 0 0) (OkList w.heap.size most l) (RErrList most l) w q lo hi l (.returned (.tuple #[.slice A xs.length c, .int .i64 0])) wr) :=
            .inl ⟨_, rest, ⟨xs, mid, by rw [← hn]; exact HB.out, by rw [← hn]; exact HLE.out, HA.out, HO.out⟩, rfl, HRD.out, HG.out⟩
          clear hn hlt
          go_wp2_with fail
          go_ret2
          exact HF.out
      · obtain ⟨A, c, rfl, _, _, _, _⟩ := Sl.of_own hown
        rename_i y1 y2 y3 y4
        clear y1 y2 y3 y4
        obtain ⟨vq, hvq, _⟩ := hrd.ex
        have c1 := hvq.c0
        have f1 := hvq.f0
        have hyl : ys.length ≤ 1000000000001 := by have := hall.len; have := HML.out; have := HL.out; omega
        have HF : Hid (QPost (.slice none 0 0) (OkList w.heap.size most l) (RErrList most l) w q lo hi l (.returned (.tuple #[.slice none 0 0, .int .i64 4])) (wr.setCell ⟨q, 0, none⟩ (.slice A0 l.length c0))) :=
          .inr ⟨4, .inr ⟨rfl, n, mid, HB.out, HLE.out, xs, rest, hlt, hall, hno⟩, by decide, rfl, HR.out.back HBS.out hg hrd, grownBy_trans hg (grownBy_set _ _ _ _)⟩
        clear hvq hlt hall hno hrd hown hg
        by_cases hlt : ys.length < n
        · have hd : decide (ys.length < n) = true := by simp [hlt]
          have hd2 : decide ((ys.length : Int) < (n : Int)) = true := by simp; omega
          clear hlt hys
          go_wp2_with fail
          go_ret2
          exact HF.out
        · have hd : decide (ys.length < n) = false := by simp; omega
          have hd2 : decide ((ys.length : Int) < (n : Int)) = false := by simp; omega
          clear hlt hys
          go_wp2_with fail
          go_ret2
          exact HF.out
  · have hnb : (n != 0) = true := by simpa using hn0
    have hnq : (n == 0) = false := by simpa using hn0
    obtain ⟨vq, hvq, _⟩ := hr.ex
    have c1 := hvq.c0
    have f1 := hvq.f0
    have HF : Hid (QPost (.slice none 0 0) (OkList w.heap.size most l) (RErrList most l) w q lo hi l (.returned (.tuple #[.slice none 0 0, .int .i64 n])) (w1.setCell ⟨q, 0, none⟩ (.slice A0 l.length c0))) :=
      .inr ⟨n, .inl hn, hn0, rfl, HR.out.back HBS.out hg hr, grownBy_trans hg (grownBy_set _ _ _ _)⟩
    clear hn hn0 hrl hr hg hvq
    go_wp2_with fail
    go_loopw [8, 9] (fun e v wr => e = .int .i64 n ∧ v = .slice none 0 0 ∧ wr = w1) (fun _ _ _ => 0)
    case atStart => exact ⟨rfl, rfl, rfl⟩
    case round =>
      obtain ⟨rfl, rfl, rfl⟩ := hrel
      go_wp2_with fail
      go_ret2
      exact HF.out
end Go.Proofs.Ytdggemdgndiafaa
