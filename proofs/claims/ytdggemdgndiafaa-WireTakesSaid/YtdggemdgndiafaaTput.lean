/- wire.Put at [2]uint64. -/
import Derived.Test.YtdggemdgndiafaaTtake
namespace Go.Proofs.Ytdggemdgndiafaa
open Go.ChangeShapes Go.WideShapes Go.ChangeAt Go.RowKit

set_option maxHeartbeats 2000000 in
theorem PutTwo_any (A : Option Addr) (c lo hi : Nat) (xs : List (Nat × Nat)) (n : Nat) (hn : n = xs.length) (w : World) (h : Sl w lo hi A (uv2 xs)) (hhi : hi ≤ w.heap.size)
    (hU : Two64 xs) (hl : xs.length ≤ 3000) :
    Calls Try.prog 35 #[.slice A n c, .func (.func 36) #[] #[]] w (PutBy w (pairsForm xs)) := by
  subst hn
  obtain ⟨i0, hi0, hz0, hz1, hz2⟩ := info_parts t5info
  have HI := Lib.hid hi0
  have hfn := fnil2p
  have h64 : U64 xs.length := ⟨by omega⟩
  have HP := Lib.hid (fun k h => pre2_len xs hU hl (k := k) h)
  have HU := Lib.hid hU
  have hlI : (xs.length : Int) ≤ 3000 := by omega
  have hw1 : IntKind.u64.wrap (xs.length : Int) = (xs.length : Int) := by rw [IntKind.wrap_u64]; omega
  have HLL := Lib.hid hl
  have HS0 := Lib.hid h
  clear hi0 hU hl h
  go_enter Try.func35, Try.ntmps35
  go_wp2_with fail
  refine (number_any _ h64 _).mono ?_
  rintro e w1 ⟨v1, rfl, hown1, hb1⟩
  go_wp2_with fail
  go_loopw [6, 8, 17] (fun v _ i wr => ∃ k : Nat, k ≤ xs.length ∧ i = .int .i64 (k : Int) ∧ Hid (wr.ownsRow w.heap.size 5 1 v (pre2 xs k).length (bv (pre2 xs k))) ∧ Hid (Below w.heap.size w wr)) (fun _ _ i _ => xs.length - (intOf i).toNat)
  case atStart => exact ⟨0, Nat.zero_le _, rfl, Lib.hid (by rw [pre2_zero]; exact hown1), Lib.hid hb1⟩
  case round =>
    clear hown1 hb1
    obtain ⟨k, hk, rfl, HOWN, HB⟩ := hrel
    have hsz := HB.out.size
    by_cases hlt : k < xs.length
    · obtain ⟨b, o, rfl, hc0, hc1⟩ := uv2_at (HS0.out.below HB.out hhi) hlt
      have hd : decide (k < xs.length) = true := by simp [hlt]
      have hd2 : decide ((k : Int) < (xs.length : Int)) = true := by simp; omega
      have hb2 : (k : Int) + 1 ≤ 9223372036854775807 := by omega
      have HX := Lib.hid (HU.out xs[k] (List.getElem_mem hlt))
      have HS := Lib.hid (pre2_succ xs hlt)
      have HL2 := Lib.hid (HP.out (k + 1) hlt)
      obtain ⟨x, y, hxy⟩ : ∃ x y, xs[k] = (x, y) := ⟨_, _, rfl⟩
      rw [hxy] at HX HS hc0 hc1
      have HF := Lib.hid (form_any x y HX.out.1 HX.out.2 (wr.alloc (.cells #[.int .u64 (x : Int), .int .u64 (y : Int)] 70)))
      obtain ⟨F, hF⟩ : ∃ F, F = form x ++ form y := ⟨_, rfl⟩
      rw [← hF] at HF
      have HFE : Hid (form2 (x, y) = F) := hF.symm
      simp only at hc0 hc1
      clear hxy hF
      go_wp2_with fail
      refine Calls.mono HF.out ?_
      rintro e w2 ⟨v2, rfl, hown2, hb2'⟩
      have hbel : Below wr.heap.size wr w2 := ((Below.refl _ _).alloc (Nat.le_refl _) _).trans (hb2'.mono (by simp))
      have HO2 := Lib.hid (own_below HOWN.out hbel)
      have hz2' := hbel.size
      have HB2 := Lib.hid (HB.out.trans (hbel.mono hsz))
      obtain ⟨A2, c2, rfl, _, _, hnil2, hby2⟩ := Bs.of_own hown2
      have HN2 := Lib.hid hnil2
      have HY2 := Lib.hid hby2
      rename_i y1 y2
      clear hown2 hb2' hbel hnil2 hby2 y1 y2
      have hPL : (pre2 xs k).length + F.length ≤ 70000 := by
        have := HL2.out; rw [HS.out, List.length_append, HFE.out] at this; omega
      go_wp2_with (at_builtin; refine wpList_addall rfl (.tmp 21) (.tmp 24) 23 rfl w.heap.size 5 i0 (.int .u8 0) 1 Try.underlying23 HI.out hz0 hz1 hz2 rfl _ _ _ rfl HO2.out _ _ A2 F.length c2 (bv F) rfl HN2.out (bv_length _) HY2.out (bv_one _) (by unfold maxLen; omega) (by omega) (Nat.le_trans hsz hz2') ?_)
      intro v3 w3 hown3 hb3
      have HO4 : Hid (w3.ownsRow w.heap.size 5 1 v3 (pre2 xs (k + 1)).length (bv (pre2 xs (k + 1)))) := Lib.hid (by rw [HS.out, HFE.out, bv_append, List.length_append]; exact hown3)
      have HB4 := Lib.hid (hb3 _ HB2.out)
      clear hown3 hb3
      go_wp2_with fail
      go_roundw
      case rel => exact ⟨k + 1, by omega, by go_num, HO4, HB4⟩
      case measure => simp [intOf]; omega
    · obtain rfl : k = xs.length := by omega
      have hd : decide (xs.length < xs.length) = false := by simp
      have hd2 : decide ((xs.length : Int) < (xs.length : Int)) = false := by simp
      have HO3 : Hid (wr.ownsRow w.heap.size 5 1 u6 (pairsForm xs).length (bv (pairsForm xs))) := Lib.hid (by rw [← pre2_all]; exact HOWN.out)
      go_wp2_with fail
      go_ret2
      exact ⟨u6, rfl, HO3.out, HB.out⟩
end Go.Proofs.Ytdggemdgndiafaa
