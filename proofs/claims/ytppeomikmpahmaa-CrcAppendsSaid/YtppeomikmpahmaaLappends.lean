/- CrcAppends: a log that is appended to goes on from the sum that it had, frame by frame. -/
import Derived.Test.YtppeomikmpahmaaCknown
namespace Go.Proofs.Ytppeomikmpahmaa.crcAppends
open Go.ChangeShapes Go.WideShapes Go.ChangeAt Go.RowKit

set_option maxRecDepth 100000 in
set_option maxHeartbeats 4000000 in
theorem walk (w : World) (v : Value) (L : List Nat) (hLb : ∀ b ∈ L, b < 256) (hL : Bs w 0 w.heap.size v L) (F : Option Addr) (fc : Nat) (vs : List Value) (ls : List (List Nat)) (hlc : ls.length ≤ fc) (hfm : fc ≤ maxLen) (hby : ∀ l ∈ ls, ∀ b ∈ l, b < 256) (hF : Rows2 w 0 w.heap.size F vs ls) :
    Calls Try.prog 4 #[v, .slice F ls.length fc] w fun e w' => e = .returned (.bool true) ∧ Below w.heap.size w w' := by
  obtain ⟨i0, hi0, ix0, ix1, ix2⟩ := info_parts t5info
  have HI := Lib.hid hi0
  have HL := Lib.hid hL
  have HLB := Lib.hid hLb
  have HF := Lib.hid hF
  have HFB := Lib.hid hby
  have hlen : ls.length ≤ 9223372036854775807 := by unfold maxLen at hfm; omega
  obtain ⟨A, c, rfl, x1, x2, x3, x4⟩ := hL
  clear x1 x2 x4 hLb hF hby hlc hfm hi0
  by_cases hbig : 9000 < L.length
  · have hd : decide ((9000 : Int) < (L.length : Int)) = true := by simp; omega
    have hd2 : decide (9000 < L.length) = true := by simp [hbig]
    have HK := Lib.hid (known_any w)
    clear hbig
    go_enter Try.func4, Try.ntmps4
    go_wp2_with fail
    refine Calls.mono HK.out ?_
    rintro e w1 ⟨rfl, hb1⟩
    go_wp2_with fail
    go_ret
    exact ⟨rfl, hb1⟩
  · have hd : decide ((9000 : Int) < (L.length : Int)) = false := by simp; omega
    have hd2 : decide (9000 < L.length) = false := by simp; omega
    have HLEN := Lib.hid (show L.length ≤ 9000 by omega)
    have HNIL := Lib.hid x3
    clear hbig x3
    go_enter Try.func4, Try.ntmps4
    go_wp2_with (at_builtin; refine wpList_addall rfl (.const (.slice none 0 0)) (.tmp 12) 22 rfl w.heap.size 5 i0 (.int .u8 0) 1 Try.underlying22 HI.out ix0 ix1 ix2 rfl _ _ _ rfl (World.ownsRow_nil _ _ _ _) 0 w.heap.size A L.length c (bv L) rfl HNIL.out (bv_length L) (by have := HL.out; obtain ⟨A', c', he, _, _, _, h4⟩ := this; injection he with e1 e2 e3; subst e1; exact h4) (bv_one L) (by have := HLEN.out; unfold maxLen; omega) (by have := HLEN.out; omega) (Nat.le_refl _) ?_)
    intro v1 w1 hown1 hb1
    have HB1 := Lib.hid (hb1 _ (Below.refl _ _))
    have hz1 := HB1.out.size
    have HOWN := Lib.hid hown1
    have HC := Lib.hid (sum_one w1 _ L _ _ (HL.out.below HB1.out (Nat.le_refl _)) hz1 HLB.out (crc L) rfl w1.heap.size rfl)
    clear hb1 hown1
    go_wp2_with fail
    refine Calls.mono HC.out ?_
    rintro e w2 ⟨rfl, hb2⟩
    have hz2 := hb2.size
    have HB2 := Lib.hid (HB1.out.trans (hb2.mono hz1))
    have HOWN2 := Lib.hid (own_below HOWN.out hb2 (Nat.le_refl _))
    clear hb2 HC
    go_wp2_with fail
    go_loopw [5, 6, 7] (fun a r i wr => ∃ (k : Nat) (pre : List Nat), k ≤ ls.length ∧ i = .int .i64 (k : Int) ∧ r = .int .u32 (crc pre : Nat) ∧ Hid (pre.length ≤ 27000) ∧ Hid (∀ x ∈ pre, x < 256) ∧ Hid (wr.ownsRow w.heap.size 5 1 a pre.length (bv pre)) ∧ Hid (Below w.heap.size w wr)) (fun _ _ i _ => ls.length - (intOf i).toNat)
    case atStart => exact ⟨0, L, Nat.zero_le _, rfl, rfl, Lib.hid (by have := HLEN.out; omega), HLB, HOWN2, HB2⟩
    case round =>
      obtain ⟨k, pre, hk, rfl, rfl, HPL, HPB, HOW, HBW⟩ := hrel
      have hzr := HBW.out.size
      have HS := Lib.hid (Bs.of_own HOW.out)
      obtain ⟨A1, c1, hv1, y1, y2, y3, y4⟩ := Bs.of_own HOW.out
      subst hv1
      clear y1 y2 y3 y4
      by_cases hlt : k < ls.length
      · obtain ⟨b, o, A', c', rfl, hnil, hfar⟩ := HF.out.later hlt
        have HFAR := Lib.hid hfar
        have hcell := (hfar _ _ HBW.out (Nat.le_refl _)).1
        have HV := Lib.hid (hfar _ _ HBW.out (Nat.le_refl _)).2
        have HN := Lib.hid hnil
        have HQ : Hid (Sl wr 0 w.heap.size A' (bv ls[k])) := by obtain ⟨A'', c'', he, _, _, _, h4⟩ := HV.out; injection he with e1 e2 e3; subst e1; exact h4
        clear hnil hfar
        by_cases h9 : 9000 < ls[k].length
        · have hd3 : decide ((9000 : Int) < (ls[k].length : Int)) = true := by simp; omega
          have hd4 : decide (9000 < ls[k].length) = true := by simp [h9]
          have HK := Lib.hid (known_any wr)
          clear h9
          go_wp2_with fail
          refine Calls.mono HK.out ?_
          rintro e w3 ⟨rfl, hb3⟩
          have HB3 := Lib.hid (HBW.out.trans (hb3.mono hzr))
          clear hb3
          go_wp2_with fail
          go_ret
          exact ⟨rfl, HB3.out⟩
        · have hd3 : decide ((9000 : Int) < (ls[k].length : Int)) = false := by simp; omega
          have hd4 : decide (9000 < ls[k].length) = false := by simp; omega
          have H9 := Lib.hid (show ls[k].length ≤ 9000 by omega)
          clear h9
          by_cases h18 : 18000 < pre.length
          · have hd5 : decide ((18000 : Int) < (pre.length : Int)) = true := by simp; omega
            have hd6 : decide (18000 < pre.length) = true := by simp [h18]
            have HK := Lib.hid (known_any wr)
            clear h18
            go_wp2_with fail
            refine Calls.mono HK.out ?_
            rintro e w3 ⟨rfl, hb3⟩
            have HB3 := Lib.hid (HBW.out.trans (hb3.mono hzr))
            clear hb3
            go_wp2_with fail
            go_ret
            exact ⟨rfl, HB3.out⟩
          · have hd5 : decide ((18000 : Int) < (pre.length : Int)) = false := by simp; omega
            have hd6 : decide (18000 < pre.length) = false := by simp; omega
            have H18 := Lib.hid (show pre.length ≤ 18000 by omega)
            clear h18
            go_wp2_with (at_builtin; refine wpList_addall rfl (.tmp 35) (.tmp 39) 22 rfl w.heap.size 5 i0 (.int .u8 0) 1 Try.underlying22 HI.out ix0 ix1 ix2 rfl _ _ _ rfl HOW.out 0 w.heap.size A' ls[k].length c' (bv ls[k]) rfl HN.out (bv_length _) HQ.out (bv_one _) (by have := H9.out; have := H18.out; unfold maxLen; omega) (by have := H9.out; have := H18.out; omega) hzr ?_)
            intro v3 w3 hown3 hb3
            have HB3 := Lib.hid (hb3 _ HBW.out)
            have hz3 := HB3.out.size
            obtain ⟨nx, hnx⟩ : ∃ nx, nx = pre ++ ls[k] := ⟨_, rfl⟩
            have HOW3 : Hid (w3.ownsRow w.heap.size 5 1 v3 nx.length (bv nx)) := by rw [hnx, List.length_append, bv_append]; exact hown3
            have HNB : Hid (∀ x ∈ nx, x < 256) := by
              rw [hnx]; intro x hx
              rcases List.mem_append.1 hx with hx | hx
              · exact HPB.out x hx
              · exact HFB.out _ (List.getElem_mem hlt) x hx
            have HNL : Hid (nx.length ≤ 27000) := by have a := H9.out; have b := H18.out; rw [hnx, List.length_append]; show _ ≤ _; omega
            have HMORE : Hid (more (crc pre) ls[k] = crc nx) := by rw [hnx]; exact more_crc _ _
            have HS3 := Lib.hid (Bs.of_own HOW3.out)
            have hcell3 := (HFAR.out _ _ HB3.out (Nat.le_refl _)).1
            have HV3 := Lib.hid (HFAR.out _ _ HB3.out (Nat.le_refl _)).2
            have HC := Lib.hid (more_any (crc pre) (crc_lt HPB.out) _ _ _ ls[k] w3 HV3.out hz3 (fun x hx => HFB.out _ (List.getElem_mem hlt) x hx))
            rw [HMORE.out] at HC
            obtain ⟨A3, c3, hv3, y1, y2, y3, y4⟩ := Bs.of_own HOW3.out
            subst hv3
            clear y1 y2 y3 y4 hown3 hb3 hnx
            go_wp2_with fail
            refine Calls.mono HC.out ?_
            rintro e w4 ⟨rfl, hb4⟩
            have hz4 := hb4.size
            have HB4 := Lib.hid (HB3.out.trans (hb4.mono hz3))
            have HOW4 := Lib.hid (own_below HOW3.out hb4 (Nat.le_refl _))
            have HS4 := Lib.hid (Bs.of_own HOW4.out)
            have heq : ((crc nx : Int) == (crc nx : Int)) = true := by simp
            have hneq : ((crc nx : Int) != (crc nx : Int)) = false := by simp
            clear HC hb4 hcell hcell3
            go_wp2_with fail
            refine (rsum_any _ _ _ nx w4 HS4.out HNB.out).mono ?_
            rintro e w5 ⟨rfl, rfl⟩
            have HC := Lib.hid (holds_any _ _ _ nx (crc nx) w4 HS4.out (Nat.le_refl _) HNB.out)
            rw [heq] at HC
            go_wp2_with fail
            refine Calls.mono HC.out ?_
            rintro e w5 ⟨rfl, hb5⟩
            have HB5 := Lib.hid (HB4.out.trans (hb5.mono (by omega)))
            have HOW5 := Lib.hid (own_below HOW4.out hb5 (Nat.le_refl _))
            clear hb5 HC
            go_wp2_with fail
            go_roundw
            case rel => exact ⟨k + 1, nx, by omega, by go_num, rfl, HNL, HNB, HOW5, HB5⟩
            case measure => simp [intOf]; omega
      · obtain rfl : k = ls.length := by omega
        have HC := Lib.hid (sum_one wr _ pre _ _ HS.out (Nat.le_refl _) HPB.out (crc pre) rfl wr.heap.size rfl)
        have heq : ((crc pre : Int) == (crc pre : Int)) = true := by simp
        go_wp2_with fail
        refine Calls.mono HC.out ?_
        rintro e w3 ⟨rfl, hb3⟩
        have HB3 := Lib.hid (HBW.out.trans (hb3.mono hzr))
        have hz3 := hb3.size
        clear hb3 HC
        go_wp2_with fail
        refine (known_any w3).mono ?_
        rintro e w4 ⟨rfl, hb4⟩
        have HB4 := Lib.hid (HB3.out.trans (hb4.mono (by omega)))
        clear hb4
        go_wp2_with fail
        go_ret
        exact ⟨rfl, HB4.out⟩
end Go.Proofs.Ytppeomikmpahmaa.crcAppends
