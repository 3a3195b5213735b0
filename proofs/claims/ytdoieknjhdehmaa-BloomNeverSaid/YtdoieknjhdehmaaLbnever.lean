/- BloomNever: of a key that was handed in a filter never says no; the order of keys changes nothing; one by one, or at once, it is the same; for any at most 300 keys of at most 30000 bytes. -/
import Derived.Test.YtdoieknjhdehmaaBrow
namespace Go.Proofs.Ytdoieknjhdehmaa.bloomNever
open Go.ChangeShapes Go.WideShapes Go.ChangeAt Go.RowKit

theorem ok_size (n : Nat) (h : n ≤ 65536) : okF (bsize n) = true := by
  rw [okF_iff]
  have := bsize_pos n
  exact ⟨by omega, bsize_mod n, Nat.le_trans (bsize_le h) (by decide)⟩
theorem rev_at {α : Type} {l : List α} {m k : Nat} (h : m + 1 + k = l.length) (hm : m < l.length) : l.reverse.take (k + 1) = l.reverse.take k ++ [l[m]] := by
  have hk : k < l.reverse.length := by rw [List.length_reverse]; omega
  rw [List.take_succ_eq_append_getElem hk]
  congr 2
  rw [List.getElem_reverse]
  congr 1
  omega
set_option maxRecDepth 100000 in
set_option maxHeartbeats 16000000 in
theorem walk (w : World) (A : Option Addr) (c : Nat) (vs : List Value) (ls : List (List Nat)) (hlc : ls.length ≤ c) (hc : c ≤ maxLen) (hl : ∀ l ∈ ls, ∀ b ∈ l, b < 256) (h : Rows2 w 0 w.heap.size A vs ls) :
    Calls Try.prog 8 #[.slice A ls.length c] w fun e w' => e = .returned (.bool true) ∧ Below w.heap.size w w' := by
  have HR := Lib.hid h
  have HL := Lib.hid hl
  have HM : Hid (∀ u, Ext w u → Calls Try.prog 16 #[.slice A ls.length c] u fun e w' => MuchAns ls e ∧ u = w') := fun u hu => much_any A c _ _ vs ls u (h.below hu (Nat.le_refl _)) hc hlc
  have HMK : Hid (∀ u, Ext w u → Calls Try.prog 17 #[.slice A ls.length c] u (MakeAns u ls)) := fun u hu => make_any A c _ _ vs ls u (h.below hu (Nat.le_refl _)) hu.size hc hlc hl
  have hlen : (ls.length : Int) ≤ 9223372036854775807 := by unfold maxLen at hc; omega
  clear h hl hlc hc
  go_enter Try.func8, Try.ntmps8
  go_wp2_with fail
  refine (known_any w).mono ?_
  rintro e w1 ⟨rfl, hb⟩
  have HX1 : Hid (Ext w w1) := hb
  clear hb
  go_wp2_with fail
  refine Calls.mono (HM.out w1 HX1.out) ?_
  rintro e w2 ⟨⟨z, rfl, hz⟩, rfl⟩
  have HZ := Lib.hid hz
  clear hz
  cases z with
  | true =>
    go_wp2_with fail
    go_ret
    exact ⟨rfl, HX1.out⟩
  | false =>
    by_cases h3 : 300 < ls.length
    · have d : decide ((300 : Int) < (ls.length : Int)) = true := decide_eq_true (by omega)
      have dn : decide (300 < ls.length) = true := decide_eq_true h3
      go_wp2_with fail
      go_ret
      exact ⟨rfl, HX1.out⟩
    · have d : decide ((300 : Int) < (ls.length : Int)) = false := decide_eq_false (by omega)
      have dn : decide (300 < ls.length) = false := decide_eq_false h3
      obtain ⟨n, hn⟩ : ∃ n, n = ls.length := ⟨_, rfl⟩
      have HN := Lib.hid hn
      have hn3 : n ≤ 300 := by omega
      have hn3i : (n : Int) ≤ 300 := by omega
      obtain ⟨N, hNe⟩ : ∃ N, N = bsize n := ⟨_, rfl⟩
      have HNE := Lib.hid hNe
      have HNL : Hid (N ≤ 65544) := by rw [hNe]; exact bsize_le (by omega)
      have HN0 : Hid (0 < N) := by rw [hNe]; have := bsize_pos n; unfold Hid; omega
      have HOK : Hid (okF N = true) := by rw [hNe]; exact ok_size n (by omega)
      have HSZ : Hid (∀ u, Calls Try.prog 11 #[.int .i64 (n : Int)] u fun e w' => e = .returned (.int .i64 (N : Int)) ∧ u = w') := fun u => by
        have h := rsize_any (n : Int) (by omega) (by omega) u
        rw [sizeI_nat (by omega), ← hNe] at h
        exact h
      rw [← hn] at HM HMK d dn hlen ⊢
      clear hn hNe h3
      go_wp2_with fail
      refine Calls.mono (HMK.out w1 HX1.out) ?_
      rintro e w2 ⟨hx, ⟨hbad, _⟩ | ⟨_, g1, c1, he, ho⟩⟩
      · have := HN.out; omega
      rw [← HN.out, ← HNE.out] at he ho
      subst he
      have HX2 : Hid (Ext w w2) := Ext.trans HX1.out hx
      have HO2 : Hid (Own w.heap.size (mk ls) (.slice (some ⟨g1, 0, none⟩) N c1) w2) := ho.base HX1.out.size
      clear hx ho
      go_wp2_with fail
      refine Calls.mono (HSZ.out w2) ?_
      rintro e w3 ⟨rfl, rfl⟩
      obtain ⟨w4, hrun, hz0, hx⟩ := zeros_run w2 N (by have := HNL.out; omega)
      have HZ4 : Hid (Own w.heap.size (List.replicate N 0) (.slice (some ⟨w2.heap.size, 0, none⟩) N N) w4) := hz0.base HX2.out.size
      have HX4 : Hid (Ext w2 w4) := hx
      clear hz0 hx
      go_wp2_with fail
      clear hrun
      have HZL : Hid ((List.replicate N 0).length = N) := List.length_replicate
      go_loopw [5, 6, 7] (fun o g i wr => ∃ (j k : Nat) (Ao : Option Addr) (co gg cg : Nat), j + k = n ∧ i = .int .i64 ((j : Int) - 1) ∧ o = .slice Ao k co ∧ g = .slice (some ⟨gg, 0, none⟩) N cg ∧ Hid (wr.ownsRow w2.heap.size 25 1 (.slice Ao k co) k (vs.reverse.take k)) ∧ Hid (Own w.heap.size ((ls.reverse.take k).foldl addK (List.replicate N 0)) (.slice (some ⟨gg, 0, none⟩) N cg) wr) ∧ Hid (Ext w2 wr)) (fun _ _ i _ => (intOf i + 1).toNat)
      case atStart => exact ⟨n, 0, none, 0, w2.heap.size, N, by omega, by go_num, rfl, rfl, World.ownsRow_nil _ _ _ _, HZ4, HX4⟩
      case round =>
        obtain ⟨j, k, Ao, co, gg, cg, hjk, rfl, rfl, rfl, HOR, HOG, HXR⟩ := hrel
        have HW : Hid (Ext w wr) := Ext.trans HX2.out HXR.out
        cases j with
        | succ m =>
          have ej : (((m + 1 : Nat) : Int) - 1) = (m : Int) := by omega
          rw [ej]
          have d1 : decide ((0 : Int) ≤ (m : Int)) = true := decide_eq_true (by omega)
          have d2 : decide (0 ≤ m) = true := decide_eq_true (by omega)
          have hml : m < ls.length := by have := HN.out; omega
          have hmn : (m : Int) < (n : Int) := by omega
          obtain ⟨b, o', A', c', rfl, _, hlat⟩ := HR.out.later hml
          have HLAT := Lib.hid hlat
          obtain ⟨hcell, hv⟩ := hlat _ wr HW.out (Nat.le_refl _)
          have HV := Lib.hid hv
          have hmv : m < vs.length := by have := HR.out.len; omega
          have HVM : Hid (vs[m] = .slice A' ls[m].length c') := by
            obtain ⟨b2, o2, e2, _, _, hc2⟩ := (HR.out.below HW.out (Nat.le_refl _)).outer.at_ hmv
            injection e2 with e2; injection e2 with e2 e3; subst e2 e3
            rw [hcell] at hc2; injection hc2 with hc2; exact hc2.symm
          have HTV : Hid (vs.reverse.take (k + 1) = vs.reverse.take k ++ [vs[m]]) := rev_at (by have := HR.out.len; have := HN.out; omega) hmv
          have HTL : Hid (ls.reverse.take (k + 1) = ls.reverse.take k ++ [ls[m]]) := rev_at (by have := HN.out; omega) hml
          obtain ⟨L, hL⟩ : ∃ L, L = ls[m] := ⟨_, rfl⟩
          have HLB : Hid (∀ x ∈ L, x < 256) := by rw [hL]; exact HL.out _ (List.getElem_mem hml)
          rw [← hL] at hcell HV HVM HTL HLAT
          obtain ⟨F, hF⟩ : ∃ F, F = (ls.reverse.take k).foldl addK (List.replicate N 0) := ⟨_, rfl⟩
          have HFL : Hid (F.length = N) := by rw [hF, addKs_length, HZL.out]; exact rfl
          have HFB : Hid (∀ x ∈ F, x < 256) := by rw [hF]; exact addKs_lt (zeros_lt _)
          have HFN : Hid ((ls.reverse.take (k + 1)).foldl addK (List.replicate N 0) = addK F L) := by rw [HTL.out, List.foldl_append, ← hF]; rfl
          rw [← hF] at HOG
          obtain ⟨i2, hi2, z1, z2, z3⟩ := info_parts tbytesinfo
          have HI2 := Lib.hid hi2
          clear hlat hv hL hF hi2
          go_wp2_with (at_builtin; refine wpList_pushrow rfl (.tmp 38) (.tmp 43) 33 rfl w2.heap.size 25 i2 (.slice none 0 0) 24 Try.underlying33 HI2.out z1 z2 z3 rfl _ _ _ rfl HOR.out _ rfl _ rfl rfl ?k4 ?k5 HXR.out.size ?_)
          case k4 => unfold maxLen; omega
          case k5 => omega
          intro A10 c10 w10 hown10 hg10
          have HX10 : Hid (Below w2.heap.size wr w10) := grown_below hg10 (fun g hg => (row_lt HOR.out g hg).1) HXR.out.size
          have HWX : Hid (Ext w w10) := Below.trans HW.out (HX10.out.mono HX2.out.size)
          have HOG10 := Lib.hid (own_while HOG.out HOR.out (by decide) hg10)
          have HO10 : Hid (w10.ownsRow w2.heap.size 25 1 (.slice A10 (k + 1) c10) (k + 1) (vs.reverse.take (k + 1))) := by rw [HTV.out, HVM.out]; exact hown10
          obtain ⟨hcell10, hv10⟩ := HLAT.out _ w10 HWX.out (Nat.le_refl _)
          have HADD : Hid (Calls Try.prog 25 #[.slice (some ⟨gg, 0, none⟩) N cg, .slice A' L.length c'] w10 (AddAns w10 F L)) := add_any (Own.bs HOG10.out) (Nat.le_refl _) HFB.out hv10 HWX.out.size HLB.out
          clear hown10 hg10 hcell hv10
          go_wp2_with fail
          refine Calls.mono HADD.out ?_
          rintro e w11 ⟨hx, ⟨hbad, _⟩ | ⟨_, g5, c5, he, ho⟩⟩
          · rw [HFL.out, HOK.out] at hbad; cases hbad
          rw [HFL.out] at he ho
          subst he
          have HX11 : Hid (Ext w10 w11) := hx
          have HO11 : Hid (Own w.heap.size (addK F L) (.slice (some ⟨g5, 0, none⟩) N c5) w11) := ho.base HWX.out.size
          have HR11 := Lib.hid (own_below HO10.out hx (Nat.le_refl _))
          clear hx ho hcell10
          go_wp2_with fail
          refine (num_any _ _).mono ?_
          rintro e w12 ⟨rfl, rfl⟩
          go_wp2_with fail
          go_roundw
          case rel =>
            refine ⟨m, k + 1, A10, c10, g5, c5, by omega, by go_num, rfl, rfl, HR11, by rw [HFN.out]; exact HO11, Lib.hid ?_⟩
            exact Ext.trans (Below.trans HXR.out HX10.out) HX11.out
          case measure => simp [intOf]
        | zero =>
          obtain rfl : k = n := by omega
          have hm1 : decide ((0 : Int) ≤ -1) = false := by decide
          have HREV : Hid (vs.reverse.take k = vs.reverse) := List.take_of_length_le (by rw [List.length_reverse]; have := HR.out.len; have := HN.out; omega)
          have HREL : Hid (ls.reverse.take k = ls.reverse) := List.take_of_length_le (by rw [List.length_reverse]; have := HN.out; omega)
          rw [HREV.out] at HOR
          rw [HREL.out] at HOG
          have HGG : Hid (Own w.heap.size (mk ls) (.slice (some ⟨gg, 0, none⟩) N cg) wr) := by
            have e : ls.reverse.foldl addK (List.replicate N 0) = mk ls := by
              rw [← mk_reverse]
              unfold mk
              rw [List.length_reverse, ← HN.out, ← HNE.out]
            rw [← e]; exact HOG.out
          have HRO : Hid (∃ (_ : k ≤ co) (_ : co ≤ maxLen), Rows2 wr 0 wr.heap.size Ao vs.reverse ls.reverse ∧ ls.reverse.length = k) := by
            have h := rows_of_own (ls := ls.reverse) HOR.out (by rw [List.length_reverse, List.length_reverse, HR.out.len]) (fun i v l hv hl => ?_)
            · exact ⟨h.2.1, h.2.2.1, h.1, h.2.2.2⟩
            · have hil := (List.getElem?_eq_some_iff.1 hv).1
              rw [List.length_reverse] at hil
              rw [List.getElem?_reverse hil] at hv
              rw [List.getElem?_reverse (by rw [← HR.out.len]; exact hil), ← HR.out.len] at hl
              exact ((HR.out.each _ v l hv hl).below HW.out (Nat.le_refl _)).wide (Nat.le_refl _) HW.out.size
          obtain ⟨hkc, hcm, hro, hrl⟩ := HRO.out
          have HMK2 : Hid (Calls Try.prog 17 #[.slice Ao k co] wr (MakeAns wr ls.reverse)) := by
            have h := make_any Ao co _ _ vs.reverse ls.reverse wr hro (Nat.le_refl _) hcm (by omega) (fun l hl => HL.out l (by simpa using hl))
            rw [hrl] at h; exact h
          clear hkc hcm hro HRO
          go_wp2_with fail
          refine Calls.mono HMK2.out ?_
          rintro e w5 ⟨hx, ⟨hbad, _⟩ | ⟨_, g5, c5, he, ho⟩⟩
          · rw [hrl] at hbad; omega
          rw [hrl, ← HNE.out] at he ho
          subst he
          rw [mk_reverse] at ho
          have HX5 : Hid (Ext wr w5) := hx
          have HO5 := Lib.hid ho
          have HG5 := Lib.hid (HGG.out.below hx)
          have HF5 := Lib.hid ((HO2.out.below HXR.out).below hx)
          have HW5 : Hid (Ext w w5) := Ext.trans HW.out hx
          clear hx ho
          go_wp2_with fail
          go_loopw [12] (fun i wr => ∃ j : Nat, j ≤ k ∧ i = .int .i64 (j : Int) ∧ Hid (Ext w5 wr)) (fun i _ => k - (intOf i).toNat)
          case atStart => exact ⟨0, Nat.zero_le _, rfl, Ext.refl _⟩
          case round =>
            obtain ⟨j, hj, rfl, HXR5⟩ := hrel
            have HWJ : Hid (Ext w wr) := Ext.trans HW5.out HXR5.out
            by_cases hlt : j < k
            · have d1 : decide ((j : Int) < (k : Int)) = true := decide_eq_true (by omega)
              have d2 : decide (j < k) = true := decide_eq_true hlt
              have hjl : j < ls.length := by have := HN.out; omega
              obtain ⟨b, o', A', c', rfl, _, hlat⟩ := HR.out.later hjl
              obtain ⟨hcell, hv⟩ := hlat _ _ HWJ.out (Nat.le_refl _)
              have HFJ := Lib.hid (HF5.out.below HXR5.out)
              have HMAY : Hid (Calls Try.prog 22 #[.slice (some ⟨g1, 0, none⟩) N c1, .slice A' ls[j].length c'] wr fun e w' => e = .returned (.bool true) ∧ Ext wr w') := may_is HFJ.out.bs (Nat.le_refl _) (mk_lt _) hv HWJ.out.size (HL.out _ (List.getElem_mem hjl)) (by rw [may_mk (List.getElem_mem hjl), Bool.or_true])
              clear hlat hv
              go_wp2_with fail
              refine Calls.mono HMAY.out ?_
              rintro e w6 ⟨rfl, hx⟩
              have HX6 : Hid (Ext w5 w6) := Ext.trans HXR5.out hx
              clear hx hcell
              go_wp2_with fail
              go_roundw
              case rel => exact ⟨j + 1, by omega, by go_num, HX6⟩
              case measure => simp [intOf]; omega
            · have d1 : decide ((j : Int) < (k : Int)) = false := decide_eq_false (by omega)
              have d2 : decide (j < k) = false := decide_eq_false hlt
              have cva := cv (HF5.out.below HXR5.out).bs
              have cvb := cv (HO5.out.below HXR5.out).bs
              have cvc := cv (HG5.out.below HXR5.out).bs
              have heq : ((tx (mk ls)).toList == (tx (mk ls)).toList) = true := by simp
              go_wp2_with fail
              refine (num_any _ _).mono ?_
              rintro e w6 ⟨rfl, rfl⟩
              go_wp2_with fail
              refine (num_any _ _).mono ?_
              rintro e w6 ⟨rfl, rfl⟩
              go_wp2_with fail
              go_ret
              exact ⟨rfl, HWJ.out⟩
end Go.Proofs.Ytdoieknjhdehmaa.bloomNever
