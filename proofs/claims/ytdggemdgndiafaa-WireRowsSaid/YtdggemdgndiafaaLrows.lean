/- WireRows: what is laid in a row has all its bytes, in new memory. -/
import Derived.Test.YtdggemdgndiafaaWmore
namespace Go.Proofs.Ytdggemdgndiafaa.wireRows
open Go.ChangeShapes Go.WideShapes Go.ChangeAt Go.RowKit

theorem Rows2.far {w : World} {lo hi : Nat} {A : Option Addr} {vs : List Value} {ls : List (List Nat)} (h : Rows2 w lo hi A vs ls) (hhi : hi ≤ w.heap.size) {k : Nat} (hk : k < ls.length) :
    ∃ b o A' c, A = some ⟨b, o, none⟩ ∧ (∀ u, Ext w u → u.cell? ⟨b, o + k, none⟩ = some (.slice A' ls[k].length c)) ∧ Bs w lo hi (.slice A' ls[k].length c) ls[k] := by
  have hk' : k < vs.length := by rw [h.len]; exact hk
  obtain ⟨b, o, rfl, _, hb, hc⟩ := h.outer.at_ hk'
  have he := h.each k _ _ (List.getElem?_eq_getElem hk') (List.getElem?_eq_getElem hk)
  have he' := he
  obtain ⟨A', c, hv, _⟩ := he
  refine ⟨b, o, A', c, rfl, fun u hu => ?_, by rw [← hv]; exact he'⟩
  rw [← hv, ← hc]
  exact Below.cell hu (show b < _ by omega)

theorem part (ls : List (List Nat)) {k : Nat} (h : k < ls.length) : (ls.flatten.drop (tot ls k)).take ls[k].length = ls[k] := by
  have e : ls.flatten = (ls.take k).flatten ++ (ls[k] ++ (ls.drop (k + 1)).flatten) := by
    conv => lhs; rw [← List.take_append_drop k ls]
    rw [List.flatten_append, List.drop_eq_getElem_cons h, List.flatten_cons]
  rw [e]
  unfold tot
  rw [List.drop_left, List.take_left]

theorem sum_fits {a b c : Nat} (h : c = a + b) (h2 : c ≤ 18000) : wrap64 ((a : Int) + (b : Int)) = (c : Int) ∧ IntKind.i64.wrap ((a : Int) + (b : Int)) = (c : Int) := by
  subst h
  refine ⟨by unfold wrap64; omega, ?_⟩
  rw [IntKind.wrap_i64]
  omega

/-- Bytes of rows are bytes. -/
theorem flat_bytes {ls : List (List Nat)} (h : ∀ l ∈ ls, ∀ b ∈ l, b < 256) : ∀ b ∈ ls.flatten, b < 256 := by
  intro b hb
  obtain ⟨l, hl, hb⟩ := List.mem_flatten.1 hb
  exact h l hl b hb

set_option maxRecDepth 100000 in
set_option maxHeartbeats 8000000 in
theorem walk (w : World) (A : Option Addr) (c : Nat) (vs : List Value) (ls : List (List Nat)) (hlc : ls.length ≤ c) (hcm : c ≤ maxLen) (hby : ∀ l ∈ ls, ∀ b ∈ l, b < 256) (h : Rows2 w 0 w.heap.size A vs ls) (is : Bool) :
    Calls Try.prog 5 #[.slice A ls.length c, .bool is] w fun e w' => e = .returned (.bool true) ∧ Below w.heap.size w w' := by
  obtain ⟨i0, hi0, hz0, hz1, hz2⟩ := info_parts t5info
  have HI := Lib.hid hi0
  have HC := Lib.hid hcm
  have HLC := Lib.hid hlc
  have HBY := Lib.hid hby
  have H := Lib.hid h
  clear hi0 hcm hlc hby h
  go_enter Try.func5, Try.ntmps5
  go_wp2_with fail
  go_loopw [5, 6] (fun v i wr => ∃ k : Nat, k ≤ ls.length ∧ k ≤ 9001 ∧ tot ls k ≤ 18000 ∧ i = .int .i64 (k : Int) ∧ wr.ownsRow w.heap.size 5 1 v (tot ls k) (bv (ls.take k).flatten) ∧ Below w.heap.size w wr) (fun _ i _ => ls.length - (intOf i).toNat)
  case atStart => exact ⟨0, Nat.zero_le _, by omega, by rw [tot_zero]; omega, rfl, by rw [tot_zero]; simpa [bv] using World.ownsRow_nil _ _ _ _, Below.refl _ _⟩
  case round =>
    obtain ⟨k, hk, hk9, ht9, rfl, hown, hb⟩ := hrel
    have hwr := H.out.below hb (Nat.le_refl _)
    have hsz := hb.size
    have HSZ := Lib.hid hsz
    have HB := Lib.hid hb
    have HOWN := Lib.hid hown
    have HS0 := Lib.hid (Bs.of_own (l := (ls.take k).flatten) (by simpa [tot] using hown))
    obtain ⟨AG, cG, rfl, x1, x2, x3, x4⟩ := Bs.of_own (l := (ls.take k).flatten) (show wr.ownsRow w.heap.size 5 1 u5 (tot ls k) (bv (ls.take k).flatten) from hown)
    have HCG := Lib.hid x1
    have HCM := Lib.hid x2
    clear x1 x2 x3 x4 hb hown
    have htl : (ls.take k).flatten.length = tot ls k := rfl
    rw [htl] at HOWN HS0 HCG ⊢
    clear htl
    by_cases hlt : k < ls.length
    · obtain ⟨b, o, A', c', rfl, hcell, _, _, hnil, hbyk⟩ := hwr.at_ hlt
      have HNIL := Lib.hid hnil
      have HBYK := Lib.hid hbyk
      clear hnil hbyk hwr
      have hd : decide (k < ls.length) = true := by simp [hlt]
      have hdI : decide ((k : Int) < (ls.length : Int)) = true := by simp; omega
      have HT := Lib.hid (tot_succ ls hlt)
      have HFL := Lib.hid (flat_take_succ ls hlt)
      obtain ⟨m, hm⟩ : ∃ m, m = ls[k].length := ⟨_, rfl⟩
      rw [← hm] at hcell
      by_cases ha : 9000 < m
      · have ha1 : decide (9000 < m) = true := by simp [ha]
        have ha2 : decide ((9000 : Int) < (m : Int)) = true := by simp; omega
        clear ha hm
        go_wp2_with fail
        refine (known_any _).mono ?_
        rintro e wz ⟨rfl, hbz⟩
        go_wp2_with fail
        go_ret
        exact ⟨rfl, HB.out.trans (hbz.mono HSZ.out)⟩
      · have ha1 : decide (9000 < m) = false := by simp; omega
        have ha2 : decide ((9000 : Int) < (m : Int)) = false := by simp; omega
        by_cases hbb : 9000 < tot ls k
        · have hb1 : decide (9000 < tot ls k) = true := by simp [hbb]
          have hb2 : decide ((9000 : Int) < (tot ls k : Int)) = true := by simp; omega
          clear ha hbb hm
          go_wp2_with fail
          refine (known_any _).mono ?_
          rintro e wz ⟨rfl, hbz⟩
          go_wp2_with fail
          go_ret
          exact ⟨rfl, HB.out.trans (hbz.mono HSZ.out)⟩
        · have hb1 : decide (9000 < tot ls k) = false := by simp; omega
          have hb2 : decide ((9000 : Int) < (tot ls k : Int)) = false := by simp; omega
          by_cases hcc : 9000 < k
          · have hc1 : decide (9000 < k) = true := by simp [hcc]
            have hc2 : decide ((9000 : Int) < (k : Int)) = true := by simp; omega
            clear ha hbb hcc hm
            go_wp2_with fail
            refine (known_any _).mono ?_
            rintro e wz ⟨rfl, hbz⟩
            go_wp2_with fail
            go_ret
            exact ⟨rfl, HB.out.trans (hbz.mono HSZ.out)⟩
          · have hc1 : decide (9000 < k) = false := by simp; omega
            have hc2 : decide ((9000 : Int) < (k : Int)) = false := by simp; omega
            have HTB := Lib.hid (show tot ls k ≤ 9000 ∧ m ≤ 9000 ∧ k ≤ 9000 by omega)
            have HM := Lib.hid hm
            have hkI : (k : Int) + 1 ≤ 9001 := by omega
            clear ha hbb hcc ht9 hk9 hm
            go_wp2_with (at_builtin; refine wpList_addall rfl (.tmp 34) (.tmp 38) 23 rfl w.heap.size 5 i0 (.int .u8 0) 1 Try.underlying23 HI.out hz0 hz1 hz2 rfl _ _ _ rfl HOWN.out _ _ A' m c' (bv ls[k]) rfl HNIL.out ?c2 HBYK.out (bv_one _) ?c4 ?c5 HSZ.out ?_)
            case c2 => rw [HM.out]; exact bv_length _
            case c4 => have := HTB.out; unfold maxLen; omega
            case c5 => have := HTB.out; omega
            intro v3 w3 hown3 hb3
            have hown4 : w3.ownsRow w.heap.size 5 1 v3 (tot ls (k + 1)) (bv (ls.take (k + 1)).flatten) := by rw [HT.out, HFL.out, bv_append, ← HM.out]; exact hown3
            have HO4 := Lib.hid hown4
            have HB4 := Lib.hid (hb3 _ HB.out)
            clear hown3 hb3 hown4
            go_wp2_with fail
            go_roundw
            case rel => exact ⟨k + 1, by omega, by have := HTB.out; omega, by have := HTB.out; rw [HT.out, ← HM.out]; omega, by have := HTB.out; go_num, HO4.out, HB4.out⟩
            case measure => have := HTB.out; simp [intOf]; omega
    · obtain rfl : k = ls.length := by omega
      have hd : decide (ls.length < ls.length) = false := by simp
      have hdI : decide ((ls.length : Int) < (ls.length : Int)) = false := by simp
      have e1 : (ls.take ls.length).flatten = ls.flatten := by rw [List.take_length]
      rw [e1] at HOWN HS0
      rw [tot_all] at HOWN HS0 HCG ht9 ⊢
      clear e1
      obtain ⟨G, hG⟩ : ∃ G, G = ls.flatten := ⟨_, rfl⟩
      have HGB : Hid (∀ b ∈ G, b < 256) := by rw [hG]; exact flat_bytes HBY.out
      have HPART := Lib.hid (fun k (h : k < ls.length) => part ls h)
      have HTL := Lib.hid (fun k => tot_le ls k)
      have HTS := Lib.hid (fun k (h : k < ls.length) => tot_succ ls h)
      have HJ := Lib.hid (join_any A c 0 w.heap.size vs ls wr hwr HSZ.out HC.out HLC.out (by omega) ls.length rfl)
      rw [← hG] at HOWN HS0 HCG ht9 HPART HTL HJ ⊢
      have HROWS := Lib.hid hwr
      have HGL := Lib.hid ht9
      have HK9 := Lib.hid hk9
      clear hG hlt hk hk9 ht9 hwr
      go_wp2_with fail
      refine Calls.mono HJ.out ?_
      rintro e w2 ⟨v2, rfl, hown2, hb2⟩
      have hz2' := hb2.size
      have HZ2 := Lib.hid hz2'
      have HR2 := Lib.hid hown2
      have HRB := Lib.hid (Bs.of_own hown2)
      have HB2 := Lib.hid (HB.out.trans (hb2.mono HSZ.out))
      have HS2 := Lib.hid (HS0.out.below hb2 (Nat.le_refl _))
      obtain ⟨AR, cR, rfl, x1, x2, x3, x4⟩ := Bs.of_own hown2
      clear x1 x2 x3 x4 hown2 hb2
      go_wp2_with fail
      refine (bytes_any _ _ _ G _ HS2.out HZ2.out (by have := HGL.out; omega)).mono ?_
      rintro e w3 ⟨v3, rfl, hown3, hb3⟩
      have hz3 := hb3.size
      have HZ3 := Lib.hid hz3
      have HF3 := Lib.hid (Bs.of_own hown3)
      have HS3 := Lib.hid (HS2.out.below hb3 HZ2.out)
      have HRB3 := Lib.hid (HRB.out.below hb3 (Nat.le_refl _))
      have HR3 := Lib.hid (own_below HR2.out hb3)
      have HB3 := Lib.hid (HB2.out.trans (hb3.mono (Nat.le_trans HSZ.out HZ2.out)))
      obtain ⟨AF, cF, rfl, x1, x2, x3, x4⟩ := Bs.of_own hown3
      clear x1 x2 x3 x4 hown3 hb3 hz3 hz2'
      obtain ⟨FG, hFG⟩ : ∃ FG, FG = bytesForm G := ⟨_, rfl⟩
      have HBA := Lib.hid (fun lo hi u (hs : Bs u lo hi (.slice AG G.length cG) G) hhi => bytes_any _ lo hi G u hs hhi (by have := HGL.out; omega))
      have HRBA := Lib.hid (fun lo hi u (hs : Bs u lo hi (.slice AG G.length cG) G) hhi => rbytes_any _ lo hi G u hs hhi (by have := HGL.out; omega))
      rw [← hFG] at HF3 HBA HRBA ⊢
      clear hFG
      go_upto_region 10 with (fail)
      go_cut [65] (fun v wx => v = .bool false ∧ Below w3.heap.size w3 wx)
      case first =>
        have HC : Hid (∀ u, Ext w3.drew u → (convert 23 9 (.slice AR G.length cR)).run Try.prog u = .ok (.string (tx G)) u ∧ (convert 23 9 (.slice AG G.length cG)).run Try.prog u = .ok (.string (tx G)) u ∧ (convert 23 9 (.slice AF FG.length cF)).run Try.prog u = .ok (.string (tx FG)) u) := fun u hu => ⟨cv (HRB3.out.below ((Ext.drew w3).trans hu) HZ3.out), cv (HS3.out.below ((Ext.drew w3).trans hu) (Nat.le_trans HZ2.out HZ3.out)), cv (HF3.out.below ((Ext.drew w3).trans hu) (Nat.le_refl _))⟩
        have HSd : Hid (Bs w3.drew w.heap.size wr.heap.size (.slice AG G.length cG) G) := HS3.out.below (Ext.drew w3) (Nat.le_trans HZ2.out HZ3.out)
        have HSz : Hid (wr.heap.size ≤ w3.drew.heap.size) := Nat.le_trans HZ2.out HZ3.out
        have htG : ((tx G).toList == (tx G).toList) = true := by simp
        have htF : ((tx FG).toList == (tx FG).toList) = true := by simp
        obtain ⟨FL, hFL⟩ : ∃ FL, FL = flagForm is := ⟨_, rfl⟩
        have HFL1 := Lib.hid (flag_any is)
        have HFL2 := Lib.hid (rflag_any is)
        rw [← hFL] at HFL1 HFL2
        have htL : ((tx FL).toList == (tx FL).toList) = true := by simp
        clear hFL hd hdI hsz
        refine at_start (by kernel_rfl) (n := 22) rfl ?_
        (refine at_read 0 (v := ?_) rfl (by kernel_rfl) (by kernel_rfl) (by kernel_rfl) (fun _ _ _ h => h) (.inl ⟨by rfl, fun u hu => ?_⟩) ?_; rotate_left; (focus (have q1 := HC.out u hu; go_simp; try with_reducible rfl)); simp only [Act.put, List.setIfInBounds_toArray, List.set_cons_zero, List.set_cons_succ])
        (refine at_read 1 (v := ?_) rfl (by kernel_rfl) (by kernel_rfl) (by kernel_rfl) (fun _ _ _ h => h) (.inl ⟨by rfl, fun u hu => ?_⟩) ?_; rotate_left; (focus (have q1 := HC.out u hu; go_simp; try with_reducible rfl)); simp only [Act.put, List.setIfInBounds_toArray, List.set_cons_zero, List.set_cons_succ])
        (refine at_read 2 (v := ?_) rfl (by kernel_rfl) (by kernel_rfl) (by kernel_rfl) (fun _ _ _ h => h) (.inl ⟨by rfl, fun u hu => ?_⟩) ?_; rotate_left; (focus (have q1 := HC.out u hu; go_simp; try with_reducible rfl)); simp only [Act.put, List.setIfInBounds_toArray, List.set_cons_zero, List.set_cons_succ])
        (refine at_read 3 (v := ?_) rfl (by kernel_rfl) (by kernel_rfl) (by kernel_rfl) (fun _ _ _ h => h) (.inl ⟨by rfl, fun u hu => ?_⟩) ?_; rotate_left; (focus (have q1 := HC.out u hu; go_simp; try with_reducible rfl)); simp only [Act.put, List.setIfInBounds_toArray, List.set_cons_zero, List.set_cons_succ])
        (refine at_read 4 (v := ?_) rfl (by kernel_rfl) (by kernel_rfl) (by kernel_rfl) (fun _ _ _ h => h) (.inl ⟨by rfl, fun u hu => ?_⟩) ?_; rotate_left; (focus (have q1 := HC.out u hu; go_simp; try with_reducible rfl)); simp only [Act.put, List.setIfInBounds_toArray, List.set_cons_zero, List.set_cons_succ])
        (refine at_read 5 (v := ?_) rfl (by kernel_rfl) (by kernel_rfl) (by kernel_rfl) (fun _ _ _ h => h) (.inl ⟨by rfl, fun u hu => ?_⟩) ?_; rotate_left; (focus (have q1 := HC.out u hu; go_simp; try with_reducible rfl)); simp only [Act.put, List.setIfInBounds_toArray, List.set_cons_zero, List.set_cons_succ])
        (refine at_read 6 (v := ?_) rfl (by kernel_rfl) (by kernel_rfl) (by kernel_rfl) (fun _ _ _ h => h) (.inl ⟨by rfl, fun u hu => ?_⟩) ?_; rotate_left; (focus (have q1 := HC.out u hu; go_simp; try with_reducible rfl)); simp only [Act.put, List.setIfInBounds_toArray, List.set_cons_zero, List.set_cons_succ])
        (refine at_read 7 (v := ?_) rfl (by kernel_rfl) (by kernel_rfl) (by kernel_rfl) (fun _ _ _ h => h) (.inl ⟨by rfl, fun u hu => ?_⟩) ?_; rotate_left; (focus (have q1 := HC.out u hu; go_simp; try with_reducible rfl)); simp only [Act.put, List.setIfInBounds_toArray, List.set_cons_zero, List.set_cons_succ])
        (refine at_read 8 (v := ?_) rfl (by kernel_rfl) (by kernel_rfl) (by kernel_rfl) (fun _ _ _ h => h) (.inl ⟨by rfl, fun u hu => ?_⟩) ?_; rotate_left; (focus (have q1 := HC.out u hu; go_simp; try with_reducible rfl)); simp only [Act.put, List.setIfInBounds_toArray, List.set_cons_zero, List.set_cons_succ])
        refine at_make 9 rfl (by kernel_rfl) (fun K hK => ?_)
        go_simp
        refine Calls.mono (HRBA.out _ _ _ HSd.out HSz.out) ?_
        rintro e w4 ⟨v4, rfl, hown, hb⟩
        have hs := Bs.of_own hown
        have hs' := hs
        obtain ⟨A4, c4, rfl, q1, q2, q3, q4⟩ := hs
        have HE4 : Hid (Ext w3.drew w4) := hb
        have HC2 : Hid (∀ u, Ext w4 u → (convert 23 9 (.slice AF FG.length cF)).run Try.prog u = .ok (.string (tx FG)) u ∧ (convert 23 9 (.slice A4 FG.length c4)).run Try.prog u = .ok (.string (tx FG)) u) := fun u hu => ⟨(HC.out u (HE4.out.trans hu)).2.2, cv (hs'.below hu (Nat.le_refl _))⟩
        clear q1 q2 q3 q4 hb hown hs'
        go_simp
        refine hK _ _ HE4.out ?_
        clear hK K
        (refine at_read 10 (v := ?_) rfl (by kernel_rfl) (by kernel_rfl) (by kernel_rfl) (fun _ _ _ h => h) (.inl ⟨by rfl, fun u hu => ?_⟩) ?_; rotate_left; (focus (have q1 := HC2.out u hu; go_simp; try with_reducible rfl)); simp only [Act.put, List.setIfInBounds_toArray, List.set_cons_zero, List.set_cons_succ])
        (refine at_read 11 (v := ?_) rfl (by kernel_rfl) (by kernel_rfl) (by kernel_rfl) (fun _ _ _ h => h) (.inl ⟨by rfl, fun u hu => ?_⟩) ?_; rotate_left; (focus (have q1 := HC2.out u hu; go_simp; try with_reducible rfl)); simp only [Act.put, List.setIfInBounds_toArray, List.set_cons_zero, List.set_cons_succ])
        (refine at_read 12 (v := ?_) rfl (by kernel_rfl) (by kernel_rfl) (by kernel_rfl) (fun _ _ _ h => h) (.inl ⟨by rfl, fun u hu => ?_⟩) ?_; rotate_left; (focus (have q1 := HC2.out u hu; go_simp; try with_reducible rfl)); simp only [Act.put, List.setIfInBounds_toArray, List.set_cons_zero, List.set_cons_succ])
        (refine at_read 13 (v := ?_) rfl (by kernel_rfl) (by kernel_rfl) (by kernel_rfl) (fun _ _ _ h => h) (.inl ⟨by rfl, fun u hu => ?_⟩) ?_; rotate_left; (focus (have q1 := HC2.out u hu; go_simp; try with_reducible rfl)); simp only [Act.put, List.setIfInBounds_toArray, List.set_cons_zero, List.set_cons_succ])
        (refine at_read 14 (v := ?_) rfl (by kernel_rfl) (by kernel_rfl) (by kernel_rfl) (fun _ _ _ h => h) (.inl ⟨by rfl, fun u hu => ?_⟩) ?_; rotate_left; (focus (have q1 := HC2.out u hu; go_simp; try with_reducible rfl)); simp only [Act.put, List.setIfInBounds_toArray, List.set_cons_zero, List.set_cons_succ])
        (refine at_read 17 (v := ?_) rfl (by kernel_rfl) (by kernel_rfl) (by kernel_rfl) (fun _ _ _ h => h) (.inl ⟨by rfl, fun u hu => ?_⟩) ?_; rotate_left; (focus (have q1 := HC2.out u hu; go_simp; try with_reducible rfl)); simp only [Act.put, List.setIfInBounds_toArray, List.set_cons_zero, List.set_cons_succ])
        refine at_make 15 rfl (by kernel_rfl) (fun K hK => ?_)
        go_simp
        refine Calls.mono (HFL1.out _) ?_
        rintro e w5 ⟨v5, rfl, hown, hb⟩
        have hs := Bs.of_own hown
        have hs' := hs
        obtain ⟨A5, c5, rfl, q1, q2, q3, q4⟩ := hs
        have HE5 : Hid (Ext w4 w5) := hb
        have HC3 : Hid (∀ u, Ext w5 u → (convert 23 9 (.slice A5 FL.length c5)).run Try.prog u = .ok (.string (tx FL)) u) := fun u hu => cv (hs'.below hu (Nat.le_refl _))
        clear q1 q2 q3 q4 hb hown hs'
        go_simp
        refine hK _ _ HE5.out ?_
        clear hK K
        (refine at_read 16 (v := ?_) rfl (by kernel_rfl) (by kernel_rfl) (by kernel_rfl) (fun _ _ _ h => h) (.inl ⟨by rfl, fun u hu => ?_⟩) ?_; rotate_left; (focus (have q1 := HC3.out u hu; go_simp; try with_reducible rfl)); simp only [Act.put, List.setIfInBounds_toArray, List.set_cons_zero, List.set_cons_succ])
        refine at_make 18 rfl (by kernel_rfl) (fun K hK => ?_)
        go_simp
        refine Calls.mono (HFL2.out _) ?_
        rintro e w6 ⟨v6, rfl, hown, hb⟩
        have hs := Bs.of_own hown
        have hs' := hs
        obtain ⟨A6, c6, rfl, q1, q2, q3, q4⟩ := hs
        have HE6 : Hid (Ext w5 w6) := hb
        have HC4 : Hid (∀ u, Ext w6 u → (convert 23 9 (.slice A5 FL.length c5)).run Try.prog u = .ok (.string (tx FL)) u ∧ (convert 23 9 (.slice A6 FL.length c6)).run Try.prog u = .ok (.string (tx FL)) u) := fun u hu => ⟨HC3.out u (HE6.out.trans hu), cv (hs'.below hu (Nat.le_refl _))⟩
        clear q1 q2 q3 q4 hb hown hs'
        go_simp
        refine hK _ _ HE6.out ?_
        clear hK K
        (refine at_read 19 (v := ?_) rfl (by kernel_rfl) (by kernel_rfl) (by kernel_rfl) (fun _ _ _ h => h) (.inl ⟨by rfl, fun u hu => ?_⟩) ?_; rotate_left; (focus (have q1 := HC4.out u hu; go_simp; try with_reducible rfl)); simp only [Act.put, List.setIfInBounds_toArray, List.set_cons_zero, List.set_cons_succ])
        (refine at_read 20 (v := ?_) rfl (by kernel_rfl) (by kernel_rfl) (by kernel_rfl) (fun _ _ _ h => h) (.inl ⟨by rfl, fun u hu => ?_⟩) ?_; rotate_left; (focus (have q1 := HC4.out u hu; go_simp; try with_reducible rfl)); simp only [Act.put, List.setIfInBounds_toArray, List.set_cons_zero, List.set_cons_succ])
        (refine at_read 21 (v := ?_) rfl (by kernel_rfl) (by kernel_rfl) (by kernel_rfl) (fun _ _ _ h => h) (.inl ⟨by rfl, fun u hu => ?_⟩) ?_; rotate_left; (focus (have q1 := HC4.out u hu; go_simp; try with_reducible rfl)); simp only [Act.put, List.setIfInBounds_toArray, List.set_cons_zero, List.set_cons_succ])
        refine at_done (by kernel_rfl) ?_
        go_wp2_with fail
        go_meet
        exact ⟨rfl, (Ext.drew w3).trans (HE4.out.trans (HE5.out.trans HE6.out))⟩
      case rest =>
        obtain ⟨rfl, hbc⟩ := hcut
        have hzc := hbc.size
        have HZC := Lib.hid hzc
        have HRC := Lib.hid (own_below HR3.out hbc)
        have HSC := Lib.hid (HS3.out.below hbc (Nat.le_trans HZ2.out HZ3.out))
        have HFC := Lib.hid (HF3.out.below hbc (Nat.le_refl _))
        have HBC := Lib.hid (HB3.out.trans (hbc.mono (Nat.le_trans HSZ.out (Nat.le_trans HZ2.out HZ3.out))))
        have HLT := Lib.hid HR2.out.lt
        have HROW := Lib.hid (Row.of_own HRC.out HGB.out).2
        obtain ⟨ro, hro⟩ : ∃ ro, ro = (Value.slice AR G.length cR).ownBlock := ⟨_, rfl⟩
        rw [← hro] at HROW HLT
        clear hro hbc hzc HRC HR3 HR2 HRB HRB3
        have hgl : (G.length : Int) ≤ 18000 := by have := HGL.out; omega
        go_wp2_with fail
        go_loopw [9] (fun i wz => ∃ k : Nat, k ≤ G.length ∧ i = .int .i64 (k : Int) ∧ Row wz ro AR G.length ∧ wc.grownBy wz ro) (fun i _ => G.length - (intOf i).toNat)
        case atStart => exact ⟨0, Nat.zero_le _, rfl, HROW.out, World.grownBy.refl _ _⟩
        case round =>
          obtain ⟨k, hk, rfl, hrow, hg⟩ := hrel
          by_cases hlt : k < G.length
          · obtain ⟨g, rfl, rfl, ⟨x, hx, hcell⟩, hfz⟩ := hrow k hlt
            have HROW2 := Lib.hid hrow
            have HG := Lib.hid hg
            have hd1 : decide (k < G.length) = true := by simp [hlt]
            have hd2 : decide ((k : Int) < (G.length : Int)) = true := by simp; omega
            have hw8 : IntKind.u8.wrap ((x : Int) + 1) = (((x + 1) % 256 : Nat) : Int) := by rw [IntKind.wrap_u8]; omega
            have hX := Lib.hid (show (x + 1) % 256 < 256 by omega)
            clear hrow hg hx
            go_wp2_with fail
            go_roundw
            case rel => exact ⟨k + 1, by omega, by go_num, HROW2.out.set hX.out, grownBy_trans HG.out (grownBy_set _ _ _ _)⟩
            case measure => simp [intOf]; omega
          · obtain rfl : k = G.length := by omega
            have hd1 : decide (G.length < G.length) = false := by simp
            have hd2 : decide ((G.length : Int) < (G.length : Int)) = false := by simp
            have HBZ := Lib.hid (HBC.out.grown hg HBC.out.size (fun k hk => Nat.le_trans HSZ.out (HLT.out k hk).1))
            have HSZ2 := Lib.hid (HSC.out.grown hg (Nat.le_trans HZ2.out (Nat.le_trans HZ3.out HZC.out)) (fun k hk => .inr (HLT.out k hk).1))
            have HFZ := Lib.hid (HFC.out.grown hg HZC.out (fun k hk => .inl (HLT.out k hk).2))
            have HT1 := Lib.hid (Nat.le_trans (Nat.le_trans HZ2.out (Nat.le_trans HZ3.out HZC.out)) hg.size)
            have HT2 := Lib.hid (Nat.le_trans HZC.out hg.size)
            have HRZ := Lib.hid (H.out.below HBZ.out (Nat.le_refl _))
            clear hrow hg hk hlt
            go_wp2_with fail
            go_loopw [10, 11] (fun i q wz => ∃ k : Nat, k ≤ ls.length ∧ i = .int .i64 (k : Int) ∧ q = .int .i64 (tot ls k : Int) ∧ Ext wr wz) (fun i _ _ => ls.length - (intOf i).toNat)
            case atStart => exact ⟨0, Nat.zero_le _, rfl, by rw [tot_zero]; rfl, Ext.refl _⟩
            case round =>
              obtain ⟨k, hk, rfl, rfl, hext⟩ := hrel
              have HEX := Lib.hid hext
              clear hext
              by_cases hlt : k < ls.length
              · have hbs := HRZ.out.below HEX.out (show w.heap.size ≤ _ from HBZ.out.size)
                obtain ⟨b, o, A', c', hAe, hcell, hel⟩ := Rows2.far hbs (Nat.le_trans HBZ.out.size HEX.out.size) hlt
                obtain ⟨L, hL⟩ : ∃ L, L = ls[k] := ⟨_, rfl⟩
                have hts := HTS.out k hlt
                have htl := HTL.out (k + 1)
                have hpart := HPART.out k hlt
                rw [← hL] at hcell hel hts hpart
                obtain ⟨B2, hB2, hB2n, hrun⟩ := mid_run AG G.length cG (tot ls k) (tot ls (k + 1)) (by omega) (by omega) HCG.out
                have hsub : tot ls (k + 1) - tot ls k = L.length := by omega
                rw [hsub] at hB2 hrun
                have HMID : Hid (∀ u, Ext wr.drew u → (u.cell? ⟨b, o + k, none⟩ = some (.slice A' L.length c')) ∧ (convert 23 9 (.slice A' L.length c')).run Try.prog u = .ok (.string (tx L)) u ∧ (convert 23 9 (.slice B2 L.length (cG - tot ls k))).run Try.prog u = .ok (.string (tx L)) u) := fun u hu => by
                  refine ⟨hcell u ((Ext.drew _).trans hu), cv (hel.below ((Ext.drew _).trans hu) (Nat.le_trans HBZ.out.size HEX.out.size)), ?_⟩
                  have hall := HSZ2.out.below (HEX.out.trans ((Ext.drew _).trans hu)) HT1.out
                  obtain ⟨A0, c0, he0, a1, a2, a3, a4⟩ := hall
                  obtain ⟨rfl, rfl⟩ : AG = A0 ∧ cG = c0 := by injection he0 with x y z; exact ⟨x, z⟩
                  have hm := hB2 G rfl _ _ _ a4
                  rw [hpart] at hm
                  refine cv (lo := w.heap.size) ⟨B2, cG - tot ls k, rfl, ?_, by omega, fun hn => by have := a3 (hB2n hn); omega, hm⟩
                  omega
                subst hAe
                have hts' := Lib.hid hts
                have hkI : (k : Int) + 1 ≤ 9001 := by have := HK9.out; omega
                have hd1 : decide (k < ls.length) = true := by simp [hlt]
                have hd2 : decide ((k : Int) < (ls.length : Int)) = true := by simp; omega
                have hltI : (k : Int) < (ls.length : Int) := by omega
                have htI : (tot ls k : Int) + (L.length : Int) ≤ 18000 := by omega
                obtain ⟨hs1, hs2⟩ := sum_fits hts (by have := HGL.out; omega)
                have ht : ((tx L).toList == (tx L).toList) = true := by simp
                skip
                clear hB2 hB2n hsub hts htl hpart hL hel hbs hcell
                go_wp2_with fail
                refine From.start (by kernel_rfl) ?_
                simp only []
                repeat (first | (refine From.read (v := ?_) (by kernel_rfl) (by kernel_rfl) (by kernel_rfl) (fun _ _ _ h => h) (.inl ⟨by rfl, fun u hu => ?_⟩) ?_; rotate_left; (focus (have q1 := HMID.out u hu; go_simp; try with_reducible rfl)); simp only [Act.put, List.setIfInBounds_toArray, List.set_cons_zero, List.set_cons_succ]) | (refine From.read (v := undef) (by kernel_rfl) (by kernel_rfl) (by kernel_rfl) (fun _ _ _ h => h) (.inr ⟨by rfl, rfl⟩) ?_; simp only [Act.put, List.setIfInBounds_toArray, List.set_cons_zero, List.set_cons_succ]))
                refine From.done (by kernel_rfl) ?_
                have hq := (HMID.out _ (Ext.refl _)).1
                clear hs1 hs2 hrun
                go_wp2_with fail
                go_roundw
                case rel => exact ⟨k + 1, by omega, by go_num, by rw [hts'.out]; go_num, HEX.out.trans (Ext.drew _)⟩
                case measure => simp [intOf]; omega
              · obtain rfl : k = ls.length := by omega
                have hd1 : decide (ls.length < ls.length) = false := by simp
                have hd2 : decide ((ls.length : Int) < (ls.length : Int)) = false := by simp
                have HSN := Lib.hid (HSZ2.out.below (HEX.out.trans (Ext.drew _)) HT1.out)
                have HFN := Lib.hid (HFZ.out.below (HEX.out.trans (Ext.drew _)) HT2.out)
                have HBN := Lib.hid (HBZ.out.trans ((HEX.out.trans (Ext.drew _)).mono HBZ.out.size))
                have HTN := Lib.hid (Nat.le_trans HT1.out HEX.out.size)
                have HTN2 := Lib.hid (Nat.le_trans HT2.out HEX.out.size)
                have htF : ((tx FG).toList == (tx FG).toList) = true := by simp
                clear hk hlt
                go_wp2_with fail
                refine at_start (by kernel_rfl) (n := 10) rfl ?_
                have HC0 : Hid (∀ u, Ext wr.drew u → (convert 23 9 (.slice AF FG.length cF)).run Try.prog u = .ok (.string (tx FG)) u) := fun u hu => cv (HFN.out.below hu HTN2.out)
                (refine at_read 0 (v := ?_) rfl (by kernel_rfl) (by kernel_rfl) (by kernel_rfl) (fun _ _ _ h => h) (.inl ⟨by rfl, fun u hu => ?_⟩) ?_; rotate_left; (focus (have q1 := HC0.out u hu; go_simp; try with_reducible rfl)); simp only [Act.put, List.setIfInBounds_toArray, List.set_cons_zero, List.set_cons_succ])
                (refine at_read 3 (v := ?_) rfl (by kernel_rfl) (by kernel_rfl) (by kernel_rfl) (fun _ _ _ h => h) (.inl ⟨by rfl, fun u hu => ?_⟩) ?_; rotate_left; (focus (have q1 := HC0.out u hu; go_simp; try with_reducible rfl)); simp only [Act.put, List.setIfInBounds_toArray, List.set_cons_zero, List.set_cons_succ])
                (refine at_read 4 (v := ?_) rfl (by kernel_rfl) (by kernel_rfl) (by kernel_rfl) (fun _ _ _ h => h) (.inl ⟨by rfl, fun u hu => ?_⟩) ?_; rotate_left; (focus (have q1 := HC0.out u hu; go_simp; try with_reducible rfl)); simp only [Act.put, List.setIfInBounds_toArray, List.set_cons_zero, List.set_cons_succ])
                refine at_make 1 rfl (by kernel_rfl) (fun K hK => ?_)
                go_simp
                refine Calls.mono (HBA.out _ _ _ HSN.out HTN.out) ?_
                rintro e w8 ⟨v8, rfl, hown, hb⟩
                have hs := Bs.of_own hown
                have hs' := hs
                obtain ⟨A8, c8, rfl, q1, q2, q3, q4⟩ := hs
                have HE8 : Hid (Ext wr.drew w8) := hb
                have HC8 : Hid (∀ u, Ext w8 u → (convert 23 9 (.slice A8 FG.length c8)).run Try.prog u = .ok (.string (tx FG)) u) := fun u hu => cv (hs'.below hu (Nat.le_refl _))
                clear q1 q2 q3 q4 hb hown hs'
                go_simp
                refine hK _ _ HE8.out ?_
                clear hK K
                (refine at_read 2 (v := ?_) rfl (by kernel_rfl) (by kernel_rfl) (by kernel_rfl) (fun _ _ _ h => h) (.inl ⟨by rfl, fun u hu => ?_⟩) ?_; rotate_left; (focus (have q1 := HC8.out u hu; go_simp; try with_reducible rfl)); simp only [Act.put, List.setIfInBounds_toArray, List.set_cons_zero, List.set_cons_succ])
                (refine at_read 5 (v := ?_) rfl (by kernel_rfl) (by kernel_rfl) (by kernel_rfl) (fun _ _ _ h => h) (.inl ⟨by rfl, fun u hu => ?_⟩) ?_; rotate_left; (focus (have q1 := HC8.out u hu; go_simp; try with_reducible rfl)); simp only [Act.put, List.setIfInBounds_toArray, List.set_cons_zero, List.set_cons_succ])
                (refine at_read 6 (v := ?_) rfl (by kernel_rfl) (by kernel_rfl) (by kernel_rfl) (fun _ _ _ h => h) (.inl ⟨by rfl, fun u hu => ?_⟩) ?_; rotate_left; (focus (have q1 := HC8.out u hu; go_simp; try with_reducible rfl)); simp only [Act.put, List.setIfInBounds_toArray, List.set_cons_zero, List.set_cons_succ])
                refine at_make 7 rfl (by kernel_rfl) (fun K hK => ?_)
                go_simp
                refine Calls.mono (known_any _) ?_
                rintro e w9 ⟨rfl, hb⟩
                have HE9 : Hid (Ext w8 w9) := hb
                clear hb
                have HC9 : Hid (∀ u, Ext w9 u → True) := fun _ _ => trivial
                go_simp
                refine hK _ _ HE9.out ?_
                clear hK K
                (refine at_read 8 (v := ?_) rfl (by kernel_rfl) (by kernel_rfl) (by kernel_rfl) (fun _ _ _ h => h) (.inl ⟨by rfl, fun u hu => ?_⟩) ?_; rotate_left; (focus (have q1 := HC9.out u hu; go_simp; try with_reducible rfl)); simp only [Act.put, List.setIfInBounds_toArray, List.set_cons_zero, List.set_cons_succ])
                (refine at_read 9 (v := ?_) rfl (by kernel_rfl) (by kernel_rfl) (by kernel_rfl) (fun _ _ _ h => h) (.inl ⟨by rfl, fun u hu => ?_⟩) ?_; rotate_left; (focus (have q1 := HC9.out u hu; go_simp; try with_reducible rfl)); simp only [Act.put, List.setIfInBounds_toArray, List.set_cons_zero, List.set_cons_succ])
                refine at_done (by kernel_rfl) ?_
                go_wp2_with fail
                go_ret
                exact ⟨rfl, HBN.out.trans ((HE8.out.trans HE9.out).mono HBN.out.size)⟩
end Go.Proofs.Ytdggemdgndiafaa.wireRows
