/- BloomMakes: a filter has just its keys' bits, and what is handed in stays, for any at most 600 keys of at most 30000 bytes. -/
import Derived.Test.YtdoieknjhdehmaaBmuch
namespace Go.Proofs.Ytdoieknjhdehmaa.bloomMakes
open Go.ChangeShapes Go.WideShapes Go.ChangeAt Go.RowKit

theorem chk_mk (n : Nat) (h : n ≤ 65536) : chk (bsize n) = 0 := by
  unfold chk
  rw [if_pos]
  rw [okF_iff]
  have := bsize_pos n
  exact ⟨by omega, bsize_mod n, Nat.le_trans (bsize_le h) (by decide)⟩
set_option maxRecDepth 100000 in
set_option maxHeartbeats 8000000 in
theorem walk (w : World) (A : Option Addr) (c : Nat) (vs : List Value) (ls : List (List Nat)) (hlc : ls.length ≤ c) (hc : c ≤ maxLen) (hl : ∀ l ∈ ls, ∀ b ∈ l, b < 256) (h : Rows2 w 0 w.heap.size A vs ls) :
    Calls Try.prog 5 #[.slice A ls.length c] w fun e w' => e = .returned (.bool true) ∧ Below w.heap.size w w' := by
  have HR := Lib.hid h
  have HL := Lib.hid hl
  have HM := Lib.hid (much_any A c _ _ vs ls w h hc hlc)
  have HMK := Lib.hid (make_any A c _ _ vs ls w h (Nat.le_refl _) hc hlc hl)
  have hlen : (ls.length : Int) ≤ 9223372036854775807 := by unfold maxLen at hc; omega
  clear h hl hlc hc
  go_enter Try.func5, Try.ntmps5
  go_wp2_with fail
  refine Calls.mono HM.out ?_
  rintro e w1 ⟨⟨z, rfl, hz⟩, rfl⟩
  have HZ := Lib.hid hz
  clear hz
  cases z with
  | true =>
    go_wp2_with fail
    refine (known_any w).mono ?_
    rintro e w3 ⟨rfl, hb⟩
    go_wp2_with fail
    go_ret
    exact ⟨rfl, hb⟩
  | false =>
    obtain ⟨hf1, hf2⟩ := HZ.out rfl
    have HF1 := Lib.hid hf1
    have HF2 := Lib.hid hf2
    clear hf2 HZ
    have hN : (mk ls).length = bsize ls.length := mk_length ls
    have hNk : chk (bsize ls.length) = 0 := chk_mk _ (by omega)
    have hNl : bsize ls.length ≤ 65544 := bsize_le (by omega)
    have HLT : Hid (∀ x ∈ mk ls, x < 256) := mk_lt ls
    have HRMK : Hid (∀ u, Ext w u → Calls Try.prog 18 #[.slice A ls.length c] u fun e w' => ∃ A' c', e = .returned (.slice A' (bsize ls.length) c') ∧ Own u.heap.size (mk ls) (.slice A' (bsize ls.length) c') w' ∧ Ext u w') := fun u hu =>
      rmake_any A c _ _ vs ls u (HR.out.below hu (Nat.le_refl _)) hu.size (by have := HF1.out; omega) HL.out (fun l hl => by have := HF2.out l hl; omega)
    obtain ⟨N, hNe⟩ : ∃ N, N = bsize ls.length := ⟨_, rfl⟩
    obtain ⟨G, hG⟩ : ∃ G, G = mk ls := ⟨_, rfl⟩
    have HMK2 : Hid (Calls Try.prog 17 #[.slice A ls.length c] w fun e w' => ∃ g c, e = .returned (.tuple #[.slice (some ⟨g, 0, none⟩) N c, .int .i64 0]) ∧ Own w.heap.size G (.slice (some ⟨g, 0, none⟩) N c) w' ∧ Ext w w') := by
      refine HMK.out.mono ?_
      rintro e w' ⟨hx, ⟨h, _⟩ | ⟨_, g, c, he, ho⟩⟩
      · have := HF1.out; omega
      · exact ⟨g, c, by rw [hNe]; exact he, by rw [hNe, hG]; exact ho, hx⟩
    rw [← hNe, ← hG] at HRMK
    rw [← hNe, ← hG] at hN
    rw [← hNe] at hNk hNl
    rw [← hG] at HLT
    have HN := Lib.hid hN
    have HNL := Lib.hid hNl
    clear hN hNe hG HMK hf1
    have HCK : Hid (∀ (u : World) (g c : Nat), Calls Try.prog 19 #[.slice (some ⟨g, 0, none⟩) N c] u fun e w' => e = .returned (.int .i64 0) ∧ u = w') := fun u g c => check_is (by omega) hNk
    clear hNl hNk
    obtain ⟨K, hK⟩ : ∃ K, K = cnt G := ⟨_, rfl⟩
    have HKP := Lib.hid hK
    clear hK
    go_wp2_with fail
    refine Calls.mono HMK2.out ?_
    rintro e w2 ⟨g, c2, rfl, ho, hx⟩
    have HO2 := Lib.hid ho
    have HX2 : Hid (Ext w w2) := hx
    have HCN : Hid (∀ u, Ext w2 u → Calls Try.prog 20 #[.slice (some ⟨g, 0, none⟩) N c2] u fun e w' => e = .returned (.int .i64 (K : Int)) ∧ u = w') := fun u hu => by
      rw [HKP.out]; exact count_any (HO2.out.below hu).bs HLT.out (by have := HNL.out; have := HN.out; omega)
    have HRC : Hid (∀ u, Ext w2 u → Calls Try.prog 21 #[.slice (some ⟨g, 0, none⟩) N c2] u fun e w' => e = .returned (.int .i64 (K : Int)) ∧ u = w') := fun u hu => by
      have hb := (HO2.out.below hu).bs
      rw [← HN.out] at hb ⊢
      rw [HKP.out]; exact rcount_any hb HLT.out (by have := HNL.out; have := HN.out; omega)
    have HCV : Hid (∀ u, Ext w2 u → (convert 25 9 (.slice (some ⟨g, 0, none⟩) N c2)).run Try.prog u = .ok (.string (tx G)) u) := fun u hu => cv (HO2.out.below hu).bs
    have heq : ((tx G).toList == (tx G).toList) = true := by simp
    have HEQ := Lib.hid heq
    clear ho hx heq
    go_upto_region 4 with (fail)
    refine flow (by kernel_rfl) [Is (.slice (some ⟨g, 0, none⟩) N c2), Is (.string (tx G)), Is (.slice A ls.length c), Own w.heap.size G, Is (.string (tx G)), Is (.bool true), Is (.bool true), Is (.int .i64 0), Is (.int .i64 0), Is (.bool true), Is (.bool true), Is (.bool true), Is (.slice (some ⟨g, 0, none⟩) N c2), Is (.int .i64 0), Is (.int .i64 0), Is (.bool true), Is (.bool true), Is (.bool true), Is (.slice (some ⟨g, 0, none⟩) N c2), Is (.int .i64 (K : Int)), Is (.slice (some ⟨g, 0, none⟩) N c2), Is (.int .i64 (K : Int)), Is (.bool true), Is (.bool true), Is (.bool true), Is (.bool true), Is (.bool true), Is (.bool true)] (by kernel_rfl) (by kernel_rfl) ?mono (fun f1 => ?obl) ?fin
    case mono =>
      simp only [List.forall_mem_cons, List.not_mem_nil, false_imp_iff, implies_true, and_true]
      exact ⟨.is _, .is _, .is _, .own _ _, .is _, .is _, .is _, .is _, .is _, .is _, .is _, .is _, .is _, .is _, .is _, .is _, .is _, .is _, .is _, .is _, .is _, .is _, .is _, .is _, .is _, .is _, .is _, .is _⟩
    case fin =>
      intro g1 u hu hg
      simp only [puts, Act.put, List.setIfInBounds_toArray, List.set_cons_zero, List.set_cons_succ]
      have h27 : g1 27 = .bool true := hg 27 (by decide)
      rw [h27]
      have HXU : Hid (Ext w u) := Ext.trans HX2.out (Ext.trans (Ext.drew w2) hu)
      clear hg hu
      go_wp2_with fail
      go_ret
      exact ⟨rfl, HXU.out⟩
    case obl =>
      refine ⟨fun u hu hd => ?_, ?_⟩
      · go_simp
        exact ⟨Ext.refl _, rfl⟩
      refine ⟨fun u hu hd => ?_, ?_⟩
      · simp only [Act.put, List.setIfInBounds_toArray, List.set_cons_zero, List.set_cons_succ]
        have e0 : f1 0 = .slice (some ⟨g, 0, none⟩) N c2 := hd 0 (by kernel_rfl)
        have hu2 := Ext.trans (Ext.drew w2) hu
        have q1 := HCV.out u hu2
        go_simp
        exact ⟨Ext.refl _, rfl⟩
      refine ⟨fun u hu hd => ?_, ?_⟩
      · simp only [Act.put, List.setIfInBounds_toArray, List.set_cons_zero, List.set_cons_succ]
        go_simp
        exact ⟨Ext.refl _, rfl⟩
      refine ⟨fun u hu hd => ?_, ?_⟩
      · simp only [Act.put, List.setIfInBounds_toArray, List.set_cons_zero, List.set_cons_succ]
        have e2 : f1 2 = .slice A ls.length c := hd 2 (by kernel_rfl)
        have hu2 := Ext.trans (Ext.drew w2) hu
        go_simp
        refine Calls.mono (HRMK.out u (Ext.trans HX2.out hu2)) ?_
        rintro y w9 ⟨A9, c9, rfl, ho9, hx9⟩
        exact ⟨_, rfl, hx9, ho9.base (Ext.trans HX2.out hu2).size⟩
      refine ⟨fun u hu hd => ?_, ?_⟩
      · simp only [Act.put, List.setIfInBounds_toArray, List.set_cons_zero, List.set_cons_succ]
        have o3 : Own w.heap.size G (f1 3) u := hd 3 (by kernel_rfl)
        obtain ⟨A5, c5, e5⟩ := o3.slice
        rw [e5] at o3
        have q1 := cv o3.bs
        go_simp
        exact ⟨Ext.refl _, rfl⟩
      refine ⟨fun u hu hd => ?_, ?_⟩
      · simp only [Act.put, List.setIfInBounds_toArray, List.set_cons_zero, List.set_cons_succ]
        have e1 : f1 1 = .string (tx G) := hd 1 (by kernel_rfl)
        have e4 : f1 4 = .string (tx G) := hd 4 (by kernel_rfl)
        have q1 := HEQ.out
        go_simp
        exact ⟨Ext.refl _, rfl⟩
      refine ⟨fun u hu hd => ?_, ?_⟩
      · simp only [Act.put, List.setIfInBounds_toArray, List.set_cons_zero, List.set_cons_succ]
        have e5 : f1 5 = .bool true := hd 5 (by kernel_rfl)
        go_simp
        exact ⟨Ext.refl _, rfl⟩
      refine ⟨fun u hu hd => ?_, ?_⟩
      · simp only [Act.put, List.setIfInBounds_toArray, List.set_cons_zero, List.set_cons_succ]
        have e6 : f1 6 = .bool true := hd 6 (by kernel_rfl)
        go_simp
        exact ⟨Ext.refl _, rfl⟩
      refine ⟨fun u hu hd => ?_, ?_⟩
      · simp only [Act.put, List.setIfInBounds_toArray, List.set_cons_zero, List.set_cons_succ]
        have e6 : f1 6 = .bool true := hd 6 (by kernel_rfl)
        have e7 : f1 7 = .int .i64 0 := hd 7 (by kernel_rfl)
        go_simp
        refine (num_any 0 u).mono ?_
        rintro y w9 ⟨rfl, rfl⟩
        exact ⟨_, rfl, Ext.refl _, rfl⟩
      refine ⟨fun u hu hd => ?_, ?_⟩
      · simp only [Act.put, List.setIfInBounds_toArray, List.set_cons_zero, List.set_cons_succ]
        have e6 : f1 6 = .bool true := hd 6 (by kernel_rfl)
        have e8 : f1 8 = .int .i64 0 := hd 8 (by kernel_rfl)
        go_simp
        exact ⟨Ext.refl _, rfl⟩
      refine ⟨fun u hu hd => ?_, ?_⟩
      · simp only [Act.put, List.setIfInBounds_toArray, List.set_cons_zero, List.set_cons_succ]
        have e6 : f1 6 = .bool true := hd 6 (by kernel_rfl)
        have e9 : f1 9 = .bool true := hd 9 (by kernel_rfl)
        go_simp
        exact ⟨Ext.refl _, rfl⟩
      refine ⟨fun u hu hd => ?_, ?_⟩
      · simp only [Act.put, List.setIfInBounds_toArray, List.set_cons_zero, List.set_cons_succ]
        have e10 : f1 10 = .bool true := hd 10 (by kernel_rfl)
        go_simp
        exact ⟨Ext.refl _, rfl⟩
      refine ⟨fun u hu hd => ?_, ?_⟩
      · simp only [Act.put, List.setIfInBounds_toArray, List.set_cons_zero, List.set_cons_succ]
        have e11 : f1 11 = .bool true := hd 11 (by kernel_rfl)
        go_simp
        exact ⟨Ext.refl _, rfl⟩
      refine ⟨fun u hu hd => ?_, ?_⟩
      · simp only [Act.put, List.setIfInBounds_toArray, List.set_cons_zero, List.set_cons_succ]
        have e11 : f1 11 = .bool true := hd 11 (by kernel_rfl)
        have e12 : f1 12 = .slice (some ⟨g, 0, none⟩) N c2 := hd 12 (by kernel_rfl)
        have hu2 := Ext.trans (Ext.drew w2) hu
        go_simp
        refine Calls.mono (HCK.out u g c2) ?_
        rintro y w9 ⟨rfl, rfl⟩
        exact ⟨_, rfl, Ext.refl _, rfl⟩
      refine ⟨fun u hu hd => ?_, ?_⟩
      · simp only [Act.put, List.setIfInBounds_toArray, List.set_cons_zero, List.set_cons_succ]
        have e11 : f1 11 = .bool true := hd 11 (by kernel_rfl)
        have e13 : f1 13 = .int .i64 0 := hd 13 (by kernel_rfl)
        go_simp
        refine (num_any 0 u).mono ?_
        rintro y w9 ⟨rfl, rfl⟩
        exact ⟨_, rfl, Ext.refl _, rfl⟩
      refine ⟨fun u hu hd => ?_, ?_⟩
      · simp only [Act.put, List.setIfInBounds_toArray, List.set_cons_zero, List.set_cons_succ]
        have e11 : f1 11 = .bool true := hd 11 (by kernel_rfl)
        have e14 : f1 14 = .int .i64 0 := hd 14 (by kernel_rfl)
        go_simp
        exact ⟨Ext.refl _, rfl⟩
      refine ⟨fun u hu hd => ?_, ?_⟩
      · simp only [Act.put, List.setIfInBounds_toArray, List.set_cons_zero, List.set_cons_succ]
        have e11 : f1 11 = .bool true := hd 11 (by kernel_rfl)
        have e15 : f1 15 = .bool true := hd 15 (by kernel_rfl)
        go_simp
        exact ⟨Ext.refl _, rfl⟩
      refine ⟨fun u hu hd => ?_, ?_⟩
      · simp only [Act.put, List.setIfInBounds_toArray, List.set_cons_zero, List.set_cons_succ]
        have e16 : f1 16 = .bool true := hd 16 (by kernel_rfl)
        go_simp
        exact ⟨Ext.refl _, rfl⟩
      refine ⟨fun u hu hd => ?_, ?_⟩
      · simp only [Act.put, List.setIfInBounds_toArray, List.set_cons_zero, List.set_cons_succ]
        have e17 : f1 17 = .bool true := hd 17 (by kernel_rfl)
        go_simp
        exact ⟨Ext.refl _, rfl⟩
      refine ⟨fun u hu hd => ?_, ?_⟩
      · simp only [Act.put, List.setIfInBounds_toArray, List.set_cons_zero, List.set_cons_succ]
        have e17 : f1 17 = .bool true := hd 17 (by kernel_rfl)
        have e18 : f1 18 = .slice (some ⟨g, 0, none⟩) N c2 := hd 18 (by kernel_rfl)
        have hu2 := Ext.trans (Ext.drew w2) hu
        go_simp
        refine Calls.mono (HCN.out u hu2) ?_
        rintro y w9 ⟨rfl, rfl⟩
        exact ⟨_, rfl, Ext.refl _, rfl⟩
      refine ⟨fun u hu hd => ?_, ?_⟩
      · simp only [Act.put, List.setIfInBounds_toArray, List.set_cons_zero, List.set_cons_succ]
        have e17 : f1 17 = .bool true := hd 17 (by kernel_rfl)
        go_simp
        exact ⟨Ext.refl _, rfl⟩
      refine ⟨fun u hu hd => ?_, ?_⟩
      · simp only [Act.put, List.setIfInBounds_toArray, List.set_cons_zero, List.set_cons_succ]
        have e17 : f1 17 = .bool true := hd 17 (by kernel_rfl)
        have e20 : f1 20 = .slice (some ⟨g, 0, none⟩) N c2 := hd 20 (by kernel_rfl)
        have hu2 := Ext.trans (Ext.drew w2) hu
        go_simp
        refine Calls.mono (HRC.out u hu2) ?_
        rintro y w9 ⟨rfl, rfl⟩
        exact ⟨_, rfl, Ext.refl _, rfl⟩
      refine ⟨fun u hu hd => ?_, ?_⟩
      · simp only [Act.put, List.setIfInBounds_toArray, List.set_cons_zero, List.set_cons_succ]
        have e17 : f1 17 = .bool true := hd 17 (by kernel_rfl)
        have e19 : f1 19 = .int .i64 (K : Int) := hd 19 (by kernel_rfl)
        have e21 : f1 21 = .int .i64 (K : Int) := hd 21 (by kernel_rfl)
        go_simp
        first | done | exact ⟨Ext.refl _, rfl⟩ | (refine ⟨Ext.refl _, ?_⟩; show Value.bool _ = Value.bool true; simp)
      refine ⟨fun u hu hd => ?_, ?_⟩
      · simp only [Act.put, List.setIfInBounds_toArray, List.set_cons_zero, List.set_cons_succ]
        have e17 : f1 17 = .bool true := hd 17 (by kernel_rfl)
        have e22 : f1 22 = .bool true := hd 22 (by kernel_rfl)
        go_simp
        exact ⟨Ext.refl _, rfl⟩
      refine ⟨fun u hu hd => ?_, ?_⟩
      · simp only [Act.put, List.setIfInBounds_toArray, List.set_cons_zero, List.set_cons_succ]
        have e23 : f1 23 = .bool true := hd 23 (by kernel_rfl)
        go_simp
        exact ⟨Ext.refl _, rfl⟩
      refine ⟨fun u hu hd => ?_, ?_⟩
      · simp only [Act.put, List.setIfInBounds_toArray, List.set_cons_zero, List.set_cons_succ]
        have e24 : f1 24 = .bool true := hd 24 (by kernel_rfl)
        go_simp
        refine (known_any u).mono ?_
        rintro y w9 ⟨rfl, hy⟩
        exact ⟨_, rfl, hy, rfl⟩
      refine ⟨fun u hu hd => ?_, ?_⟩
      · simp only [Act.put, List.setIfInBounds_toArray, List.set_cons_zero, List.set_cons_succ]
        have e24 : f1 24 = .bool true := hd 24 (by kernel_rfl)
        have e25 : f1 25 = .bool true := hd 25 (by kernel_rfl)
        go_simp
        exact ⟨Ext.refl _, rfl⟩
      refine ⟨fun u hu hd => ?_, ?_⟩
      · simp only [Act.put, List.setIfInBounds_toArray, List.set_cons_zero, List.set_cons_succ]
        have e26 : f1 26 = .bool true := hd 26 (by kernel_rfl)
        go_simp
        exact ⟨Ext.refl _, rfl⟩
      trivial
end Go.Proofs.Ytdoieknjhdehmaa.bloomMakes

