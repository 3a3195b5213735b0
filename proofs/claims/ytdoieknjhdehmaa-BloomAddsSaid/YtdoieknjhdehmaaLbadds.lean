/- BloomAdds: a key more is another filter, which has its bits, too, and the one that is handed in stays, for any bytes of at most 30000, any key of at most 9000. -/
import Derived.Test.YtdoieknjhdehmaaBknown
namespace Go.Proofs.Ytdoieknjhdehmaa.bloomAdds
open Go.ChangeShapes Go.WideShapes Go.ChangeAt Go.RowKit

set_option maxRecDepth 100000 in
set_option maxHeartbeats 8000000 in
theorem walk (w : World) (u : Value) (F : List Nat) (hF : ∀ b ∈ F, b < 256) (hu : Bs w 0 w.heap.size u F) (v : Value) (l : List Nat) (hl : ∀ b ∈ l, b < 256) (hv : Bs w 0 w.heap.size v l) :
    Calls Try.prog 7 #[u, v] w fun e w' => e = .returned (.bool true) ∧ Below w.heap.size w w' := by
  have HU := Lib.hid hu
  have HV := Lib.hid hv
  have HF := Lib.hid hF
  have HL := Lib.hid hl
  obtain ⟨A, c, rfl, q1, q2, q3, _⟩ := hu
  obtain ⟨A2, c2, rfl, p1, p2, p3, _⟩ := hv
  have hFl : (F.length : Int) ≤ 9223372036854775807 := by unfold maxLen at q2; omega
  have hll : (l.length : Int) ≤ 9223372036854775807 := by unfold maxLen at p2; omega
  clear q1 q2 q3 p1 p2 p3 hl hF
  by_cases hb1 : 30000 < F.length
  · have hd : decide ((30000 : Int) < (F.length : Int)) = true := by simp; omega
    have hd2 : decide (30000 < F.length) = true := by simp; omega
    clear hb1
    go_enter Try.func7, Try.ntmps7
    go_wp2_with fail
    refine (known_any w).mono ?_
    rintro e w3 ⟨rfl, hb⟩
    go_wp2_with fail
    go_ret
    exact ⟨rfl, hb⟩
  · have hd : decide ((30000 : Int) < (F.length : Int)) = false := by simp; omega
    have hd2 : decide (30000 < F.length) = false := by simp; omega
    have HF1 := Lib.hid (show F.length ≤ 30000 by omega)
    clear hb1
    by_cases hb2 : 9000 < l.length
    · have he : decide ((9000 : Int) < (l.length : Int)) = true := by simp; omega
      have he2 : decide (9000 < l.length) = true := by simp; omega
      clear hb2
      go_enter Try.func7, Try.ntmps7
      go_wp2_with fail
      refine (known_any w).mono ?_
      rintro e w3 ⟨rfl, hb⟩
      go_wp2_with fail
      go_ret
      exact ⟨rfl, hb⟩
    · have he : decide ((9000 : Int) < (l.length : Int)) = false := by simp; omega
      have he2 : decide (9000 < l.length) = false := by simp; omega
      have HL1 := Lib.hid (show l.length ≤ 1000000 by omega)
      clear hb2
      obtain ⟨N, hN⟩ : ∃ N, N = F.length := ⟨_, rfl⟩
      have HN := Lib.hid hN
      rw [← hN] at HU hd hd2 hFl ⊢
      clear hN
      go_enter Try.func7, Try.ntmps7
      go_wp2_with (at_builtin; refine wpList_addn rfl (.const (.slice none 0 0)) (.tmp 17) rfl w.heap.size _ [] rfl (Own.nil _ _) _ _ _ F rfl HU.out F N rfl HN.out.symm (by have := HF1.out; have := HN.out; omega) (Nat.le_refl _) ?_)
      intro A3 c3 w3 ho hb
      have HO3 := Lib.hid ho
      have HX3 : Hid (Ext w w3) := hb w (Ext.refl _)
      clear ho hb
      go_wp2_with (at_builtin; refine wpList_addn rfl (.tmp 18) (.tmp 19) rfl w.heap.size _ F rfl (HO3.out.below (ext_alloc w3 _)) _ _ _ [119] rfl (bs_new w3 [119] (by simp)) (F ++ [119]) (N + 1) rfl (by rw [HN.out]; simp) (by have := HF1.out; have := HN.out; omega) (by have := HX3.out.size; simp; omega) ?_)
      intro A4 c4 w4 ho hb
      have HO4 := Lib.hid ho
      have HX4 : Hid (Ext w w4) := hb w (Ext.trans HX3.out (ext_alloc w3 _))
      have hc4 : N + 1 ≤ c4 := by
        obtain ⟨A', c', he, h1, _⟩ := ho.bs
        injection he with _ x y
        rw [← x] at h1; omega
      clear ho hb
      have HOB : Hid (Bs w4 0 w4.heap.size (.slice A4 N c4) F) := by
        have h := HO4.out.bs.head (k := N) (by omega)
        rw [List.take_append_of_le_length (by rw [HN.out]; exact Nat.le_refl _), HN.out, List.take_length] at h
        rw [HN.out]; exact h
      have HADD := Lib.hid (add_any HOB.out (Nat.le_refl _) HF.out (HV.out.below HX4.out (Nat.le_refl _)) HX4.out.size HL.out)
      have hNle : (N : Int) ≤ 30000 := by have := HF1.out; have := HN.out; omega
      clear hFl
      go_wp2_with fail
      refine Calls.mono HADD.out ?_
      rintro e w5 ⟨hx, had⟩
      have HX45 : Hid (Ext w4 w5) := hx
      have HX5 : Hid (Ext w w5) := Ext.trans HX4.out hx
      have HAD := Lib.hid had
      have HU5 : Hid (Bs w5 0 w.heap.size (.slice A N c) F) := HU.out.below HX5.out (Nat.le_refl _)
      have cv1 := cv (HO4.out.below HX45.out).bs
      have cv2 := cv HU5.out
      obtain ⟨S, hsum, hS⟩ := add_text F (by have := HF1.out; omega)
      have hne : ((tx (F ++ [119])).toList != S.toList) = false := by rw [hS]; simp
      have hne2 : ((tx (F ++ [119])).toList == S.toList) = true := by rw [hS]; simp
      have HCK : Hid (∀ W, Calls Try.prog 24 #[.slice A N c] W fun e w' => e = .returned (.int .i64 (chk N)) ∧ W = w') := fun W => rcheck_any (by omega)
      clear hx had hS
      cases hok : okF F.length with
      | false =>
        have hck : chk N = 4 := by rw [HN.out]; unfold chk; rw [hok]; rfl
        rw [hck] at HCK
        have HOK := Lib.hid hok
        clear hck hok
        rcases HAD.out with ⟨_, rfl⟩ | ⟨h, _⟩
        · go_wp2_with fail
          refine (num_any _ _).mono ?_
          rintro e w6 ⟨rfl, rfl⟩
          go_wp2_with fail
          refine Calls.mono (HCK.out w5) ?_
          rintro e w6 ⟨rfl, rfl⟩
          go_wp2_with fail
          refine (num_any _ _).mono ?_
          rintro e w6 ⟨rfl, rfl⟩
          go_wp2_with fail
          refine (known_any w5).mono ?_
          rintro e w6 ⟨rfl, hb⟩
          go_wp2_with fail
          go_ret
          exact ⟨rfl, Ext.trans HX5.out hb⟩
        · rw [HOK.out] at h; cases h
      | true =>
        have hck : chk N = 0 := by rw [HN.out]; unfold chk; rw [hok]; rfl
        rw [hck] at HCK
        obtain ⟨n0, _, n1⟩ := okF_iff.1 hok
        have HN0 : Hid (0 < F.length) := Nat.pos_of_ne_zero n0
        have HN1 := Lib.hid n1
        have HOK := Lib.hid hok
        clear hck hok n0 n1
        rcases HAD.out with ⟨h, _⟩ | ⟨_, g, c6, rfl, ho⟩
        · rw [HOK.out] at h; cases h
        · rw [← HN.out] at ho ⊢
          obtain ⟨G, hG⟩ : ∃ G, G = addK F l := ⟨_, rfl⟩
          have HGL : Hid (G.length = N) := by rw [hG, addK_length]; exact HN.out.symm
          have HGB : Hid (∀ x ∈ G, x < 256) := by rw [hG]; exact addK_lt HF.out l
          have HMB : Hid (mayB G l = true) := by rw [hG]; exact may_addK HN0.out
          have HO6 : Hid (Own w.heap.size G (.slice (some ⟨g, 0, none⟩) N c6) w5) := by rw [hG]; exact ho.base HX4.out.size
          have HRA : Hid (∀ W, Ext w5 W → Calls Try.prog 26 #[.slice A N c, .slice A2 l.length c2] W fun e w' => ∃ g c, e = .returned (.slice (some ⟨g, 0, none⟩) N c) ∧ Own W.heap.size G (.slice (some ⟨g, 0, none⟩) N c) w' ∧ Ext W w') := fun W hW => by
            have h := radd_any (HU5.out.below hW HX5.out.size) HF.out HN0.out HN1.out (HV.out.below (Ext.trans HX5.out hW) (Nat.le_refl _)) (Ext.trans HX5.out hW).size HL.out HL1.out
            rw [← HN.out, ← hG] at h
            exact h
          have HMY : Hid (∀ W, Ext w5 W → Calls Try.prog 22 #[.slice (some ⟨g, 0, none⟩) N c6, .slice A2 l.length c2] W fun e w' => e = .returned (.bool true) ∧ Ext W w') := fun W hW => by
            have hb := (HO6.out.below hW).bs
            refine may_is hb (Nat.le_refl _) HGB.out (HV.out.below (Ext.trans HX5.out hW) (Nat.le_refl _)) (Ext.trans HX5.out hW).size HL.out ?_
            rw [HMB.out, Bool.or_true]
          have HCV : Hid (∀ W, Ext w5 W → (convert 25 9 (.slice (some ⟨g, 0, none⟩) N c6)).run Try.prog W = .ok (.string (tx G)) W) := fun W hW => cv (HO6.out.below hW).bs
          have HEQ : Hid (((tx G).toList == (tx G).toList) = true) := by simp [Hid]
          clear ho hG
          go_upto_region 9 with (first | (go_at_call 14; refine (num_any _ _).mono ?_; rintro e w6 ⟨rfl, rfl⟩) | (go_at_call 24; refine Calls.mono (HCK.out w5) ?_; rintro e w6 ⟨rfl, rfl⟩))
          clear cv1 cv2 hne hne2 hsum
          refine flow (by kernel_rfl) [Is (.slice (some ⟨g, 0, none⟩) N c6), Is (.string (tx G)), Is (.slice A N c), Is (.slice A2 l.length c2), Own w.heap.size G, Is (.string (tx G)), Is (.bool true), Is (.bool true), Is (.slice (some ⟨g, 0, none⟩) N c6), Is (.slice A2 l.length c2), Is (.bool true), Is (.bool true), Is (.bool true), Is (.bool true), Is (.bool true), Is (.bool true)] (by kernel_rfl) (by kernel_rfl) ?mono (fun f1 => ?obl) ?fin
          case mono =>
            simp only [List.forall_mem_cons, List.not_mem_nil, false_imp_iff, implies_true, and_true]
            exact ⟨.is _, .is _, .is _, .is _, .own _ _, .is _, .is _, .is _, .is _, .is _, .is _, .is _, .is _, .is _, .is _, .is _⟩
          case fin =>
            intro g1 u hu hg
            simp only [puts, Act.put, List.setIfInBounds_toArray, List.set_cons_zero, List.set_cons_succ]
            have h15 : g1 15 = .bool true := hg 15 (by decide)
            rw [h15]
            have HXU : Hid (Ext w u) := Ext.trans HX5.out (Ext.trans (Ext.drew w5) hu)
            clear hg hu
            go_wp2_with fail
            go_ret
            exact ⟨rfl, HXU.out⟩
          case obl =>
            refine ⟨fun u hu hd => ?_, ?_⟩
            · go_simp
              exact ⟨Ext.refl _, rfl⟩
            refine ⟨fun u hu hd => ?_, ?_⟩
            · simp only [Act.put, List.setIfInBounds_toArray, List.set_cons_zero, List.set_cons_succ]
              have e0 : f1 0 = .slice (some ⟨g, 0, none⟩) N c6 := hd 0 (by kernel_rfl)
              have hu2 := Ext.trans (Ext.drew w5) hu
              have q1 := HCV.out u hu2
              go_simp
              exact ⟨Ext.refl _, rfl⟩
            refine ⟨fun u hu hd => ?_, ?_⟩
            · simp only [Act.put, List.setIfInBounds_toArray, List.set_cons_zero, List.set_cons_succ]
              go_simp
              exact ⟨Ext.refl _, rfl⟩
            refine ⟨fun u hu hd => ?_, ?_⟩
            · simp only [Act.put, List.setIfInBounds_toArray, List.set_cons_zero, List.set_cons_succ]
              go_simp
              exact ⟨Ext.refl _, rfl⟩
            refine ⟨fun u hu hd => ?_, ?_⟩
            · simp only [Act.put, List.setIfInBounds_toArray, List.set_cons_zero, List.set_cons_succ]
              have e2 : f1 2 = .slice A N c := hd 2 (by kernel_rfl)
              have e3 : f1 3 = .slice A2 l.length c2 := hd 3 (by kernel_rfl)
              have hu2 := Ext.trans (Ext.drew w5) hu
              go_simp
              refine Calls.mono (HRA.out u hu2) ?_
              rintro y w9 ⟨g9, c9, rfl, ho9, hx9⟩
              exact ⟨_, rfl, hx9, ho9.base (Ext.trans HX5.out hu2).size⟩
            refine ⟨fun u hu hd => ?_, ?_⟩
            · simp only [Act.put, List.setIfInBounds_toArray, List.set_cons_zero, List.set_cons_succ]
              have o3 : Own w.heap.size G (f1 4) u := hd 4 (by kernel_rfl)
              obtain ⟨A5, c5, e5⟩ := o3.slice
              rw [e5] at o3
              have q1 := cv o3.bs
              go_simp
              exact ⟨Ext.refl _, rfl⟩
            refine ⟨fun u hu hd => ?_, ?_⟩
            · simp only [Act.put, List.setIfInBounds_toArray, List.set_cons_zero, List.set_cons_succ]
              have e1 : f1 1 = .string (tx G) := hd 1 (by kernel_rfl)
              have e5 : f1 5 = .string (tx G) := hd 5 (by kernel_rfl)
              have q1 := HEQ.out
              go_simp
              exact ⟨Ext.refl _, rfl⟩
            refine ⟨fun u hu hd => ?_, ?_⟩
            · simp only [Act.put, List.setIfInBounds_toArray, List.set_cons_zero, List.set_cons_succ]
              have e6 : f1 6 = .bool true := hd 6 (by kernel_rfl)
              go_simp
              exact ⟨Ext.refl _, rfl⟩
            refine ⟨fun u hu hd => ?_, ?_⟩
            · simp only [Act.put, List.setIfInBounds_toArray, List.set_cons_zero, List.set_cons_succ]
              have e7 : f1 7 = .bool true := hd 7 (by kernel_rfl)
              go_simp
              exact ⟨Ext.refl _, rfl⟩
            refine ⟨fun u hu hd => ?_, ?_⟩
            · simp only [Act.put, List.setIfInBounds_toArray, List.set_cons_zero, List.set_cons_succ]
              have e7 : f1 7 = .bool true := hd 7 (by kernel_rfl)
              go_simp
              exact ⟨Ext.refl _, rfl⟩
            refine ⟨fun u hu hd => ?_, ?_⟩
            · simp only [Act.put, List.setIfInBounds_toArray, List.set_cons_zero, List.set_cons_succ]
              have e7 : f1 7 = .bool true := hd 7 (by kernel_rfl)
              have e8 : f1 8 = .slice (some ⟨g, 0, none⟩) N c6 := hd 8 (by kernel_rfl)
              have e9 : f1 9 = .slice A2 l.length c2 := hd 9 (by kernel_rfl)
              have hu2 := Ext.trans (Ext.drew w5) hu
              go_simp
              refine Calls.mono (HMY.out u hu2) ?_
              rintro y w9 ⟨rfl, hy⟩
              exact ⟨_, rfl, hy, rfl⟩
            refine ⟨fun u hu hd => ?_, ?_⟩
            · simp only [Act.put, List.setIfInBounds_toArray, List.set_cons_zero, List.set_cons_succ]
              have e7 : f1 7 = .bool true := hd 7 (by kernel_rfl)
              have e10 : f1 10 = .bool true := hd 10 (by kernel_rfl)
              go_simp
              exact ⟨Ext.refl _, rfl⟩
            refine ⟨fun u hu hd => ?_, ?_⟩
            · simp only [Act.put, List.setIfInBounds_toArray, List.set_cons_zero, List.set_cons_succ]
              have e11 : f1 11 = .bool true := hd 11 (by kernel_rfl)
              go_simp
              exact ⟨Ext.refl _, rfl⟩
            refine ⟨fun u hu hd => ?_, ?_⟩
            · simp only [Act.put, List.setIfInBounds_toArray, List.set_cons_zero, List.set_cons_succ]
              have e12 : f1 12 = .bool true := hd 12 (by kernel_rfl)
              go_simp
              refine (known_any u).mono ?_
              rintro y w9 ⟨rfl, hy⟩
              exact ⟨_, rfl, hy, rfl⟩
            refine ⟨fun u hu hd => ?_, ?_⟩
            · simp only [Act.put, List.setIfInBounds_toArray, List.set_cons_zero, List.set_cons_succ]
              have e12 : f1 12 = .bool true := hd 12 (by kernel_rfl)
              have e13 : f1 13 = .bool true := hd 13 (by kernel_rfl)
              go_simp
              exact ⟨Ext.refl _, rfl⟩
            refine ⟨fun u hu hd => ?_, ?_⟩
            · simp only [Act.put, List.setIfInBounds_toArray, List.set_cons_zero, List.set_cons_succ]
              have e14 : f1 14 = .bool true := hd 14 (by kernel_rfl)
              go_simp
              exact ⟨Ext.refl _, rfl⟩
            trivial
end Go.Proofs.Ytdoieknjhdehmaa.bloomAdds

