import Derived.Test.YtkdidghfcfcpfaaGreatMc4
import Derived.Test.YtkdidghfcfcpfaaGreatMc6
import Derived.Test.YtkdidghfcfcpfaaGreatMc0
namespace Go.Proofs.YtkdidghfcfcpfaaGreat
open Go.ChangeShapes Go.WideShapes Go.ChangeAt Go.RowKit
def RiseTo (l : List Ent) (k : Nat) : Prop := ∀ j a b, j + 1 < k → l[j]? = some a → l[j + 1]? = some b → cmpE a b < 0
set_option maxRecDepth 100000 in
set_option maxHeartbeats 8000000 in
theorem rrises_any {w : World} {lo hi : Nat} {A : Option Addr} {c : Nat} {L : List (Ent × Hd)} (h : Es w lo hi A L) (hhi : hi ≤ w.heap.size) (hlen : L.length ≤ 1000000) (hln : ∀ p ∈ L, p.1.key.length + p.1.val.length < 100000) :
    Calls Tryz.prog 49 #[.slice A L.length c] w fun x w' => ∃ z : Bool, (z = true ↔ Rise (L.map Prod.fst) ∧ (L.all fun p => p.1.may) = true) ∧ x = .returned (.bool z) ∧ Ext w w' := by
 have HE := zHd h
 have HHI := zHd hhi
 have HL := zHd hlen
 have HLN := zHd hln
 clear h hhi hln
 go_enter Tryz.func49, Tryz.ntmps49
 go_wp2_with fail
 go_loopw [3] (fun i wr => ∃ k : Nat, k ≤ L.length ∧ i = .int .i64 (k : Int) ∧ Hid (RiseTo (L.map Prod.fst) k) ∧ Hid ((L.take k).all (fun p => p.1.may) = true) ∧ Hid (Ext w wr)) (fun i _ => L.length - (intOf i).toNat)
 case atStart => exact ⟨0, by omega, rfl, zHd (fun j a b hj => by omega), by simp [Hid], zHd (Ext.refl _)⟩
 case round =>
  obtain ⟨k, hk, rfl, HR, HM, HX⟩ := hrel
  by_cases hlt : k < L.length
  · have d : decide ((k : Int) < (L.length : Int)) = true := decide_eq_true (by omega)
    have dn : decide (k < L.length) = true := decide_eq_true hlt
    obtain ⟨b, o, hA⟩ := HE.out.base (by omega)
    subst hA
    obtain ⟨p, hp⟩ : ∃ p, L[k]? = some p := ⟨_, List.getElem?_eq_getElem hlt⟩
    obtain ⟨c0, c1, c2, c3⟩ := (HE.out.below HX.out HHI.out).get hp
    have HP := zHd hp
    have n1 : (0 : Int) ≤ (k : Int) := by omega
    have n2 : (k : Int) < (L.length : Int) := by omega
    have HLT := zHd hlt
    obtain ⟨z, hz⟩ : ∃ z, z = mayN p.1.key.length p.1.seq p.1.kind p.1.val.length := ⟨_, rfl⟩
    have HZ := zHd hz
    clear hp hz
    cases z with
    | false =>
     go_upto_region 4 with (fail)
     refine flow (by kernel_rfl) [Is (.slice (some ⟨b, o, none⟩) L.length c), Is (.int .i64 (k : Int)), Is (.pointer (some ⟨b, o + k * 4, none⟩)), Is (.agg #[.slice p.2.kA p.1.key.length p.2.kc, .int .i64 p.1.seq, .int .i64 p.1.kind, .slice p.2.vA p.1.val.length p.2.vc]), Is (.bool false), Is (.bool true), Is (.bool true), Is undef, Is undef, Is undef, Is undef, Is undef, Is undef, Is undef, Is undef, Is undef, Is undef, Is undef, Is undef, Is undef, Is undef, Is undef, Is (.bool true)] (by kernel_rfl) (by kernel_rfl) ?mono (fun f1 => ?obl) ?fin
     case mono =>
      simp only [List.forall_mem_cons, List.not_mem_nil, false_imp_iff, implies_true, and_true]
      and_intros <;> exact .is _
     case fin =>
      intro g1 u hu hg
      simp only [puts, Act.put, zq]
      have h22 : g1 22 = _ := hg 22 (by decide)
      rw [h22]
      have HXU : Hid (Ext w u) := zEt HX.out (zEt (Ext.drew wr) hu)
      clear h22 hg hu c0 c1 c2 c3
      go_wp2_with fail
      go_ret
      exact ⟨false, ⟨fun h => (by cases h), fun h => (by
       have h2 := all_not (f := fun p : Ent × Hd => p.1.may) HP.out HZ.out.symm
       rw [h.2] at h2; cases h2)⟩, rfl, HXU.out⟩
     case obl =>
      refine ⟨fun u hu hd => ?_, fun u hu hd => ?_, fun u hu hd => ?_, fun u hu hd => ?_, fun u hu hd => ?_, fun u hu hd => ?_, fun u hu hd => ?_, fun u hu hd => ?_, fun u hu hd => ?_, fun u hu hd => ?_, fun u hu hd => ?_, fun u hu hd => ?_, fun u hu hd => ?_, fun u hu hd => ?_, fun u hu hd => ?_, fun u hu hd => ?_, fun u hu hd => ?_, fun u hu hd => ?_, fun u hu hd => ?_, fun u hu hd => ?_, fun u hu hd => ?_, fun u hu hd => ?_, fun u hu hd => ?_, trivial⟩
      all_goals try simp only [Act.put, zq]
      · go_simp
        exact zEr
      · go_simp
        exact zEr
      · have e0 : f1 0 = _ := hd 0 (by kernel_rfl)
        have e1 : f1 1 = _ := hd 1 (by kernel_rfl)
        go_simp
        exact zEr
      · have e2 : f1 2 = _ := hd 2 (by kernel_rfl)
        have hu2 := zEt (Ext.drew wr) hu
        have q0 := ext_cell hu2 c0
        have q1 := ext_cell hu2 c1
        have q2 := ext_cell hu2 c2
        have q3 := ext_cell hu2 c3
        go_simp
        exact zEr
      · have e3 : f1 3 = _ := hd 3 (by kernel_rfl)
        go_simp
        refine (rmay_any _ _ _ _ _ _ _ _ u).mono ?_
        rintro x w9 ⟨rfl, hx9⟩
        exact ⟨_, rfl, hx9, by rw [← HZ.out]; rfl⟩
      · have e4 : f1 4 = _ := hd 4 (by kernel_rfl)
        go_simp
        exact zEr
      · have e5 : f1 5 = _ := hd 5 (by kernel_rfl)
        go_simp
        exact zEr
      · have e6 : f1 6 = _ := hd 6 (by kernel_rfl)
        go_simp
        rfl
      · have e6 : f1 6 = _ := hd 6 (by kernel_rfl)
        go_simp
        rfl
      · have e6 : f1 6 = _ := hd 6 (by kernel_rfl)
        go_simp
        rfl
      · have e9 : f1 9 = _ := hd 9 (by kernel_rfl)
        go_simp
        rfl
      · have e9 : f1 9 = _ := hd 9 (by kernel_rfl)
        go_simp
        rfl
      · have e9 : f1 9 = _ := hd 9 (by kernel_rfl)
        go_simp
        rfl
      · have e9 : f1 9 = _ := hd 9 (by kernel_rfl)
        go_simp
        rfl
      · have e9 : f1 9 = _ := hd 9 (by kernel_rfl)
        go_simp
        rfl
      · have e9 : f1 9 = _ := hd 9 (by kernel_rfl)
        go_simp
        rfl
      · have e9 : f1 9 = _ := hd 9 (by kernel_rfl)
        go_simp
        rfl
      · have e9 : f1 9 = _ := hd 9 (by kernel_rfl)
        go_simp
        rfl
      · have e9 : f1 9 = _ := hd 9 (by kernel_rfl)
        go_simp
        rfl
      · have e9 : f1 9 = _ := hd 9 (by kernel_rfl)
        go_simp
        rfl
      · have e9 : f1 9 = _ := hd 9 (by kernel_rfl)
        go_simp
        rfl
      · have e6 : f1 6 = _ := hd 6 (by kernel_rfl)
        go_simp
        rfl
      · have e6 : f1 6 = _ := hd 6 (by kernel_rfl)
        go_simp
        exact zEr
    | true =>
     by_cases hk0 : k = 0
     · have HK0 := zHd hk0
       have g0 : decide ((0 : Int) < (k : Int)) = false := decide_eq_false (by omega)
       have g0n : decide (0 < k) = false := decide_eq_false (by omega)
       clear hk0
       go_upto_region 4 with (fail)
       refine flow (by kernel_rfl) [Is (.slice (some ⟨b, o, none⟩) L.length c), Is (.int .i64 (k : Int)), Is (.pointer (some ⟨b, o + k * 4, none⟩)), Is (.agg #[.slice p.2.kA p.1.key.length p.2.kc, .int .i64 p.1.seq, .int .i64 p.1.kind, .slice p.2.vA p.1.val.length p.2.vc]), Is (.bool true), Is (.bool false), Is (.bool false), Is (.int .i64 (k : Int)), Is (.bool false), Is (.bool false), Is undef, Is undef, Is undef, Is undef, Is undef, Is undef, Is undef, Is undef, Is undef, Is undef, Is undef, Is (.bool false), Is (.bool false)] (by kernel_rfl) (by kernel_rfl) ?mono (fun f1 => ?obl) ?fin
       case mono =>
        simp only [List.forall_mem_cons, List.not_mem_nil, false_imp_iff, implies_true, and_true]
        and_intros <;> exact .is _
       case fin =>
        intro g1 u hu hg
        simp only [puts, Act.put, zq]
        have h22 : g1 22 = _ := hg 22 (by decide)
        rw [h22]
        have HXU : Hid (Ext w u) := zEt HX.out (zEt (Ext.drew wr) hu)
        clear h22 hg hu c0 c1 c2 c3
        go_wp2_with fail
        go_roundw
        case rel => exact ⟨k + 1, by omega, by go_num, zHd (fun j a b hj => by have := HK0.out; omega), zHd (all_next (f := fun p : Ent × Hd => p.1.may) HM.out HP.out HZ.out.symm), HXU⟩
        case measure => have := HLT.out; simp [intOf]; omega
       case obl =>
        refine ⟨fun u hu hd => ?_, fun u hu hd => ?_, fun u hu hd => ?_, fun u hu hd => ?_, fun u hu hd => ?_, fun u hu hd => ?_, fun u hu hd => ?_, fun u hu hd => ?_, fun u hu hd => ?_, fun u hu hd => ?_, fun u hu hd => ?_, fun u hu hd => ?_, fun u hu hd => ?_, fun u hu hd => ?_, fun u hu hd => ?_, fun u hu hd => ?_, fun u hu hd => ?_, fun u hu hd => ?_, fun u hu hd => ?_, fun u hu hd => ?_, fun u hu hd => ?_, fun u hu hd => ?_, fun u hu hd => ?_, trivial⟩
        all_goals try simp only [Act.put, zq]
        · go_simp
          exact zEr
        · go_simp
          exact zEr
        · have e0 : f1 0 = _ := hd 0 (by kernel_rfl)
          have e1 : f1 1 = _ := hd 1 (by kernel_rfl)
          go_simp
          exact zEr
        · have e2 : f1 2 = _ := hd 2 (by kernel_rfl)
          have hu2 := zEt (Ext.drew wr) hu
          have q0 := ext_cell hu2 c0
          have q1 := ext_cell hu2 c1
          have q2 := ext_cell hu2 c2
          have q3 := ext_cell hu2 c3
          go_simp
          exact zEr
        · have e3 : f1 3 = _ := hd 3 (by kernel_rfl)
          go_simp
          refine (rmay_any _ _ _ _ _ _ _ _ u).mono ?_
          rintro x w9 ⟨rfl, hx9⟩
          exact ⟨_, rfl, hx9, by rw [← HZ.out]; rfl⟩
        · have e4 : f1 4 = _ := hd 4 (by kernel_rfl)
          go_simp
          exact zEr
        · have e5 : f1 5 = _ := hd 5 (by kernel_rfl)
          go_simp
          exact zEr
        · have e6 : f1 6 = _ := hd 6 (by kernel_rfl)
          go_simp
          exact zEr
        · have e6 : f1 6 = _ := hd 6 (by kernel_rfl)
          have e7 : f1 7 = _ := hd 7 (by kernel_rfl)
          go_simp
          exact zEr
        · have e6 : f1 6 = _ := hd 6 (by kernel_rfl)
          have e8 : f1 8 = _ := hd 8 (by kernel_rfl)
          go_simp
          exact zEr
        · have e9 : f1 9 = _ := hd 9 (by kernel_rfl)
          go_simp
          rfl
        · have e9 : f1 9 = _ := hd 9 (by kernel_rfl)
          go_simp
          rfl
        · have e9 : f1 9 = _ := hd 9 (by kernel_rfl)
          go_simp
          rfl
        · have e9 : f1 9 = _ := hd 9 (by kernel_rfl)
          go_simp
          rfl
        · have e9 : f1 9 = _ := hd 9 (by kernel_rfl)
          go_simp
          rfl
        · have e9 : f1 9 = _ := hd 9 (by kernel_rfl)
          go_simp
          rfl
        · have e9 : f1 9 = _ := hd 9 (by kernel_rfl)
          go_simp
          rfl
        · have e9 : f1 9 = _ := hd 9 (by kernel_rfl)
          go_simp
          rfl
        · have e9 : f1 9 = _ := hd 9 (by kernel_rfl)
          go_simp
          rfl
        · have e9 : f1 9 = _ := hd 9 (by kernel_rfl)
          go_simp
          rfl
        · have e9 : f1 9 = _ := hd 9 (by kernel_rfl)
          go_simp
          rfl
        · have e6 : f1 6 = _ := hd 6 (by kernel_rfl)
          have e9 : f1 9 = _ := hd 9 (by kernel_rfl)
          go_simp
          exact zEr
        · have e6 : f1 6 = _ := hd 6 (by kernel_rfl)
          have e21 : f1 21 = _ := hd 21 (by kernel_rfl)
          go_simp
          exact zEr
     · obtain ⟨m, hm⟩ : ∃ m, m + 1 = k := ⟨k - 1, by omega⟩
       obtain ⟨q, hq⟩ : ∃ q, L[m]? = some q := ⟨_, List.getElem?_eq_getElem (by omega)⟩
       obtain ⟨d0, d1, d2, d3⟩ := (HE.out.below HX.out HHI.out).get hq
       have HQ := zHd hq
       have HMK := zHd hm
       have g0 : decide ((0 : Int) < (k : Int)) = true := decide_eq_true (by omega)
       have g0n : decide (0 < k) = true := decide_eq_true (by omega)
       have m1 : (0 : Int) ≤ (m : Int) := by omega
       have m2 : (m : Int) < (L.length : Int) := by omega
       have HSUB : Hid (IntKind.i64.wrap ((k : Int) - 1) = (m : Int)) := by unfold Hid; rw [IntKind.wrap_i64]; omega
       have HWW : Hid (∀ u, Ext wr u → Em u lo hi q.1 q.2 ∧ Em u lo hi p.1 p.2 ∧ hi ≤ u.heap.size) := fun u hu => by
        have hx := zEt HX.out hu
        exact ⟨(HE.out.below hx HHI.out).each q (List.mem_of_getElem? hq), (HE.out.below hx HHI.out).each p (List.mem_of_getElem? HP.out), zNt HHI.out hx.size⟩
       have HKL : Hid (q.1.key.length ≤ 140737488351232 ∧ p.1.key.length ≤ 140737488351232) := by
        have h1 := HLN.out q (List.mem_of_getElem? hq); have h2 := HLN.out p (List.mem_of_getElem? HP.out); exact ⟨by omega, by omega⟩
       obtain ⟨s, hs⟩ : ∃ s, s = cmpE q.1 p.1 := ⟨_, rfl⟩
       have HS := zHd hs
       obtain ⟨y, hy⟩ : ∃ y, y = decide (0 ≤ s) := ⟨_, rfl⟩
       have HY := zHd hy
       clear hq hm hs hy hk0
       go_upto_region 4 with (fail)
       refine flow (by kernel_rfl) [Is (.slice (some ⟨b, o, none⟩) L.length c), Is (.int .i64 (k : Int)), Is (.pointer (some ⟨b, o + k * 4, none⟩)), Is (.agg #[.slice p.2.kA p.1.key.length p.2.kc, .int .i64 p.1.seq, .int .i64 p.1.kind, .slice p.2.vA p.1.val.length p.2.vc]), Is (.bool true), Is (.bool false), Is (.bool false), Is (.int .i64 (k : Int)), Is (.bool true), Is (.bool true), Is (.slice (some ⟨b, o, none⟩) L.length c), Is (.int .i64 (k : Int)), Is (.int .i64 (m : Int)), Is (.pointer (some ⟨b, o + m * 4, none⟩)), Is (.agg #[.slice q.2.kA q.1.key.length q.2.kc, .int .i64 q.1.seq, .int .i64 q.1.kind, .slice q.2.vA q.1.val.length q.2.vc]), Is (.slice (some ⟨b, o, none⟩) L.length c), Is (.int .i64 (k : Int)), Is (.pointer (some ⟨b, o + k * 4, none⟩)), Is (.agg #[.slice p.2.kA p.1.key.length p.2.kc, .int .i64 p.1.seq, .int .i64 p.1.kind, .slice p.2.vA p.1.val.length p.2.vc]), Is (.int .i64 s), Is (.bool y), Is (.bool y), Is (.bool y)] (by kernel_rfl) (by kernel_rfl) ?mono (fun f1 => ?obl) ?fin
       case mono =>
        simp only [List.forall_mem_cons, List.not_mem_nil, false_imp_iff, implies_true, and_true]
        and_intros <;> exact .is _
       case fin =>
        intro g1 u hu hg
        simp only [puts, Act.put, zq]
        have h22 : g1 22 = _ := hg 22 (by decide)
        rw [h22]
        have HXU : Hid (Ext w u) := zEt HX.out (zEt (Ext.drew wr) hu)
        clear h22 hg hu c0 c1 c2 c3 d0 d1 d2 d3
        cases y with
        | true =>
         go_wp2_with fail
         go_ret
         refine ⟨false, ⟨fun h => (by cases h), fun h => ?_⟩, rfl, HXU.out⟩
         have h1 := of_decide_eq_true HY.out.symm
         have h2 := h.1 m q.1 p.1 (by rw [List.getElem?_map, HQ.out]; rfl) (by rw [HMK.out, List.getElem?_map, HP.out]; rfl)
         have h3 := HS.out
         omega
        | false =>
         go_wp2_with fail
         go_roundw
         case rel => exact ⟨k + 1, by omega, by go_num, zHd (fun j a b hj ha hb => by
             by_cases hjm : j = m
             · subst hjm
               rw [List.getElem?_map, HQ.out] at ha
               rw [HMK.out, List.getElem?_map, HP.out] at hb
               simp at ha hb
               subst ha hb
               have h1 := of_decide_eq_false HY.out.symm
               have h2 := HS.out
               omega
             · exact HR.out j a b (by have := HMK.out; omega) ha hb), zHd (all_next (f := fun p : Ent × Hd => p.1.may) HM.out HP.out HZ.out.symm), HXU⟩
         case measure => have := HLT.out; simp [intOf]; omega
       case obl =>
        refine ⟨fun u hu hd => ?_, fun u hu hd => ?_, fun u hu hd => ?_, fun u hu hd => ?_, fun u hu hd => ?_, fun u hu hd => ?_, fun u hu hd => ?_, fun u hu hd => ?_, fun u hu hd => ?_, fun u hu hd => ?_, fun u hu hd => ?_, fun u hu hd => ?_, fun u hu hd => ?_, fun u hu hd => ?_, fun u hu hd => ?_, fun u hu hd => ?_, fun u hu hd => ?_, fun u hu hd => ?_, fun u hu hd => ?_, fun u hu hd => ?_, fun u hu hd => ?_, fun u hu hd => ?_, fun u hu hd => ?_, trivial⟩
        all_goals try simp only [Act.put, zq]
        · go_simp
          exact zEr
        · go_simp
          exact zEr
        · have e0 : f1 0 = _ := hd 0 (by kernel_rfl)
          have e1 : f1 1 = _ := hd 1 (by kernel_rfl)
          go_simp
          exact zEr
        · have e2 : f1 2 = _ := hd 2 (by kernel_rfl)
          have hu2 := zEt (Ext.drew wr) hu
          have q0 := ext_cell hu2 c0
          have q1 := ext_cell hu2 c1
          have q2 := ext_cell hu2 c2
          have q3 := ext_cell hu2 c3
          go_simp
          exact zEr
        · have e3 : f1 3 = _ := hd 3 (by kernel_rfl)
          go_simp
          refine (rmay_any _ _ _ _ _ _ _ _ u).mono ?_
          rintro x w9 ⟨rfl, hx9⟩
          exact ⟨_, rfl, hx9, by rw [← HZ.out]; rfl⟩
        · have e4 : f1 4 = _ := hd 4 (by kernel_rfl)
          go_simp
          exact zEr
        · have e5 : f1 5 = _ := hd 5 (by kernel_rfl)
          go_simp
          exact zEr
        · have e6 : f1 6 = _ := hd 6 (by kernel_rfl)
          go_simp
          exact zEr
        · have e6 : f1 6 = _ := hd 6 (by kernel_rfl)
          have e7 : f1 7 = _ := hd 7 (by kernel_rfl)
          go_simp
          exact zEr
        · have e6 : f1 6 = _ := hd 6 (by kernel_rfl)
          have e8 : f1 8 = _ := hd 8 (by kernel_rfl)
          go_simp
          exact zEr
        · have e9 : f1 9 = _ := hd 9 (by kernel_rfl)
          go_simp
          exact zEr
        · have e9 : f1 9 = _ := hd 9 (by kernel_rfl)
          go_simp
          exact zEr
        · have e9 : f1 9 = _ := hd 9 (by kernel_rfl)
          have e11 : f1 11 = _ := hd 11 (by kernel_rfl)
          have q1 := HSUB.out
          go_simp
          exact zEr
        · have e9 : f1 9 = _ := hd 9 (by kernel_rfl)
          have e10 : f1 10 = _ := hd 10 (by kernel_rfl)
          have e12 : f1 12 = _ := hd 12 (by kernel_rfl)
          go_simp
          exact zEr
        · have e9 : f1 9 = _ := hd 9 (by kernel_rfl)
          have e13 : f1 13 = _ := hd 13 (by kernel_rfl)
          have hu2 := zEt (Ext.drew wr) hu
          have q0 := ext_cell hu2 d0
          have q1 := ext_cell hu2 d1
          have q2 := ext_cell hu2 d2
          have q3 := ext_cell hu2 d3
          go_simp
          exact zEr
        · have e9 : f1 9 = _ := hd 9 (by kernel_rfl)
          go_simp
          exact zEr
        · have e9 : f1 9 = _ := hd 9 (by kernel_rfl)
          go_simp
          exact zEr
        · have e9 : f1 9 = _ := hd 9 (by kernel_rfl)
          have e15 : f1 15 = _ := hd 15 (by kernel_rfl)
          have e16 : f1 16 = _ := hd 16 (by kernel_rfl)
          go_simp
          exact zEr
        · have e9 : f1 9 = _ := hd 9 (by kernel_rfl)
          have e17 : f1 17 = _ := hd 17 (by kernel_rfl)
          have hu2 := zEt (Ext.drew wr) hu
          have q0 := ext_cell hu2 c0
          have q1 := ext_cell hu2 c1
          have q2 := ext_cell hu2 c2
          have q3 := ext_cell hu2 c3
          go_simp
          exact zEr
        · have e9 : f1 9 = _ := hd 9 (by kernel_rfl)
          have e14 : f1 14 = _ := hd 14 (by kernel_rfl)
          have e18 : f1 18 = _ := hd 18 (by kernel_rfl)
          have hu2 := zEt (Ext.drew wr) hu
          obtain ⟨m1, m2, m3⟩ := HWW.out u hu2
          go_simp
          refine (rcompare_any m1 m2 m3 m3 HKL.out.1 HKL.out.2).mono ?_
          rintro x w9 ⟨rfl, hx9⟩
          exact ⟨_, rfl, hx9, by rw [HS.out]; rfl⟩
        · have e9 : f1 9 = _ := hd 9 (by kernel_rfl)
          have e19 : f1 19 = _ := hd 19 (by kernel_rfl)
          have q1 := HY.out.symm
          go_simp
          exact zEr
        · have e6 : f1 6 = _ := hd 6 (by kernel_rfl)
          have e9 : f1 9 = _ := hd 9 (by kernel_rfl)
          have e20 : f1 20 = _ := hd 20 (by kernel_rfl)
          go_simp
          exact zEr
        · have e6 : f1 6 = _ := hd 6 (by kernel_rfl)
          have e21 : f1 21 = _ := hd 21 (by kernel_rfl)
          go_simp
          exact zEr
  · have d : decide ((k : Int) < (L.length : Int)) = false := decide_eq_false (by omega)
    have dn : decide (k < L.length) = false := decide_eq_false hlt
    have HF : Hid (Rise (L.map Prod.fst) ∧ (L.all fun p => p.1.may) = true) := by
     refine ⟨fun j a b ha hb => HR.out j a b (by have := (zLg.1 hb).1; rw [List.length_map] at this; omega) ha hb, ?_⟩
     have h := HM.out
     rwa [List.take_of_length_le (by omega)] at h
    clear hlt hk
    go_wp2_with fail
    go_ret
    exact ⟨true, ⟨fun _ => HF.out, fun _ => rfl⟩, rfl, HX.out⟩
set_option maxRecDepth 100000 in
set_option maxHeartbeats 4000000 in
theorem rshared_any {w : World} {lo hi lo2 hi2 : Nat} {u v : Value} {a b : List Nat} (hu : Bs w lo hi u a) (hv : Bs w lo2 hi2 v b) (hhi : hi ≤ w.heap.size) (hhi2 : hi2 ≤ w.heap.size) (ha : a.length ≤ 1000000000000) (hb : b.length ≤ 1000000000000) :
    Calls Tryz.prog 85 #[u, v] w fun e w' => e = .returned (.int .i64 (shr a b : Int)) ∧ Ext w w' := by
 obtain ⟨A, c, rfl, _, _, _, hA⟩ := hu
 obtain ⟨B, c2, rfl, _, _, _, hB⟩ := hv
 have HA := zHd hA
 have HB := zHd hB
 have HH := zHd (And.intro hhi hhi2)
 have HL := zHd (And.intro ha hb)
 clear hA hB hhi hhi2 ha hb
 go_enter Tryz.func85, Tryz.ntmps85
 go_wp2_with fail
 go_loopw [5] (fun x wr => ∃ n : Nat, n ≤ a.length ∧ n ≤ b.length ∧ x = .int .i64 (n : Int) ∧ Hid (a.take n = b.take n) ∧ Hid (Ext w wr)) (fun x _ => a.length - (intOf x).toNat)
 case atStart => exact ⟨0, Nat.zero_le _, Nat.zero_le _, rfl, rfl, Ext.refl _⟩
 case round =>
  obtain ⟨n, hn1, hn2, rfl, HT, HX⟩ := hrel
  have HN := zHd (And.intro hn1 hn2)
  clear hn1 hn2
  by_cases h1 : n < a.length
  · have dA : decide ((n : Int) < (a.length : Int)) = true := by rw [decide_eq_true_eq]; exact Int.ofNat_lt.2 h1
    have dAn : decide (n < a.length) = true := by rw [decide_eq_true_eq]; exact h1
    by_cases h2 : n < b.length
    · have dB : decide ((n : Int) < (b.length : Int)) = true := by rw [decide_eq_true_eq]; exact Int.ofNat_lt.2 h2
      have dBn : decide (n < b.length) = true := by rw [decide_eq_true_eq]; exact h2
      obtain ⟨ab, ao, rfl, _, _, ca⟩ := (show By wr _ _ _ _ from Sl.below HA.out HX.out HH.out.1).at_ h1
      obtain ⟨bb, bo, rfl, _, _, cb⟩ := (show By wr _ _ _ _ from Sl.below HB.out HX.out HH.out.2).at_ h2
      obtain ⟨x, hx⟩ : ∃ x, x = a[n] := ⟨_, rfl⟩
      obtain ⟨y, hy⟩ : ∃ y, y = b[n] := ⟨_, rfl⟩
      rw [← hx] at ca
      rw [← hy] at cb
      have n1 : (0 : Int) ≤ (n : Int) := by omega
      have n2 : (n : Int) < (a.length : Int) := by omega
      have n3 : (n : Int) < (b.length : Int) := by omega
      have HXY : Hid (a[n]? = some x ∧ b[n]? = some y) := ⟨by rw [hx]; exact List.getElem?_eq_getElem h1, by rw [hy]; exact List.getElem?_eq_getElem h2⟩
      have H12 := zHd (And.intro h1 h2)
      clear hx hy h1 h2
      by_cases hxy : x = y
      · have dxy : ((x : Int) == (y : Int)) = true := by simp [hxy]
        have HE := zHd hxy
        clear hxy
        go_upto_region 2 with (fail)
        refine flow (by kernel_rfl) [Is (.int .i64 (n : Int)), Is (.slice (some ⟨ab, ao, none⟩) a.length c), Is (.int .i64 (a.length : Int)), Is (.bool true), Is (.bool true), Is (.int .i64 (n : Int)), Is (.slice (some ⟨bb, bo, none⟩) b.length c2), Is (.int .i64 (b.length : Int)), Is (.bool true), Is (.bool true), Is (.bool true), Is (.slice (some ⟨ab, ao, none⟩) a.length c), Is (.int .i64 (n : Int)), Is (.pointer (some ⟨ab, ao + n, none⟩)), Is (.int .u8 (x : Int)), Is (.slice (some ⟨bb, bo, none⟩) b.length c2), Is (.int .i64 (n : Int)), Is (.pointer (some ⟨bb, bo + n, none⟩)), Is (.int .u8 (y : Int)), Is (.bool true), Is (.bool true)] (by kernel_rfl) (by kernel_rfl) ?mono (fun f1 => ?obl) ?fin
        case mono =>
         simp only [List.forall_mem_cons, List.not_mem_nil, false_imp_iff, implies_true, and_true]
         and_intros <;> exact .is _
        case fin =>
         intro g1 u hu hg
         simp only [puts, Act.put, zq]
         have hxu := zEt (Ext.drew wr) hu
         have HXU : Hid (Ext w u) := zEt HX.out hxu
         have e20 : g1 20 = _ := hg 20 (by decide)
         rw [e20]
         clear hxu hu hg e20
         go_wp2_with fail
         go_roundw
         case rel =>
          have h1 := H12.out.1
          have h2 := H12.out.2
          exact ⟨n + 1, by omega, by omega, by rw [wrap_succ (Nat.lt_of_lt_of_le H12.out.1 HL.out.1)], shr_go HT.out h1 h2 (by have p := HXY.out.1; have q := HXY.out.2; rw [List.getElem?_eq_getElem h1] at p; rw [List.getElem?_eq_getElem h2] at q; injection p with p; injection q with q; rw [p, q]; exact HE.out), HXU⟩
         case measure => have := H12.out; rw [wrap_succ (Nat.lt_of_lt_of_le H12.out.1 HL.out.1)]; simp [intOf]; omega
        case obl =>
         refine ⟨fun u hu hd => ?_, fun u hu hd => ?_, fun u hu hd => ?_, fun u hu hd => ?_, fun u hu hd => ?_, fun u hu hd => ?_, fun u hu hd => ?_, fun u hu hd => ?_, fun u hu hd => ?_, fun u hu hd => ?_, fun u hu hd => ?_, fun u hu hd => ?_, fun u hu hd => ?_, fun u hu hd => ?_, fun u hu hd => ?_, fun u hu hd => ?_, fun u hu hd => ?_, fun u hu hd => ?_, fun u hu hd => ?_, fun u hu hd => ?_, fun u hu hd => ?_, trivial⟩
         all_goals try simp only [Act.put, zq]
         · go_simp
           exact zEr
         · go_simp
           exact zEr
         · have e1 : f1 1 = _ := hd 1 (by kernel_rfl)
           go_simp
           exact zEr
         · have e0 : f1 0 = _ := hd 0 (by kernel_rfl)
           have e2 : f1 2 = _ := hd 2 (by kernel_rfl)
           go_simp
           exact zEr
         · have e3 : f1 3 = _ := hd 3 (by kernel_rfl)
           go_simp
           exact zEr
         · have e4 : f1 4 = _ := hd 4 (by kernel_rfl)
           go_simp
           exact zEr
         · have e4 : f1 4 = _ := hd 4 (by kernel_rfl)
           go_simp
           exact zEr
         · have e4 : f1 4 = _ := hd 4 (by kernel_rfl)
           have e6 : f1 6 = _ := hd 6 (by kernel_rfl)
           go_simp
           exact zEr
         · have e4 : f1 4 = _ := hd 4 (by kernel_rfl)
           have e5 : f1 5 = _ := hd 5 (by kernel_rfl)
           have e7 : f1 7 = _ := hd 7 (by kernel_rfl)
           go_simp
           exact zEr
         · have e4 : f1 4 = _ := hd 4 (by kernel_rfl)
           have e8 : f1 8 = _ := hd 8 (by kernel_rfl)
           go_simp
           exact zEr
         · have e9 : f1 9 = _ := hd 9 (by kernel_rfl)
           go_simp
           exact zEr
         · have e10 : f1 10 = _ := hd 10 (by kernel_rfl)
           go_simp
           exact zEr
         · have e10 : f1 10 = _ := hd 10 (by kernel_rfl)
           go_simp
           exact zEr
         · have e10 : f1 10 = _ := hd 10 (by kernel_rfl)
           have e11 : f1 11 = _ := hd 11 (by kernel_rfl)
           have e12 : f1 12 = _ := hd 12 (by kernel_rfl)
           go_simp
           exact zEr
         · have e10 : f1 10 = _ := hd 10 (by kernel_rfl)
           have e13 : f1 13 = _ := hd 13 (by kernel_rfl)
           have hu2 := zEt (Ext.drew wr) hu
           have q0 := ext_cell hu2 ca
           go_simp
           exact zEr
         · have e10 : f1 10 = _ := hd 10 (by kernel_rfl)
           go_simp
           exact zEr
         · have e10 : f1 10 = _ := hd 10 (by kernel_rfl)
           go_simp
           exact zEr
         · have e10 : f1 10 = _ := hd 10 (by kernel_rfl)
           have e15 : f1 15 = _ := hd 15 (by kernel_rfl)
           have e16 : f1 16 = _ := hd 16 (by kernel_rfl)
           go_simp
           exact zEr
         · have e10 : f1 10 = _ := hd 10 (by kernel_rfl)
           have e17 : f1 17 = _ := hd 17 (by kernel_rfl)
           have hu2 := zEt (Ext.drew wr) hu
           have q0 := ext_cell hu2 cb
           go_simp
           exact zEr
         · have e10 : f1 10 = _ := hd 10 (by kernel_rfl)
           have e14 : f1 14 = _ := hd 14 (by kernel_rfl)
           have e18 : f1 18 = _ := hd 18 (by kernel_rfl)
           go_simp
           exact zEr
         · have e10 : f1 10 = _ := hd 10 (by kernel_rfl)
           have e19 : f1 19 = _ := hd 19 (by kernel_rfl)
           go_simp
           exact zEr
      · have dxy : ((x : Int) == (y : Int)) = false := by simp; omega
        have HE := zHd hxy
        clear hxy
        go_upto_region 2 with (fail)
        refine flow (by kernel_rfl) [Is (.int .i64 (n : Int)), Is (.slice (some ⟨ab, ao, none⟩) a.length c), Is (.int .i64 (a.length : Int)), Is (.bool true), Is (.bool true), Is (.int .i64 (n : Int)), Is (.slice (some ⟨bb, bo, none⟩) b.length c2), Is (.int .i64 (b.length : Int)), Is (.bool true), Is (.bool true), Is (.bool true), Is (.slice (some ⟨ab, ao, none⟩) a.length c), Is (.int .i64 (n : Int)), Is (.pointer (some ⟨ab, ao + n, none⟩)), Is (.int .u8 (x : Int)), Is (.slice (some ⟨bb, bo, none⟩) b.length c2), Is (.int .i64 (n : Int)), Is (.pointer (some ⟨bb, bo + n, none⟩)), Is (.int .u8 (y : Int)), Is (.bool false), Is (.bool false)] (by kernel_rfl) (by kernel_rfl) ?mono (fun f1 => ?obl) ?fin
        case mono =>
         simp only [List.forall_mem_cons, List.not_mem_nil, false_imp_iff, implies_true, and_true]
         and_intros <;> exact .is _
        case fin =>
         intro g1 u hu hg
         simp only [puts, Act.put, zq]
         have hxu := zEt (Ext.drew wr) hu
         have HXU : Hid (Ext w u) := zEt HX.out hxu
         have e20 : g1 20 = _ := hg 20 (by decide)
         rw [e20]
         clear hxu hu hg e20
         go_wp2_with fail
         go_ret
         have hs : shr a b = n := shr_is HN.out.1 HN.out.2 HT.out (fun p q hp hq => by
          rw [HXY.out.1] at hp
          rw [HXY.out.2] at hq
          injection hp with hp; injection hq with hq
          rw [← hp, ← hq]; exact HE.out)
         rw [hs]
         exact ⟨rfl, HXU.out⟩
        case obl =>
         refine ⟨fun u hu hd => ?_, fun u hu hd => ?_, fun u hu hd => ?_, fun u hu hd => ?_, fun u hu hd => ?_, fun u hu hd => ?_, fun u hu hd => ?_, fun u hu hd => ?_, fun u hu hd => ?_, fun u hu hd => ?_, fun u hu hd => ?_, fun u hu hd => ?_, fun u hu hd => ?_, fun u hu hd => ?_, fun u hu hd => ?_, fun u hu hd => ?_, fun u hu hd => ?_, fun u hu hd => ?_, fun u hu hd => ?_, fun u hu hd => ?_, fun u hu hd => ?_, trivial⟩
         all_goals try simp only [Act.put, zq]
         · go_simp
           exact zEr
         · go_simp
           exact zEr
         · have e1 : f1 1 = _ := hd 1 (by kernel_rfl)
           go_simp
           exact zEr
         · have e0 : f1 0 = _ := hd 0 (by kernel_rfl)
           have e2 : f1 2 = _ := hd 2 (by kernel_rfl)
           go_simp
           exact zEr
         · have e3 : f1 3 = _ := hd 3 (by kernel_rfl)
           go_simp
           exact zEr
         · have e4 : f1 4 = _ := hd 4 (by kernel_rfl)
           go_simp
           exact zEr
         · have e4 : f1 4 = _ := hd 4 (by kernel_rfl)
           go_simp
           exact zEr
         · have e4 : f1 4 = _ := hd 4 (by kernel_rfl)
           have e6 : f1 6 = _ := hd 6 (by kernel_rfl)
           go_simp
           exact zEr
         · have e4 : f1 4 = _ := hd 4 (by kernel_rfl)
           have e5 : f1 5 = _ := hd 5 (by kernel_rfl)
           have e7 : f1 7 = _ := hd 7 (by kernel_rfl)
           go_simp
           exact zEr
         · have e4 : f1 4 = _ := hd 4 (by kernel_rfl)
           have e8 : f1 8 = _ := hd 8 (by kernel_rfl)
           go_simp
           exact zEr
         · have e9 : f1 9 = _ := hd 9 (by kernel_rfl)
           go_simp
           exact zEr
         · have e10 : f1 10 = _ := hd 10 (by kernel_rfl)
           go_simp
           exact zEr
         · have e10 : f1 10 = _ := hd 10 (by kernel_rfl)
           go_simp
           exact zEr
         · have e10 : f1 10 = _ := hd 10 (by kernel_rfl)
           have e11 : f1 11 = _ := hd 11 (by kernel_rfl)
           have e12 : f1 12 = _ := hd 12 (by kernel_rfl)
           go_simp
           exact zEr
         · have e10 : f1 10 = _ := hd 10 (by kernel_rfl)
           have e13 : f1 13 = _ := hd 13 (by kernel_rfl)
           have hu2 := zEt (Ext.drew wr) hu
           have q0 := ext_cell hu2 ca
           go_simp
           exact zEr
         · have e10 : f1 10 = _ := hd 10 (by kernel_rfl)
           go_simp
           exact zEr
         · have e10 : f1 10 = _ := hd 10 (by kernel_rfl)
           go_simp
           exact zEr
         · have e10 : f1 10 = _ := hd 10 (by kernel_rfl)
           have e15 : f1 15 = _ := hd 15 (by kernel_rfl)
           have e16 : f1 16 = _ := hd 16 (by kernel_rfl)
           go_simp
           exact zEr
         · have e10 : f1 10 = _ := hd 10 (by kernel_rfl)
           have e17 : f1 17 = _ := hd 17 (by kernel_rfl)
           have hu2 := zEt (Ext.drew wr) hu
           have q0 := ext_cell hu2 cb
           go_simp
           exact zEr
         · have e10 : f1 10 = _ := hd 10 (by kernel_rfl)
           have e14 : f1 14 = _ := hd 14 (by kernel_rfl)
           have e18 : f1 18 = _ := hd 18 (by kernel_rfl)
           go_simp
           exact zEr
         · have e10 : f1 10 = _ := hd 10 (by kernel_rfl)
           have e19 : f1 19 = _ := hd 19 (by kernel_rfl)
           go_simp
           exact zEr
    · have dB : decide ((n : Int) < (b.length : Int)) = false := by rw [decide_eq_false_iff_not]; exact fun h => h2 (Int.ofNat_lt.1 h)
      have dBn : decide (n < b.length) = false := by rw [decide_eq_false_iff_not]; exact h2
      have H2 := zHd h2
      clear h1 h2
      go_upto_region 2 with (fail)
      refine flow (by kernel_rfl) [Is (.int .i64 (n : Int)), Is (.slice A a.length c), Is (.int .i64 (a.length : Int)), Is (.bool true), Is (.bool true), Is (.int .i64 (n : Int)), Is (.slice B b.length c2), Is (.int .i64 (b.length : Int)), Is (.bool false), Is (.bool false), Is (.bool false), Is undef, Is undef, Is undef, Is undef, Is undef, Is undef, Is undef, Is undef, Is undef, Is (.bool false)] (by kernel_rfl) (by kernel_rfl) ?mono (fun f1 => ?obl) ?fin
      case mono =>
       simp only [List.forall_mem_cons, List.not_mem_nil, false_imp_iff, implies_true, and_true]
       and_intros <;> exact .is _
      case fin =>
       intro g1 u hu hg
       simp only [puts, Act.put, zq]
       have hxu := zEt (Ext.drew wr) hu
       have HXU : Hid (Ext w u) := zEt HX.out hxu
       have e20 : g1 20 = _ := hg 20 (by decide)
       rw [e20]
       clear hxu hu hg e20
       go_wp2_with fail
       go_ret
       have hs : shr a b = n := shr_is HN.out.1 HN.out.2 HT.out (fun p q hp hq => by
        have h1 := (zLg.1 hp).1
        have h2 := (zLg.1 hq).1
        exact absurd h2 H2.out)
       rw [hs]
       exact ⟨rfl, HXU.out⟩
      case obl =>
       refine ⟨fun u hu hd => ?_, fun u hu hd => ?_, fun u hu hd => ?_, fun u hu hd => ?_, fun u hu hd => ?_, fun u hu hd => ?_, fun u hu hd => ?_, fun u hu hd => ?_, fun u hu hd => ?_, fun u hu hd => ?_, fun u hu hd => ?_, fun u hu hd => ?_, fun u hu hd => ?_, fun u hu hd => ?_, fun u hu hd => ?_, fun u hu hd => ?_, fun u hu hd => ?_, fun u hu hd => ?_, fun u hu hd => ?_, fun u hu hd => ?_, fun u hu hd => ?_, trivial⟩
       all_goals try simp only [Act.put, zq]
       · go_simp
         exact zEr
       · go_simp
         exact zEr
       · have e1 : f1 1 = _ := hd 1 (by kernel_rfl)
         go_simp
         exact zEr
       · have e0 : f1 0 = _ := hd 0 (by kernel_rfl)
         have e2 : f1 2 = _ := hd 2 (by kernel_rfl)
         go_simp
         exact zEr
       · have e3 : f1 3 = _ := hd 3 (by kernel_rfl)
         go_simp
         exact zEr
       · have e4 : f1 4 = _ := hd 4 (by kernel_rfl)
         go_simp
         exact zEr
       · have e4 : f1 4 = _ := hd 4 (by kernel_rfl)
         go_simp
         exact zEr
       · have e4 : f1 4 = _ := hd 4 (by kernel_rfl)
         have e6 : f1 6 = _ := hd 6 (by kernel_rfl)
         go_simp
         exact zEr
       · have e4 : f1 4 = _ := hd 4 (by kernel_rfl)
         have e5 : f1 5 = _ := hd 5 (by kernel_rfl)
         have e7 : f1 7 = _ := hd 7 (by kernel_rfl)
         go_simp
         exact zEr
       · have e4 : f1 4 = _ := hd 4 (by kernel_rfl)
         have e8 : f1 8 = _ := hd 8 (by kernel_rfl)
         go_simp
         exact zEr
       · have e9 : f1 9 = _ := hd 9 (by kernel_rfl)
         go_simp
         exact zEr
       · have e10 : f1 10 = _ := hd 10 (by kernel_rfl)
         go_simp
         rfl
       · have e10 : f1 10 = _ := hd 10 (by kernel_rfl)
         go_simp
         rfl
       · have e10 : f1 10 = _ := hd 10 (by kernel_rfl)
         go_simp
         rfl
       · have e10 : f1 10 = _ := hd 10 (by kernel_rfl)
         go_simp
         rfl
       · have e10 : f1 10 = _ := hd 10 (by kernel_rfl)
         go_simp
         rfl
       · have e10 : f1 10 = _ := hd 10 (by kernel_rfl)
         go_simp
         rfl
       · have e10 : f1 10 = _ := hd 10 (by kernel_rfl)
         go_simp
         rfl
       · have e10 : f1 10 = _ := hd 10 (by kernel_rfl)
         go_simp
         rfl
       · have e10 : f1 10 = _ := hd 10 (by kernel_rfl)
         go_simp
         rfl
       · have e10 : f1 10 = _ := hd 10 (by kernel_rfl)
         go_simp
         exact zEr
  · have dA : decide ((n : Int) < (a.length : Int)) = false := by rw [decide_eq_false_iff_not]; exact fun h => h1 (Int.ofNat_lt.1 h)
    have dAn : decide (n < a.length) = false := by rw [decide_eq_false_iff_not]; exact h1
    have H1 := zHd h1
    clear h1
    go_upto_region 2 with (fail)
    refine flow (by kernel_rfl) [Is (.int .i64 (n : Int)), Is (.slice A a.length c), Is (.int .i64 (a.length : Int)), Is (.bool false), Is (.bool false), Is undef, Is undef, Is undef, Is undef, Is (.bool false), Is (.bool false), Is undef, Is undef, Is undef, Is undef, Is undef, Is undef, Is undef, Is undef, Is undef, Is (.bool false)] (by kernel_rfl) (by kernel_rfl) ?mono (fun f1 => ?obl) ?fin
    case mono =>
     simp only [List.forall_mem_cons, List.not_mem_nil, false_imp_iff, implies_true, and_true]
     and_intros <;> exact .is _
    case fin =>
     intro g1 u hu hg
     simp only [puts, Act.put, zq]
     have hxu := zEt (Ext.drew wr) hu
     have HXU : Hid (Ext w u) := zEt HX.out hxu
     have e20 : g1 20 = _ := hg 20 (by decide)
     rw [e20]
     clear hxu hu hg e20
     go_wp2_with fail
     go_ret
     have hs : shr a b = n := shr_is HN.out.1 HN.out.2 HT.out (fun p q hp hq => by
      have h1 := (zLg.1 hp).1
      have h2 := (zLg.1 hq).1
      exact absurd h1 H1.out)
     rw [hs]
     exact ⟨rfl, HXU.out⟩
    case obl =>
     refine ⟨fun u hu hd => ?_, fun u hu hd => ?_, fun u hu hd => ?_, fun u hu hd => ?_, fun u hu hd => ?_, fun u hu hd => ?_, fun u hu hd => ?_, fun u hu hd => ?_, fun u hu hd => ?_, fun u hu hd => ?_, fun u hu hd => ?_, fun u hu hd => ?_, fun u hu hd => ?_, fun u hu hd => ?_, fun u hu hd => ?_, fun u hu hd => ?_, fun u hu hd => ?_, fun u hu hd => ?_, fun u hu hd => ?_, fun u hu hd => ?_, fun u hu hd => ?_, trivial⟩
     all_goals try simp only [Act.put, zq]
     · go_simp
       exact zEr
     · go_simp
       exact zEr
     · have e1 : f1 1 = _ := hd 1 (by kernel_rfl)
       go_simp
       exact zEr
     · have e0 : f1 0 = _ := hd 0 (by kernel_rfl)
       have e2 : f1 2 = _ := hd 2 (by kernel_rfl)
       go_simp
       exact zEr
     · have e3 : f1 3 = _ := hd 3 (by kernel_rfl)
       go_simp
       exact zEr
     · have e4 : f1 4 = _ := hd 4 (by kernel_rfl)
       go_simp
       rfl
     · have e4 : f1 4 = _ := hd 4 (by kernel_rfl)
       go_simp
       rfl
     · have e4 : f1 4 = _ := hd 4 (by kernel_rfl)
       go_simp
       rfl
     · have e4 : f1 4 = _ := hd 4 (by kernel_rfl)
       go_simp
       rfl
     · have e4 : f1 4 = _ := hd 4 (by kernel_rfl)
       go_simp
       exact zEr
     · have e9 : f1 9 = _ := hd 9 (by kernel_rfl)
       go_simp
       exact zEr
     · have e10 : f1 10 = _ := hd 10 (by kernel_rfl)
       go_simp
       rfl
     · have e10 : f1 10 = _ := hd 10 (by kernel_rfl)
       go_simp
       rfl
     · have e10 : f1 10 = _ := hd 10 (by kernel_rfl)
       go_simp
       rfl
     · have e10 : f1 10 = _ := hd 10 (by kernel_rfl)
       go_simp
       rfl
     · have e10 : f1 10 = _ := hd 10 (by kernel_rfl)
       go_simp
       rfl
     · have e10 : f1 10 = _ := hd 10 (by kernel_rfl)
       go_simp
       rfl
     · have e10 : f1 10 = _ := hd 10 (by kernel_rfl)
       go_simp
       rfl
     · have e10 : f1 10 = _ := hd 10 (by kernel_rfl)
       go_simp
       rfl
     · have e10 : f1 10 = _ := hd 10 (by kernel_rfl)
       go_simp
       rfl
     · have e10 : f1 10 = _ := hd 10 (by kernel_rfl)
       go_simp
       exact zEr
theorem rword_any (x : Nat) (hx : x < 4294967296) (w : World) : Calls Tryz.prog 86 #[.int .i64 (x : Int)] w fun e w' => ∃ A c, e = .returned (.slice A 4 c) ∧ Bs w' w.heap.size w'.heap.size (.slice A 4 c) (be4 x) ∧ Ext w w' := by
 have HX := zHd hx
 have HB := zHd (bs_be4 w x)
 clear hx
 go_enter Tryz.func86, Tryz.ntmps86
 go_wp2_with fail
 refine bodyPost_ret (results_tmp rfl _ _ _) rfl ?_
 exact ⟨_, _, rfl, HB.out.wide (zNr _) (by simp), ext_alloc _ _⟩
set_option maxRecDepth 100000 in
set_option maxHeartbeats 4000000 in
theorem rmayb_any {w : World} {lo hi c : Nat} {A : Option Addr} {L : List (Ent × Hd)} (h : Es w lo hi A L) (hhi : hi ≤ w.heap.size) (hlen : L.length ≤ 1000000) (hln : ∀ p ∈ L, p.1.key.length + p.1.val.length < 100000) :
    Calls Tryz.prog 76 #[.slice A L.length c] w fun x w' => ∃ z : Bool, (z = true ↔ MayB (L.map Prod.fst)) ∧ x = .returned (.bool z) ∧ Ext w w' := by
 have HMB : Hid (MayB (L.map Prod.fst) ↔ 1 ≤ L.length ∧ L.length ≤ 1024 ∧ Rise (L.map Prod.fst) ∧ (L.all fun p => p.1.may) = true) := by
  unfold MayB Hid
  rw [List.length_map, List.all_eq_true]
  refine ⟨fun ⟨h1, h2, h3, h4⟩ => ⟨h1, h2, h3, fun p hp => h4 _ (List.mem_map_of_mem hp)⟩, fun ⟨h1, h2, h3, h4⟩ => ⟨h1, h2, h3, fun e he => ?_⟩⟩
  obtain ⟨p, hp, rfl⟩ := List.mem_map.1 he
  exact h4 p hp
 have HR := zHd (rrises_any (c := c) h hhi hlen hln)
 clear h hhi hlen hln
 obtain ⟨n, hn⟩ : ∃ n, n = L.length := ⟨_, rfl⟩
 rw [← hn] at HMB HR ⊢
 clear hn
 by_cases h1 : 1 ≤ n
 · have d1 : decide ((1 : Int) ≤ (n : Int)) = true := by rw [decide_eq_true_eq]; omega
   have d1n : decide (1 ≤ n) = true := by rw [decide_eq_true_eq]; exact h1
   by_cases h2 : n ≤ 1024
   · have d2 : decide ((n : Int) ≤ 1024) = true := by rw [decide_eq_true_eq]; omega
     have d2n : decide (n ≤ 1024) = true := by rw [decide_eq_true_eq]; exact h2
     have H12 := zHd (And.intro h1 h2)
     clear h1 h2
     go_enter Tryz.func76, Tryz.ntmps76
     go_wp2_with fail
     refine HR.out.mono ?_
     rintro x w2 ⟨z, hz, rfl, hx⟩
     have HX := zHd hx
     have HZ := zHd hz
     clear hx hz
     go_wp2_with fail
     refine bodyPost_ret (results_tmp rfl _ _ _) rfl ?_
     exact ⟨z, ⟨fun h => HMB.out.2 ⟨H12.out.1, H12.out.2, HZ.out.1 h⟩, fun h => HZ.out.2 (HMB.out.1 h).2.2⟩, rfl, HX.out⟩
   · have d2 : decide ((n : Int) ≤ 1024) = false := by rw [decide_eq_false_iff_not]; omega
     have d2n : decide (n ≤ 1024) = false := by rw [decide_eq_false_iff_not]; exact h2
     have H2 := zHd h2
     clear h1 h2
     go_enter Tryz.func76, Tryz.ntmps76
     go_wp2_with fail
     refine bodyPost_ret (results_tmp rfl _ _ _) rfl ?_
     exact ⟨false, ⟨fun h => (by cases h), fun h => absurd (HMB.out.1 h).2.1 H2.out⟩, rfl, Ext.refl _⟩
 · have d1 : decide ((1 : Int) ≤ (n : Int)) = false := by rw [decide_eq_false_iff_not]; omega
   have d1n : decide (1 ≤ n) = false := by rw [decide_eq_false_iff_not]; exact h1
   have H1 := zHd h1
   clear h1
   go_enter Tryz.func76, Tryz.ntmps76
   go_wp2_with fail
   refine bodyPost_ret (results_tmp rfl _ _ _) rfl ?_
   exact ⟨false, ⟨fun h => (by cases h), fun h => absurd (HMB.out.1 h).1 H1.out⟩, rfl, Ext.refl _⟩
theorem sum_four {a b c d : Nat} (ha : a < 256) (hb : b < 256) (hc : c < 256) (_hd : d < 256) : IntKind.i64.wrap ((a : Int) * 16777216) = ((a * 16777216 : Nat) : Int) ∧ IntKind.i64.wrap ((b : Int) * 65536) = ((b * 65536 : Nat) : Int) ∧ IntKind.i64.wrap ((c : Int) * 256) = ((c * 256 : Nat) : Int) := by
 refine ⟨?_, ?_, ?_⟩ <;> rw [IntKind.wrap_i64] <;> omega
theorem conv_byte {a : Nat} (ha : a < 256) : IntKind.i64.wrap (a : Int) = (a : Int) := by rw [IntKind.wrap_i64]; omega
theorem sum_two {a b : Nat} (ha : a < 8589934592) (hb : b < 8589934592) : IntKind.i64.wrap ((a : Int) + (b : Int)) = ((a + b : Nat) : Int) := by rw [IntKind.wrap_i64]; omega
set_option maxRecDepth 100000 in
set_option maxHeartbeats 4000000 in
theorem rnum8_any {w : World} {lo hi : Nat} {A : Option Addr} {cc : Nat} {t : List Nat} (h : Bs w lo hi (.slice A t.length cc) t) (h4 : t.length = 4) (hb : ∀ x ∈ t, x < 256) :
    Calls Tryz.prog 73 #[.slice A t.length cc] w fun e w' => e = .returned (.int .i64 (num4 t : Int)) ∧ Ext w w' := by
 obtain ⟨a, b, c, d, rfl⟩ := list4 h4
 obtain ⟨A', c', e1, _, _, _, hby⟩ := h
 injection e1 with e1 e2 e3
 subst e1 e3
 obtain ⟨bl, o, rfl, _, _, ca⟩ := hby.at_ (i := 0) (by simp)
 obtain ⟨b1, o1, e1, _, _, cb⟩ := hby.at_ (i := 1) (by simp)
 obtain ⟨b2, o2, e2, _, _, cc2⟩ := hby.at_ (i := 2) (by simp)
 obtain ⟨b3, o3, e3, _, _, cd⟩ := hby.at_ (i := 3) (by simp)
 obtain ⟨rfl, rfl⟩ : bl = b1 ∧ o = o1 := ⟨congrArg Addr.block (Option.some.inj e1), congrArg Addr.off (Option.some.inj e1)⟩
 obtain ⟨rfl, rfl⟩ : bl = b2 ∧ o = o2 := ⟨congrArg Addr.block (Option.some.inj e2), congrArg Addr.off (Option.some.inj e2)⟩
 obtain ⟨rfl, rfl⟩ : bl = b3 ∧ o = o3 := ⟨congrArg Addr.block (Option.some.inj e3), congrArg Addr.off (Option.some.inj e3)⟩
 simp only [List.getElem_cons_zero, List.getElem_cons_succ] at ca cb cc2 cd
 simp only [Nat.add_zero] at ca
 have ha := hb a (by simp)
 have hb' := hb b (by simp)
 have hc := hb c (by simp)
 have hd := hb d (by simp)
 have HB := zHd (And.intro ha (And.intro hb' (And.intro hc hd)))
 have HS := zHd (sum_four ha hb' hc hd)
 have HN : Hid (num4 [a, b, c, d] = a * 16777216 + b * 65536 + c * 256 + d) := by unfold Hid; simp only [num4, List.foldl]; omega
 have hlen : [a, b, c, d].length = 4 := rfl
 rw [hlen, HN.out]
 clear e1 e3 hby hb ha hb' hc hd
 obtain ⟨p, hp⟩ : ∃ p, p = a * 16777216 := ⟨_, rfl⟩
 obtain ⟨q, hq⟩ : ∃ q, q = b * 65536 := ⟨_, rfl⟩
 obtain ⟨r, hr⟩ : ∃ r, r = c * 256 := ⟨_, rfl⟩
 have HP : Hid (p < 4294967296 ∧ q < 16777216 ∧ r < 65536 ∧ d < 256) := by have := HB.out; unfold Hid; omega
 rw [← hp, ← hq, ← hr] at HS ⊢
 obtain ⟨s1, hs1⟩ : ∃ s, s = p + q := ⟨_, rfl⟩
 obtain ⟨s2, hs2⟩ : ∃ s, s = s1 + r := ⟨_, rfl⟩
 obtain ⟨s3, hs3⟩ : ∃ s, s = s2 + d := ⟨_, rfl⟩
 have HT1 : Hid (IntKind.i64.wrap ((p : Int) + (q : Int)) = (s1 : Int)) := by rw [hs1]; have := HP.out; exact sum_two (by omega) (by omega)
 have HT2 : Hid (IntKind.i64.wrap ((s1 : Int) + (r : Int)) = (s2 : Int)) := by rw [hs2]; have := HP.out; exact sum_two (by omega) (by omega)
 have HT3 : Hid (IntKind.i64.wrap ((s2 : Int) + (d : Int)) = (s3 : Int)) := by rw [hs3]; have := HP.out; exact sum_two (by omega) (by omega)
 have he : p + q + r + d = s3 := by rw [hs3, hs2, hs1]
 rw [he]
 clear hp hq hr hs1 hs2 hs3 he HN
 go_enter Tryz.func73, Tryz.ntmps73
 go_upto_region 1 with (fail)
 refine flow (by kernel_rfl) [Is (.slice (some ⟨bl, o, none⟩) 4 cc), Is (.pointer (some ⟨bl, o + 0, none⟩)), Is (.int .u8 (a : Int)), Is (.int .i64 (a : Int)), Is (.int .i64 (p : Int)), Is (.slice (some ⟨bl, o, none⟩) 4 cc), Is (.pointer (some ⟨bl, o + 1, none⟩)), Is (.int .u8 (b : Int)), Is (.int .i64 (b : Int)), Is (.int .i64 (q : Int)), Is (.int .i64 (s1 : Int)), Is (.slice (some ⟨bl, o, none⟩) 4 cc), Is (.pointer (some ⟨bl, o + 2, none⟩)), Is (.int .u8 (c : Int)), Is (.int .i64 (c : Int)), Is (.int .i64 (r : Int)), Is (.int .i64 (s2 : Int)), Is (.slice (some ⟨bl, o, none⟩) 4 cc), Is (.pointer (some ⟨bl, o + 3, none⟩)), Is (.int .u8 (d : Int)), Is (.int .i64 (d : Int)), Is (.int .i64 (s3 : Int)), Is (.int .i64 (s3 : Int))] (by kernel_rfl) (by kernel_rfl) ?mono (fun f1 => ?obl) ?fin
 case mono =>
  simp only [List.forall_mem_cons, List.not_mem_nil, false_imp_iff, implies_true, and_true]
  and_intros <;> exact .is _
 case fin =>
  intro g1 u hu hg
  simp only [puts, Act.put, zq]
  have e22 : g1 22 = _ := hg 22 (by decide)
  have HXU : Hid (Ext w u) := zEt (Ext.drew w) hu
  rw [e22]
  clear hg hu e22
  go_wp2_with fail
  go_ret
  exact ⟨rfl, HXU.out⟩
 case obl =>
  refine ⟨fun u hu hd => ?_, fun u hu hd => ?_, fun u hu hd => ?_, fun u hu hd => ?_, fun u hu hd => ?_, fun u hu hd => ?_, fun u hu hd => ?_, fun u hu hd => ?_, fun u hu hd => ?_, fun u hu hd => ?_, fun u hu hd => ?_, fun u hu hd => ?_, fun u hu hd => ?_, fun u hu hd => ?_, fun u hu hd => ?_, fun u hu hd => ?_, fun u hu hd => ?_, fun u hu hd => ?_, fun u hu hd => ?_, fun u hu hd => ?_, fun u hu hd => ?_, fun u hu hd => ?_, fun u hu hd => ?_, trivial⟩
  all_goals try simp only [Act.put, zq]
  · go_simp
    exact zEr
  · have e0 : f1 0 = _ := hd 0 (by kernel_rfl)
    go_simp
    exact zEr
  · have e1 : f1 1 = _ := hd 1 (by kernel_rfl)
    have hu2 := zEt (Ext.drew w) hu
    have q0 := ext_cell hu2 ca
    go_simp
    exact zEr
  · have e2 : f1 2 = _ := hd 2 (by kernel_rfl)
    have hx := conv_byte HB.out.1
    go_simp
    first | exact zEr | (rw [hx]; exact zEr) | exact ⟨Ext.refl _, by rw [hx]⟩ | (rw [hx]; rfl) | rfl
  · have e3 : f1 3 = _ := hd 3 (by kernel_rfl)
    have hx := HS.out.1
    go_simp
    first | exact zEr | (rw [hx]; exact zEr) | exact ⟨Ext.refl _, by rw [hx]⟩ | (rw [hx]; rfl) | rfl
  · go_simp
    exact zEr
  · have e5 : f1 5 = _ := hd 5 (by kernel_rfl)
    go_simp
    exact zEr
  · have e6 : f1 6 = _ := hd 6 (by kernel_rfl)
    have hu2 := zEt (Ext.drew w) hu
    have q0 := ext_cell hu2 cb
    go_simp
    exact zEr
  · have e7 : f1 7 = _ := hd 7 (by kernel_rfl)
    have hx := conv_byte HB.out.2.1
    go_simp
    first | exact zEr | (rw [hx]; exact zEr) | exact ⟨Ext.refl _, by rw [hx]⟩ | (rw [hx]; rfl) | rfl
  · have e8 : f1 8 = _ := hd 8 (by kernel_rfl)
    have hx := HS.out.2.1
    go_simp
    first | exact zEr | (rw [hx]; exact zEr) | exact ⟨Ext.refl _, by rw [hx]⟩ | (rw [hx]; rfl) | rfl
  · have e4 : f1 4 = _ := hd 4 (by kernel_rfl)
    have e9 : f1 9 = _ := hd 9 (by kernel_rfl)
    have hx := HT1.out
    go_simp
    first | exact zEr | (rw [hx]; exact zEr) | exact ⟨Ext.refl _, by rw [hx]⟩ | (rw [hx]; rfl) | rfl
  · go_simp
    exact zEr
  · have e11 : f1 11 = _ := hd 11 (by kernel_rfl)
    go_simp
    exact zEr
  · have e12 : f1 12 = _ := hd 12 (by kernel_rfl)
    have hu2 := zEt (Ext.drew w) hu
    have q0 := ext_cell hu2 cc2
    go_simp
    exact zEr
  · have e13 : f1 13 = _ := hd 13 (by kernel_rfl)
    have hx := conv_byte HB.out.2.2.1
    go_simp
    first | exact zEr | (rw [hx]; exact zEr) | exact ⟨Ext.refl _, by rw [hx]⟩ | (rw [hx]; rfl) | rfl
  · have e14 : f1 14 = _ := hd 14 (by kernel_rfl)
    have hx := HS.out.2.2
    go_simp
    first | exact zEr | (rw [hx]; exact zEr) | exact ⟨Ext.refl _, by rw [hx]⟩ | (rw [hx]; rfl) | rfl
  · have e10 : f1 10 = _ := hd 10 (by kernel_rfl)
    have e15 : f1 15 = _ := hd 15 (by kernel_rfl)
    have hx := HT2.out
    go_simp
    first | exact zEr | (rw [hx]; exact zEr) | exact ⟨Ext.refl _, by rw [hx]⟩ | (rw [hx]; rfl) | rfl
  · go_simp
    exact zEr
  · have e17 : f1 17 = _ := hd 17 (by kernel_rfl)
    go_simp
    exact zEr
  · have e18 : f1 18 = _ := hd 18 (by kernel_rfl)
    have hu2 := zEt (Ext.drew w) hu
    have q0 := ext_cell hu2 cd
    go_simp
    exact zEr
  · have e19 : f1 19 = _ := hd 19 (by kernel_rfl)
    have hx := conv_byte HB.out.2.2.2
    go_simp
    first | exact zEr | (rw [hx]; exact zEr) | exact ⟨Ext.refl _, by rw [hx]⟩ | (rw [hx]; rfl) | rfl
  · have e16 : f1 16 = _ := hd 16 (by kernel_rfl)
    have e20 : f1 20 = _ := hd 20 (by kernel_rfl)
    have hx := HT3.out
    go_simp
    first | exact zEr | (rw [hx]; exact zEr) | exact ⟨Ext.refl _, by rw [hx]⟩ | (rw [hx]; rfl) | rfl
  · have e21 : f1 21 = _ := hd 21 (by kernel_rfl)
    go_simp
    exact zEr
end Go.Proofs.YtkdidghfcfcpfaaGreat
