/- How far entries rise. -/
import Derived.Test.YtcofnbeemfhcpaaIlist
namespace Go.Proofs.Ytcofnbeemfhcpaa
open Go.ChangeShapes Go.WideShapes Go.ChangeAt Go.RowKit

set_option maxRecDepth 100000 in
set_option maxHeartbeats 4000000 in
theorem rising_any {w : World} {lo hi : Nat} {A : Option Addr} {c : Nat} {L : List (Ent × Hd)} (h : Es w lo hi A L) (hhi : hi ≤ w.heap.size) (hlen : L.length ≤ 1000000000000) :
    Calls Try.prog 13 #[.slice A L.length c] w fun x w' => ∃ n : Nat, RiseAt (L.map Prod.fst) n ∧ x = .returned (.int .i64 (n : Int)) ∧ Ext w w' := by
  by_cases h0 : L.length = 0
  · obtain rfl : L = [] := List.eq_nil_of_length_eq_zero h0
    clear h hhi hlen h0
    go_enter Try.func13, Try.ntmps13
    go_wp2_with fail
    go_loopw [3] (fun a wr => a = .int .i64 1 ∧ Ext w wr) (fun _ _ => 0)
    case atStart => exact ⟨rfl, Ext.refl _⟩
    case round =>
      obtain ⟨rfl, hx⟩ := hrel
      go_wp2_with fail
      go_ret
      exact ⟨0, ⟨by simp, fun j a b hj => by omega, fun h => by simp at h⟩, rfl, hx⟩
  · obtain ⟨b, o, rfl⟩ := h.base (by omega)
    have HE := Lib.hid h
    have HHI := Lib.hid hhi
    have HL := Lib.hid hlen
    have hlI : (L.length : Int) ≤ 1000000000000 := by omega
    clear h hhi
    go_enter Try.func13, Try.ntmps13
    go_wp2_with fail
    go_loopw [3] (fun a wr => ∃ i : Nat, a = .int .i64 (i : Int) ∧ 1 ≤ i ∧ i ≤ L.length ∧ Hid (∀ j a b, j + 1 < i → (L.map Prod.fst)[j]? = some a → (L.map Prod.fst)[j + 1]? = some b → cmpE a b < 0) ∧ Hid (Ext w wr)) (fun a _ => L.length - (intOf a).toNat)
    case atStart => exact ⟨1, rfl, by omega, by omega, fun j a b hj => by omega, Ext.refl _⟩
    case round =>
      obtain ⟨i, rfl, hi1, hm, HR, HX⟩ := hrel
      obtain ⟨m, him⟩ : ∃ m, m + 1 = i := ⟨i - 1, by omega⟩
      have HIM := Lib.hid him
      by_cases hlt : i < L.length
      · have d : decide ((i : Int) < (L.length : Int)) = true := by simp; omega
        obtain ⟨p, hp⟩ : ∃ p, L[m]? = some p := ⟨_, List.getElem?_eq_getElem (by omega)⟩
        obtain ⟨q, hq⟩ : ∃ q, L[i]? = some q := ⟨_, List.getElem?_eq_getElem hlt⟩
        obtain ⟨c0, c1, c2, c3⟩ := (HE.out.below HX.out HHI.out).get hp
        obtain ⟨d0, d1, d2, d3⟩ := (HE.out.below HX.out HHI.out).get hq
        have HC : Hid (∀ u, Ext wr u → Calls Try.prog 22 #[.agg #[.slice p.2.kA p.1.key.length p.2.kc, .int .i64 p.1.seq, .int .i64 p.1.kind, .slice p.2.vA p.1.val.length p.2.vc], .agg #[.slice q.2.kA q.1.key.length q.2.kc, .int .i64 q.1.seq, .int .i64 q.1.kind, .slice q.2.vA q.1.val.length q.2.vc]] u fun x w' => x = .returned (.int .i64 (cmpE p.1 q.1)) ∧ Ext u w') := fun u hu => by
          have hE := HE.out.below (Ext.trans HX.out hu) HHI.out
          have hle := Nat.le_trans HHI.out (Ext.trans HX.out hu).size
          exact compare_any (hE.each p (List.mem_of_getElem? hp)) (hE.each q (List.mem_of_getElem? hq)) hle hle
        have HP1 := Lib.hid hp
        have HQ1 := Lib.hid hq
        have hw : wrap64 ((i : Int) - 1) = (m : Int) := by have := HL.out; unfold wrap64; omega
        have hw2 : wrap64 ((i : Int) + 1) = ((i + 1 : Nat) : Int) := by have := HL.out; unfold wrap64; omega
        have hw3 : IntKind.i64.wrap ((i : Int) - 1) = (m : Int) := by have := HL.out; rw [IntKind.wrap_i64]; omega
        have n1 : (0 : Int) ≤ (m : Int) := by omega
        have n2 : (m : Int) < (L.length : Int) := by omega
        have n3 : (0 : Int) ≤ (i : Int) := by omega
        have n4 : (i : Int) < (L.length : Int) := by omega
        have HLT := Lib.hid hlt
        have HI1 := Lib.hid hi1
        clear hp hq hlt hm h0 him hi1
        go_upto_region 4 with (fail)
        refine flow (by kernel_rfl) [Is (.slice (some ⟨b, o, none⟩) L.length c), Is (.int .i64 (i : Int)), Is (.int .i64 (m : Int)), Is (.pointer (some ⟨b, o + m * 4, none⟩)), Is (.agg #[.slice p.2.kA p.1.key.length p.2.kc, .int .i64 p.1.seq, .int .i64 p.1.kind, .slice p.2.vA p.1.val.length p.2.vc]), Is (.slice (some ⟨b, o, none⟩) L.length c), Is (.int .i64 (i : Int)), Is (.pointer (some ⟨b, o + i * 4, none⟩)), Is (.agg #[.slice q.2.kA q.1.key.length q.2.kc, .int .i64 q.1.seq, .int .i64 q.1.kind, .slice q.2.vA q.1.val.length q.2.vc]), Is (.int .i64 (cmpE p.1 q.1)), Is (.bool (decide (0 ≤ cmpE p.1 q.1)))] (by kernel_rfl) (by kernel_rfl) ?mono (fun f => ?obl) ?fin
        case mono =>
          simp only [List.forall_mem_cons, List.not_mem_nil, false_imp_iff, implies_true, and_true]
          exact ⟨.is _, .is _, .is _, .is _, .is _, .is _, .is _, .is _, .is _, .is _, .is _⟩
        case fin =>
          intro g1 u hu hg
          simp only [puts, Act.put, List.setIfInBounds_toArray, List.set_cons_zero, List.set_cons_succ]
          have h10 : g1 10 = .bool (decide (0 ≤ cmpE p.1 q.1)) := hg 10 (by decide)
          rw [h10]
          have HXU : Hid (Ext w u) := Ext.trans HX.out (Ext.trans (Ext.drew wr) hu)
          clear h10 hg hu HX c0 c1 c2 c3 d0 d1 d2 d3
          obtain ⟨z, hz⟩ : ∃ z, z = decide (0 ≤ cmpE p.1 q.1) := ⟨_, rfl⟩
          rw [← hz]
          have HZ := Lib.hid hz
          clear hz
          rcases z with _ | _
          rotate_left
          · have HCC := Lib.hid (of_decide_eq_true HZ.out.symm)
            go_wp2_with fail
            go_ret
            have him := HIM.out
            subst him
            refine ⟨m + 1, ⟨by have := HLT.out; rw [List.length_map]; omega, HR.out, fun _ => ⟨m, p.1, q.1, rfl, by rw [List.getElem?_map, HP1.out]; rfl, by rw [List.getElem?_map, HQ1.out]; rfl, by have := HCC.out; omega⟩⟩, rfl, HXU.out⟩
          · have HCC := Lib.hid (of_decide_eq_false HZ.out.symm)
            go_wp2_with fail
            refine ⟨⟨i + 1, rfl, by omega, HLT.out, fun j a b hj ha hb => ?_, HXU.out⟩, ?_⟩
            · by_cases hji : j + 1 = i
              · have hjm : j = m := by have := HIM.out; omega
                rw [hjm, List.getElem?_map, HP1.out] at ha
                rw [hji, List.getElem?_map, HQ1.out] at hb
                simp at ha hb
                subst ha hb
                have := HCC.out; omega
              · exact HR.out j a b (by omega) ha hb
            · have := HLT.out; simp [intOf]; omega
        case obl =>
          refine ⟨fun u hu hd => ?_, ?_⟩
          · go_simp
            exact ⟨Ext.refl _, rfl⟩
          refine ⟨fun u hu hd => ?_, ?_⟩
          · simp only [Act.put, List.setIfInBounds_toArray, List.set_cons_zero, List.set_cons_succ]
            go_simp
            exact ⟨Ext.refl _, rfl⟩
          refine ⟨fun u hu hd => ?_, ?_⟩
          · simp only [Act.put, List.setIfInBounds_toArray, List.set_cons_zero, List.set_cons_succ]
            have e1 : f 1 = (.int .i64 (i : Int)) := hd 1 (by kernel_rfl)
            go_simp
            exact ⟨Ext.refl _, rfl⟩
          refine ⟨fun u hu hd => ?_, ?_⟩
          · simp only [Act.put, List.setIfInBounds_toArray, List.set_cons_zero, List.set_cons_succ]
            have e0 : f 0 = (.slice (some ⟨b, o, none⟩) L.length c) := hd 0 (by kernel_rfl)
            have e2 : f 2 = (.int .i64 (m : Int)) := hd 2 (by kernel_rfl)
            go_simp
            exact ⟨Ext.refl _, rfl⟩
          refine ⟨fun u hu hd => ?_, ?_⟩
          · simp only [Act.put, List.setIfInBounds_toArray, List.set_cons_zero, List.set_cons_succ]
            have e3 : f 3 = (.pointer (some ⟨b, o + m * 4, none⟩)) := hd 3 (by kernel_rfl)
            have hu2 := Ext.trans (Ext.drew wr) hu
            have q0 := ext_cell hu2 c0
            have q1 := ext_cell hu2 c1
            have q2 := ext_cell hu2 c2
            have q3 := ext_cell hu2 c3
            go_simp
            exact ⟨Ext.refl _, rfl⟩
          refine ⟨fun u hu hd => ?_, ?_⟩
          · simp only [Act.put, List.setIfInBounds_toArray, List.set_cons_zero, List.set_cons_succ]
            go_simp
            exact ⟨Ext.refl _, rfl⟩
          refine ⟨fun u hu hd => ?_, ?_⟩
          · simp only [Act.put, List.setIfInBounds_toArray, List.set_cons_zero, List.set_cons_succ]
            go_simp
            exact ⟨Ext.refl _, rfl⟩
          refine ⟨fun u hu hd => ?_, ?_⟩
          · simp only [Act.put, List.setIfInBounds_toArray, List.set_cons_zero, List.set_cons_succ]
            have e5 : f 5 = (.slice (some ⟨b, o, none⟩) L.length c) := hd 5 (by kernel_rfl)
            have e6 : f 6 = (.int .i64 (i : Int)) := hd 6 (by kernel_rfl)
            go_simp
            exact ⟨Ext.refl _, rfl⟩
          refine ⟨fun u hu hd => ?_, ?_⟩
          · simp only [Act.put, List.setIfInBounds_toArray, List.set_cons_zero, List.set_cons_succ]
            have e7 : f 7 = (.pointer (some ⟨b, o + i * 4, none⟩)) := hd 7 (by kernel_rfl)
            have hu2 := Ext.trans (Ext.drew wr) hu
            have q0 := ext_cell hu2 d0
            have q1 := ext_cell hu2 d1
            have q2 := ext_cell hu2 d2
            have q3 := ext_cell hu2 d3
            go_simp
            exact ⟨Ext.refl _, rfl⟩
          refine ⟨fun u hu hd => ?_, ?_⟩
          · simp only [Act.put, List.setIfInBounds_toArray, List.set_cons_zero, List.set_cons_succ]
            have e4 : f 4 = (.agg #[.slice p.2.kA p.1.key.length p.2.kc, .int .i64 p.1.seq, .int .i64 p.1.kind, .slice p.2.vA p.1.val.length p.2.vc]) := hd 4 (by kernel_rfl)
            have e8 : f 8 = (.agg #[.slice q.2.kA q.1.key.length q.2.kc, .int .i64 q.1.seq, .int .i64 q.1.kind, .slice q.2.vA q.1.val.length q.2.vc]) := hd 8 (by kernel_rfl)
            go_simp
            refine (HC.out u (Ext.trans (Ext.drew wr) hu)).mono ?_
            rintro x w9 ⟨rfl, hb9⟩
            exact ⟨_, rfl, hb9, rfl⟩
          refine ⟨fun u hu hd => ?_, ?_⟩
          · simp only [Act.put, List.setIfInBounds_toArray, List.set_cons_zero, List.set_cons_succ]
            have e9 : f 9 = (.int .i64 (cmpE p.1 q.1)) := hd 9 (by kernel_rfl)
            go_simp
            exact ⟨Ext.refl _, rfl⟩
          trivial
      · have d : decide ((i : Int) < (L.length : Int)) = false := by simp; omega
        have HLT := Lib.hid hlt
        have HM := Lib.hid hm
        clear hlt hm him h0 hi1
        go_wp2_with fail
        go_ret
        exact ⟨L.length, ⟨by simp, fun j a b hj ha hb => HR.out j a b (by have := HLT.out; have := HM.out; omega) ha hb, fun h => by simp at h⟩, rfl, HX.out⟩
end Go.Proofs.Ytcofnbeemfhcpaa
