/- Irises Krshared Urword Iown, joined. -/
import Derived.Test.YthhgjeeangepaaaGreatMu4
import Derived.Test.YthhgjeeangepaaaGreatMu3
import Derived.Test.YthhgjeeangepaaaGreatMu6
import Derived.Test.YthhgjeeangepaaaGreatMu8
import Derived.Test.YthhgjeeangepaaaGreatMu13
import Derived.Test.YthhgjeeangepaaaGreatMu2

/- The reference's Rising. -/
namespace Go.Proofs.YthhgjeeangepaaaGreat
open Go.ChangeShapes Go.WideShapes Go.ChangeAt Go.RowKit

/-- They rise up to the k-th. -/
def RiseTo (l : List Ent) (k : Nat) : Prop := ∀ j a b, j + 1 < k → l[j]? = some a → l[j + 1]? = some b → cmpE a b < 0

set_option maxRecDepth 100000 in
set_option maxHeartbeats 8000000 in
theorem rrises_any {w : World} {lo hi : Nat} {A : Option Addr} {c : Nat} {L : List (Ent × Hd)} (h : Es w lo hi A L) (hhi : hi ≤ w.heap.size) (hlen : L.length ≤ 1000000) (hln : ∀ p ∈ L, p.1.key.length + p.1.val.length < 100000) :
    Calls Tryz.prog 43 #[.slice A L.length c] w fun x w' => ∃ z : Bool, (z = true ↔ Rise (L.map Prod.fst) ∧ (L.all fun p => p.1.may) = true) ∧ x = .returned (.bool z) ∧ Ext w w' := by
  have HE := Lib.hid h
  have HHI := Lib.hid hhi
  have HL := Lib.hid hlen
  have HLN := Lib.hid hln
  clear h hhi hln
  go_enter Tryz.func43, Tryz.ntmps43
  go_wp2_with fail
  go_loopw [3] (fun i wr => ∃ k : Nat, k ≤ L.length ∧ i = .int .i64 (k : Int) ∧ Hid (RiseTo (L.map Prod.fst) k) ∧ Hid ((L.take k).all (fun p => p.1.may) = true) ∧ Hid (Ext w wr)) (fun i _ => L.length - (intOf i).toNat)
  case atStart => exact ⟨0, by omega, rfl, Lib.hid (fun j a b hj => by omega), by simp [Hid], Lib.hid (Ext.refl _)⟩
  case round =>
    obtain ⟨k, hk, rfl, HR, HM, HX⟩ := hrel
    by_cases hlt : k < L.length
    · have d : decide ((k : Int) < (L.length : Int)) = true := decide_eq_true (by omega)
      have dn : decide (k < L.length) = true := decide_eq_true hlt
      obtain ⟨b, o, hA⟩ := HE.out.base (by omega)
      subst hA
      obtain ⟨p, hp⟩ : ∃ p, L[k]? = some p := ⟨_, List.getElem?_eq_getElem hlt⟩
      obtain ⟨c0, c1, c2, c3⟩ := (HE.out.below HX.out HHI.out).get hp
      have HP := Lib.hid hp
      have n1 : (0 : Int) ≤ (k : Int) := by omega
      have n2 : (k : Int) < (L.length : Int) := by omega
      have HLT := Lib.hid hlt
      obtain ⟨z, hz⟩ : ∃ z, z = mayN p.1.key.length p.1.seq p.1.kind p.1.val.length := ⟨_, rfl⟩
      have HZ := Lib.hid hz
      clear hp hz
      cases z with
      | false =>
        go_upto_region 4 with (fail)
        refine flow (by kernel_rfl) [Is (.slice (some ⟨b, o, none⟩) L.length c), Is (.int .i64 (k : Int)), Is (.pointer (some ⟨b, o + k * 4, none⟩)), Is (.agg #[.slice p.2.kA p.1.key.length p.2.kc, .int .i64 p.1.seq, .int .i64 p.1.kind, .slice p.2.vA p.1.val.length p.2.vc]), Is (.bool false), Is (.bool true), Is (.bool true), Is undef, Is undef, Is undef, Is undef, Is undef, Is undef, Is undef, Is undef, Is undef, Is undef, Is undef, Is undef, Is undef, Is undef, Is undef, Is (.bool true)] (by kernel_rfl) (by kernel_rfl) ?mono (fun f1 => ?obl) ?fin
        case mono =>
          simp only [List.forall_mem_cons, List.not_mem_nil, false_imp_iff, implies_true, and_true]
          exact ⟨.is _, .is _, .is _, .is _, .is _, .is _, .is _, .is _, .is _, .is _, .is _, .is _, .is _, .is _, .is _, .is _, .is _, .is _, .is _, .is _, .is _, .is _, .is _⟩
        case fin =>
          intro g1 u hu hg
          simp only [puts, Act.put, List.setIfInBounds_toArray, List.set_cons_zero, List.set_cons_succ]
          have h22 : g1 22 = .bool true := hg 22 (by decide)
          rw [h22]
          have HXU : Hid (Ext w u) := Ext.trans HX.out (Ext.trans (Ext.drew wr) hu)
          clear h22 hg hu c0 c1 c2 c3
          go_wp2_with fail
          go_ret
          exact ⟨false, ⟨fun h => (by cases h), fun h => (by
            have h2 := all_not (f := fun p : Ent × Hd => p.1.may) HP.out HZ.out.symm
            rw [h.2] at h2; cases h2)⟩, rfl, HXU.out⟩
        case obl =>
          refine ⟨fun u hu hd => ?_, ?_⟩
          · go_simp
            exact ⟨Ext.refl _, rfl⟩
          refine ⟨fun u hu hd => ?_, ?_⟩
          · simp only [Act.put, List.setIfInBounds_toArray, List.set_cons_zero, List.set_cons_succ]
            go_simp
            exact ⟨Ext.refl _, rfl⟩
          refine ⟨fun u hu hd => ?_, ?_⟩
          · simp only [Act.put, List.setIfInBounds_toArray, List.set_cons_zero, List.set_cons_succ]
            have e0 : f1 0 = .slice (some ⟨b, o, none⟩) L.length c := hd 0 (by kernel_rfl)
            have e1 : f1 1 = .int .i64 (k : Int) := hd 1 (by kernel_rfl)
            go_simp
            exact ⟨Ext.refl _, rfl⟩
          refine ⟨fun u hu hd => ?_, ?_⟩
          · simp only [Act.put, List.setIfInBounds_toArray, List.set_cons_zero, List.set_cons_succ]
            have e2 : f1 2 = .pointer (some ⟨b, o + k * 4, none⟩) := hd 2 (by kernel_rfl)
            have hu2 := Ext.trans (Ext.drew wr) hu
            have q0 := ext_cell hu2 c0
            have q1 := ext_cell hu2 c1
            have q2 := ext_cell hu2 c2
            have q3 := ext_cell hu2 c3
            go_simp
            exact ⟨Ext.refl _, rfl⟩
          refine ⟨fun u hu hd => ?_, ?_⟩
          · simp only [Act.put, List.setIfInBounds_toArray, List.set_cons_zero, List.set_cons_succ]
            have e3 : f1 3 = .agg #[.slice p.2.kA p.1.key.length p.2.kc, .int .i64 p.1.seq, .int .i64 p.1.kind, .slice p.2.vA p.1.val.length p.2.vc] := hd 3 (by kernel_rfl)
            go_simp
            refine (rmay_any _ _ _ _ _ _ _ _ u).mono ?_
            rintro x w9 ⟨rfl, hx9⟩
            exact ⟨_, rfl, hx9, by rw [← HZ.out]; rfl⟩
          refine ⟨fun u hu hd => ?_, ?_⟩
          · simp only [Act.put, List.setIfInBounds_toArray, List.set_cons_zero, List.set_cons_succ]
            have e4 : f1 4 = .bool false := hd 4 (by kernel_rfl)
            go_simp
            exact ⟨Ext.refl _, rfl⟩
          refine ⟨fun u hu hd => ?_, ?_⟩
          · simp only [Act.put, List.setIfInBounds_toArray, List.set_cons_zero, List.set_cons_succ]
            have e5 : f1 5 = .bool true := hd 5 (by kernel_rfl)
            go_simp
            exact ⟨Ext.refl _, rfl⟩
          refine ⟨fun u hu hd => ?_, ?_⟩
          · simp only [Act.put, List.setIfInBounds_toArray, List.set_cons_zero, List.set_cons_succ]
            have e6 : f1 6 = .bool true := hd 6 (by kernel_rfl)
            go_simp
            rfl
          refine ⟨fun u hu hd => ?_, ?_⟩
          · simp only [Act.put, List.setIfInBounds_toArray, List.set_cons_zero, List.set_cons_succ]
            have e6 : f1 6 = .bool true := hd 6 (by kernel_rfl)
            go_simp
            rfl
          refine ⟨fun u hu hd => ?_, ?_⟩
          · simp only [Act.put, List.setIfInBounds_toArray, List.set_cons_zero, List.set_cons_succ]
            have e6 : f1 6 = .bool true := hd 6 (by kernel_rfl)
            go_simp
            rfl
          refine ⟨fun u hu hd => ?_, ?_⟩
          · simp only [Act.put, List.setIfInBounds_toArray, List.set_cons_zero, List.set_cons_succ]
            have e9 : f1 9 = undef := hd 9 (by kernel_rfl)
            go_simp
            rfl
          refine ⟨fun u hu hd => ?_, ?_⟩
          · simp only [Act.put, List.setIfInBounds_toArray, List.set_cons_zero, List.set_cons_succ]
            have e9 : f1 9 = undef := hd 9 (by kernel_rfl)
            go_simp
            rfl
          refine ⟨fun u hu hd => ?_, ?_⟩
          · simp only [Act.put, List.setIfInBounds_toArray, List.set_cons_zero, List.set_cons_succ]
            have e9 : f1 9 = undef := hd 9 (by kernel_rfl)
            go_simp
            rfl
          refine ⟨fun u hu hd => ?_, ?_⟩
          · simp only [Act.put, List.setIfInBounds_toArray, List.set_cons_zero, List.set_cons_succ]
            have e9 : f1 9 = undef := hd 9 (by kernel_rfl)
            go_simp
            rfl
          refine ⟨fun u hu hd => ?_, ?_⟩
          · simp only [Act.put, List.setIfInBounds_toArray, List.set_cons_zero, List.set_cons_succ]
            have e9 : f1 9 = undef := hd 9 (by kernel_rfl)
            go_simp
            rfl
          refine ⟨fun u hu hd => ?_, ?_⟩
          · simp only [Act.put, List.setIfInBounds_toArray, List.set_cons_zero, List.set_cons_succ]
            have e9 : f1 9 = undef := hd 9 (by kernel_rfl)
            go_simp
            rfl
          refine ⟨fun u hu hd => ?_, ?_⟩
          · simp only [Act.put, List.setIfInBounds_toArray, List.set_cons_zero, List.set_cons_succ]
            have e9 : f1 9 = undef := hd 9 (by kernel_rfl)
            go_simp
            rfl
          refine ⟨fun u hu hd => ?_, ?_⟩
          · simp only [Act.put, List.setIfInBounds_toArray, List.set_cons_zero, List.set_cons_succ]
            have e9 : f1 9 = undef := hd 9 (by kernel_rfl)
            go_simp
            rfl
          refine ⟨fun u hu hd => ?_, ?_⟩
          · simp only [Act.put, List.setIfInBounds_toArray, List.set_cons_zero, List.set_cons_succ]
            have e9 : f1 9 = undef := hd 9 (by kernel_rfl)
            go_simp
            rfl
          refine ⟨fun u hu hd => ?_, ?_⟩
          · simp only [Act.put, List.setIfInBounds_toArray, List.set_cons_zero, List.set_cons_succ]
            have e9 : f1 9 = undef := hd 9 (by kernel_rfl)
            go_simp
            rfl
          refine ⟨fun u hu hd => ?_, ?_⟩
          · simp only [Act.put, List.setIfInBounds_toArray, List.set_cons_zero, List.set_cons_succ]
            have e9 : f1 9 = undef := hd 9 (by kernel_rfl)
            go_simp
            rfl
          refine ⟨fun u hu hd => ?_, ?_⟩
          · simp only [Act.put, List.setIfInBounds_toArray, List.set_cons_zero, List.set_cons_succ]
            have e6 : f1 6 = .bool true := hd 6 (by kernel_rfl)
            go_simp
            rfl
          refine ⟨fun u hu hd => ?_, ?_⟩
          · simp only [Act.put, List.setIfInBounds_toArray, List.set_cons_zero, List.set_cons_succ]
            have e6 : f1 6 = .bool true := hd 6 (by kernel_rfl)
            go_simp
            exact ⟨Ext.refl _, rfl⟩
          trivial
      | true =>
        by_cases hk0 : k = 0
        · have HK0 := Lib.hid hk0
          have g0 : decide ((0 : Int) < (k : Int)) = false := decide_eq_false (by omega)
          have g0n : decide (0 < k) = false := decide_eq_false (by omega)
          clear hk0
          go_upto_region 4 with (fail)
          refine flow (by kernel_rfl) [Is (.slice (some ⟨b, o, none⟩) L.length c), Is (.int .i64 (k : Int)), Is (.pointer (some ⟨b, o + k * 4, none⟩)), Is (.agg #[.slice p.2.kA p.1.key.length p.2.kc, .int .i64 p.1.seq, .int .i64 p.1.kind, .slice p.2.vA p.1.val.length p.2.vc]), Is (.bool true), Is (.bool false), Is (.bool false), Is (.int .i64 (k : Int)), Is (.bool false), Is (.bool false), Is undef, Is undef, Is undef, Is undef, Is undef, Is undef, Is undef, Is undef, Is undef, Is undef, Is undef, Is (.bool false), Is (.bool false)] (by kernel_rfl) (by kernel_rfl) ?mono (fun f1 => ?obl) ?fin
          case mono =>
            simp only [List.forall_mem_cons, List.not_mem_nil, false_imp_iff, implies_true, and_true]
            exact ⟨.is _, .is _, .is _, .is _, .is _, .is _, .is _, .is _, .is _, .is _, .is _, .is _, .is _, .is _, .is _, .is _, .is _, .is _, .is _, .is _, .is _, .is _, .is _⟩
          case fin =>
            intro g1 u hu hg
            simp only [puts, Act.put, List.setIfInBounds_toArray, List.set_cons_zero, List.set_cons_succ]
            have h22 : g1 22 = .bool false := hg 22 (by decide)
            rw [h22]
            have HXU : Hid (Ext w u) := Ext.trans HX.out (Ext.trans (Ext.drew wr) hu)
            clear h22 hg hu c0 c1 c2 c3
            go_wp2_with fail
            go_roundw
            case rel => exact ⟨k + 1, by omega, by go_num, Lib.hid (fun j a b hj => by have := HK0.out; omega), Lib.hid (all_next (f := fun p : Ent × Hd => p.1.may) HM.out HP.out HZ.out.symm), HXU⟩
            case measure => have := HLT.out; simp [intOf]; omega
          case obl =>
            refine ⟨fun u hu hd => ?_, ?_⟩
            · go_simp
              exact ⟨Ext.refl _, rfl⟩
            refine ⟨fun u hu hd => ?_, ?_⟩
            · simp only [Act.put, List.setIfInBounds_toArray, List.set_cons_zero, List.set_cons_succ]
              go_simp
              exact ⟨Ext.refl _, rfl⟩
            refine ⟨fun u hu hd => ?_, ?_⟩
            · simp only [Act.put, List.setIfInBounds_toArray, List.set_cons_zero, List.set_cons_succ]
              have e0 : f1 0 = .slice (some ⟨b, o, none⟩) L.length c := hd 0 (by kernel_rfl)
              have e1 : f1 1 = .int .i64 (k : Int) := hd 1 (by kernel_rfl)
              go_simp
              exact ⟨Ext.refl _, rfl⟩
            refine ⟨fun u hu hd => ?_, ?_⟩
            · simp only [Act.put, List.setIfInBounds_toArray, List.set_cons_zero, List.set_cons_succ]
              have e2 : f1 2 = .pointer (some ⟨b, o + k * 4, none⟩) := hd 2 (by kernel_rfl)
              have hu2 := Ext.trans (Ext.drew wr) hu
              have q0 := ext_cell hu2 c0
              have q1 := ext_cell hu2 c1
              have q2 := ext_cell hu2 c2
              have q3 := ext_cell hu2 c3
              go_simp
              exact ⟨Ext.refl _, rfl⟩
            refine ⟨fun u hu hd => ?_, ?_⟩
            · simp only [Act.put, List.setIfInBounds_toArray, List.set_cons_zero, List.set_cons_succ]
              have e3 : f1 3 = .agg #[.slice p.2.kA p.1.key.length p.2.kc, .int .i64 p.1.seq, .int .i64 p.1.kind, .slice p.2.vA p.1.val.length p.2.vc] := hd 3 (by kernel_rfl)
              go_simp
              refine (rmay_any _ _ _ _ _ _ _ _ u).mono ?_
              rintro x w9 ⟨rfl, hx9⟩
              exact ⟨_, rfl, hx9, by rw [← HZ.out]; rfl⟩
            refine ⟨fun u hu hd => ?_, ?_⟩
            · simp only [Act.put, List.setIfInBounds_toArray, List.set_cons_zero, List.set_cons_succ]
              have e4 : f1 4 = .bool true := hd 4 (by kernel_rfl)
              go_simp
              exact ⟨Ext.refl _, rfl⟩
            refine ⟨fun u hu hd => ?_, ?_⟩
            · simp only [Act.put, List.setIfInBounds_toArray, List.set_cons_zero, List.set_cons_succ]
              have e5 : f1 5 = .bool false := hd 5 (by kernel_rfl)
              go_simp
              exact ⟨Ext.refl _, rfl⟩
            refine ⟨fun u hu hd => ?_, ?_⟩
            · simp only [Act.put, List.setIfInBounds_toArray, List.set_cons_zero, List.set_cons_succ]
              have e6 : f1 6 = .bool false := hd 6 (by kernel_rfl)
              go_simp
              exact ⟨Ext.refl _, rfl⟩
            refine ⟨fun u hu hd => ?_, ?_⟩
            · simp only [Act.put, List.setIfInBounds_toArray, List.set_cons_zero, List.set_cons_succ]
              have e6 : f1 6 = .bool false := hd 6 (by kernel_rfl)
              have e7 : f1 7 = .int .i64 (k : Int) := hd 7 (by kernel_rfl)
              go_simp
              exact ⟨Ext.refl _, rfl⟩
            refine ⟨fun u hu hd => ?_, ?_⟩
            · simp only [Act.put, List.setIfInBounds_toArray, List.set_cons_zero, List.set_cons_succ]
              have e6 : f1 6 = .bool false := hd 6 (by kernel_rfl)
              have e8 : f1 8 = .bool false := hd 8 (by kernel_rfl)
              go_simp
              exact ⟨Ext.refl _, rfl⟩
            refine ⟨fun u hu hd => ?_, ?_⟩
            · simp only [Act.put, List.setIfInBounds_toArray, List.set_cons_zero, List.set_cons_succ]
              have e9 : f1 9 = .bool false := hd 9 (by kernel_rfl)
              go_simp
              rfl
            refine ⟨fun u hu hd => ?_, ?_⟩
            · simp only [Act.put, List.setIfInBounds_toArray, List.set_cons_zero, List.set_cons_succ]
              have e9 : f1 9 = .bool false := hd 9 (by kernel_rfl)
              go_simp
              rfl
            refine ⟨fun u hu hd => ?_, ?_⟩
            · simp only [Act.put, List.setIfInBounds_toArray, List.set_cons_zero, List.set_cons_succ]
              have e9 : f1 9 = .bool false := hd 9 (by kernel_rfl)
              go_simp
              rfl
            refine ⟨fun u hu hd => ?_, ?_⟩
            · simp only [Act.put, List.setIfInBounds_toArray, List.set_cons_zero, List.set_cons_succ]
              have e9 : f1 9 = .bool false := hd 9 (by kernel_rfl)
              go_simp
              rfl
            refine ⟨fun u hu hd => ?_, ?_⟩
            · simp only [Act.put, List.setIfInBounds_toArray, List.set_cons_zero, List.set_cons_succ]
              have e9 : f1 9 = .bool false := hd 9 (by kernel_rfl)
              go_simp
              rfl
            refine ⟨fun u hu hd => ?_, ?_⟩
            · simp only [Act.put, List.setIfInBounds_toArray, List.set_cons_zero, List.set_cons_succ]
              have e9 : f1 9 = .bool false := hd 9 (by kernel_rfl)
              go_simp
              rfl
            refine ⟨fun u hu hd => ?_, ?_⟩
            · simp only [Act.put, List.setIfInBounds_toArray, List.set_cons_zero, List.set_cons_succ]
              have e9 : f1 9 = .bool false := hd 9 (by kernel_rfl)
              go_simp
              rfl
            refine ⟨fun u hu hd => ?_, ?_⟩
            · simp only [Act.put, List.setIfInBounds_toArray, List.set_cons_zero, List.set_cons_succ]
              have e9 : f1 9 = .bool false := hd 9 (by kernel_rfl)
              go_simp
              rfl
            refine ⟨fun u hu hd => ?_, ?_⟩
            · simp only [Act.put, List.setIfInBounds_toArray, List.set_cons_zero, List.set_cons_succ]
              have e9 : f1 9 = .bool false := hd 9 (by kernel_rfl)
              go_simp
              rfl
            refine ⟨fun u hu hd => ?_, ?_⟩
            · simp only [Act.put, List.setIfInBounds_toArray, List.set_cons_zero, List.set_cons_succ]
              have e9 : f1 9 = .bool false := hd 9 (by kernel_rfl)
              go_simp
              rfl
            refine ⟨fun u hu hd => ?_, ?_⟩
            · simp only [Act.put, List.setIfInBounds_toArray, List.set_cons_zero, List.set_cons_succ]
              have e9 : f1 9 = .bool false := hd 9 (by kernel_rfl)
              go_simp
              rfl
            refine ⟨fun u hu hd => ?_, ?_⟩
            · simp only [Act.put, List.setIfInBounds_toArray, List.set_cons_zero, List.set_cons_succ]
              have e6 : f1 6 = .bool false := hd 6 (by kernel_rfl)
              have e9 : f1 9 = .bool false := hd 9 (by kernel_rfl)
              go_simp
              exact ⟨Ext.refl _, rfl⟩
            refine ⟨fun u hu hd => ?_, ?_⟩
            · simp only [Act.put, List.setIfInBounds_toArray, List.set_cons_zero, List.set_cons_succ]
              have e6 : f1 6 = .bool false := hd 6 (by kernel_rfl)
              have e21 : f1 21 = .bool false := hd 21 (by kernel_rfl)
              go_simp
              exact ⟨Ext.refl _, rfl⟩
            trivial
        · obtain ⟨m, hm⟩ : ∃ m, m + 1 = k := ⟨k - 1, by omega⟩
          obtain ⟨q, hq⟩ : ∃ q, L[m]? = some q := ⟨_, List.getElem?_eq_getElem (by omega)⟩
          obtain ⟨d0, d1, d2, d3⟩ := (HE.out.below HX.out HHI.out).get hq
          have HQ := Lib.hid hq
          have HMK := Lib.hid hm
          have g0 : decide ((0 : Int) < (k : Int)) = true := decide_eq_true (by omega)
          have g0n : decide (0 < k) = true := decide_eq_true (by omega)
          have m1 : (0 : Int) ≤ (m : Int) := by omega
          have m2 : (m : Int) < (L.length : Int) := by omega
          have HSUB : Hid (IntKind.i64.wrap ((k : Int) - 1) = (m : Int)) := by unfold Hid; rw [IntKind.wrap_i64]; omega
          have HWW : Hid (∀ u, Ext wr u → Em u lo hi q.1 q.2 ∧ Em u lo hi p.1 p.2 ∧ hi ≤ u.heap.size) := fun u hu => by
            have hx := Ext.trans HX.out hu
            exact ⟨(HE.out.below hx HHI.out).each q (List.mem_of_getElem? hq), (HE.out.below hx HHI.out).each p (List.mem_of_getElem? HP.out), Nat.le_trans HHI.out hx.size⟩
          have HKL : Hid (q.1.key.length ≤ 140737488351232 ∧ p.1.key.length ≤ 140737488351232) := by
            have h1 := HLN.out q (List.mem_of_getElem? hq); have h2 := HLN.out p (List.mem_of_getElem? HP.out); exact ⟨by omega, by omega⟩
          obtain ⟨s, hs⟩ : ∃ s, s = cmpE q.1 p.1 := ⟨_, rfl⟩
          have HS := Lib.hid hs
          obtain ⟨y, hy⟩ : ∃ y, y = decide (0 ≤ s) := ⟨_, rfl⟩
          have HY := Lib.hid hy
          clear hq hm hs hy hk0
          go_upto_region 4 with (fail)
          refine flow (by kernel_rfl) [Is (.slice (some ⟨b, o, none⟩) L.length c), Is (.int .i64 (k : Int)), Is (.pointer (some ⟨b, o + k * 4, none⟩)), Is (.agg #[.slice p.2.kA p.1.key.length p.2.kc, .int .i64 p.1.seq, .int .i64 p.1.kind, .slice p.2.vA p.1.val.length p.2.vc]), Is (.bool true), Is (.bool false), Is (.bool false), Is (.int .i64 (k : Int)), Is (.bool true), Is (.bool true), Is (.slice (some ⟨b, o, none⟩) L.length c), Is (.int .i64 (k : Int)), Is (.int .i64 (m : Int)), Is (.pointer (some ⟨b, o + m * 4, none⟩)), Is (.agg #[.slice q.2.kA q.1.key.length q.2.kc, .int .i64 q.1.seq, .int .i64 q.1.kind, .slice q.2.vA q.1.val.length q.2.vc]), Is (.slice (some ⟨b, o, none⟩) L.length c), Is (.int .i64 (k : Int)), Is (.pointer (some ⟨b, o + k * 4, none⟩)), Is (.agg #[.slice p.2.kA p.1.key.length p.2.kc, .int .i64 p.1.seq, .int .i64 p.1.kind, .slice p.2.vA p.1.val.length p.2.vc]), Is (.int .i64 s), Is (.bool y), Is (.bool y), Is (.bool y)] (by kernel_rfl) (by kernel_rfl) ?mono (fun f1 => ?obl) ?fin
          case mono =>
            simp only [List.forall_mem_cons, List.not_mem_nil, false_imp_iff, implies_true, and_true]
            exact ⟨.is _, .is _, .is _, .is _, .is _, .is _, .is _, .is _, .is _, .is _, .is _, .is _, .is _, .is _, .is _, .is _, .is _, .is _, .is _, .is _, .is _, .is _, .is _⟩
          case fin =>
            intro g1 u hu hg
            simp only [puts, Act.put, List.setIfInBounds_toArray, List.set_cons_zero, List.set_cons_succ]
            have h22 : g1 22 = .bool y := hg 22 (by decide)
            rw [h22]
            have HXU : Hid (Ext w u) := Ext.trans HX.out (Ext.trans (Ext.drew wr) hu)
            clear h22 hg hu c0 c1 c2 c3 d0 d1 d2 d3
            cases y with
            | true =>
              go_wp2_with fail
              go_ret
              refine ⟨false, ⟨fun h => (by cases h), fun h => ?_⟩, rfl, HXU.out⟩
              have h1 := of_decide_eq_true HY.out.symm
              have h2 := h.1 m q.1 p.1 (by rw [List.getElem?_map, HQ.out]; rfl) (by rw [HMK.out, List.getElem?_map, HP.out]; rfl)
              have h3 := HS.out
              omega
            | false =>
              go_wp2_with fail
              go_roundw
              case rel => exact ⟨k + 1, by omega, by go_num, Lib.hid (fun j a b hj ha hb => by
                  by_cases hjm : j = m
                  · subst hjm
                    rw [List.getElem?_map, HQ.out] at ha
                    rw [HMK.out, List.getElem?_map, HP.out] at hb
                    simp at ha hb
                    subst ha hb
                    have h1 := of_decide_eq_false HY.out.symm
                    have h2 := HS.out
                    omega
                  · exact HR.out j a b (by have := HMK.out; omega) ha hb), Lib.hid (all_next (f := fun p : Ent × Hd => p.1.may) HM.out HP.out HZ.out.symm), HXU⟩
              case measure => have := HLT.out; simp [intOf]; omega
          case obl =>
            refine ⟨fun u hu hd => ?_, ?_⟩
            · go_simp
              exact ⟨Ext.refl _, rfl⟩
            refine ⟨fun u hu hd => ?_, ?_⟩
            · simp only [Act.put, List.setIfInBounds_toArray, List.set_cons_zero, List.set_cons_succ]
              go_simp
              exact ⟨Ext.refl _, rfl⟩
            refine ⟨fun u hu hd => ?_, ?_⟩
            · simp only [Act.put, List.setIfInBounds_toArray, List.set_cons_zero, List.set_cons_succ]
              have e0 : f1 0 = .slice (some ⟨b, o, none⟩) L.length c := hd 0 (by kernel_rfl)
              have e1 : f1 1 = .int .i64 (k : Int) := hd 1 (by kernel_rfl)
              go_simp
              exact ⟨Ext.refl _, rfl⟩
            refine ⟨fun u hu hd => ?_, ?_⟩
            · simp only [Act.put, List.setIfInBounds_toArray, List.set_cons_zero, List.set_cons_succ]
              have e2 : f1 2 = .pointer (some ⟨b, o + k * 4, none⟩) := hd 2 (by kernel_rfl)
              have hu2 := Ext.trans (Ext.drew wr) hu
              have q0 := ext_cell hu2 c0
              have q1 := ext_cell hu2 c1
              have q2 := ext_cell hu2 c2
              have q3 := ext_cell hu2 c3
              go_simp
              exact ⟨Ext.refl _, rfl⟩
            refine ⟨fun u hu hd => ?_, ?_⟩
            · simp only [Act.put, List.setIfInBounds_toArray, List.set_cons_zero, List.set_cons_succ]
              have e3 : f1 3 = .agg #[.slice p.2.kA p.1.key.length p.2.kc, .int .i64 p.1.seq, .int .i64 p.1.kind, .slice p.2.vA p.1.val.length p.2.vc] := hd 3 (by kernel_rfl)
              go_simp
              refine (rmay_any _ _ _ _ _ _ _ _ u).mono ?_
              rintro x w9 ⟨rfl, hx9⟩
              exact ⟨_, rfl, hx9, by rw [← HZ.out]; rfl⟩
            refine ⟨fun u hu hd => ?_, ?_⟩
            · simp only [Act.put, List.setIfInBounds_toArray, List.set_cons_zero, List.set_cons_succ]
              have e4 : f1 4 = .bool true := hd 4 (by kernel_rfl)
              go_simp
              exact ⟨Ext.refl _, rfl⟩
            refine ⟨fun u hu hd => ?_, ?_⟩
            · simp only [Act.put, List.setIfInBounds_toArray, List.set_cons_zero, List.set_cons_succ]
              have e5 : f1 5 = .bool false := hd 5 (by kernel_rfl)
              go_simp
              exact ⟨Ext.refl _, rfl⟩
            refine ⟨fun u hu hd => ?_, ?_⟩
            · simp only [Act.put, List.setIfInBounds_toArray, List.set_cons_zero, List.set_cons_succ]
              have e6 : f1 6 = .bool false := hd 6 (by kernel_rfl)
              go_simp
              exact ⟨Ext.refl _, rfl⟩
            refine ⟨fun u hu hd => ?_, ?_⟩
            · simp only [Act.put, List.setIfInBounds_toArray, List.set_cons_zero, List.set_cons_succ]
              have e6 : f1 6 = .bool false := hd 6 (by kernel_rfl)
              have e7 : f1 7 = .int .i64 (k : Int) := hd 7 (by kernel_rfl)
              go_simp
              exact ⟨Ext.refl _, rfl⟩
            refine ⟨fun u hu hd => ?_, ?_⟩
            · simp only [Act.put, List.setIfInBounds_toArray, List.set_cons_zero, List.set_cons_succ]
              have e6 : f1 6 = .bool false := hd 6 (by kernel_rfl)
              have e8 : f1 8 = .bool true := hd 8 (by kernel_rfl)
              go_simp
              exact ⟨Ext.refl _, rfl⟩
            refine ⟨fun u hu hd => ?_, ?_⟩
            · simp only [Act.put, List.setIfInBounds_toArray, List.set_cons_zero, List.set_cons_succ]
              have e9 : f1 9 = .bool true := hd 9 (by kernel_rfl)
              go_simp
              exact ⟨Ext.refl _, rfl⟩
            refine ⟨fun u hu hd => ?_, ?_⟩
            · simp only [Act.put, List.setIfInBounds_toArray, List.set_cons_zero, List.set_cons_succ]
              have e9 : f1 9 = .bool true := hd 9 (by kernel_rfl)
              go_simp
              exact ⟨Ext.refl _, rfl⟩
            refine ⟨fun u hu hd => ?_, ?_⟩
            · simp only [Act.put, List.setIfInBounds_toArray, List.set_cons_zero, List.set_cons_succ]
              have e9 : f1 9 = .bool true := hd 9 (by kernel_rfl)
              have e11 : f1 11 = .int .i64 (k : Int) := hd 11 (by kernel_rfl)
              have q1 := HSUB.out
              go_simp
              exact ⟨Ext.refl _, rfl⟩
            refine ⟨fun u hu hd => ?_, ?_⟩
            · simp only [Act.put, List.setIfInBounds_toArray, List.set_cons_zero, List.set_cons_succ]
              have e9 : f1 9 = .bool true := hd 9 (by kernel_rfl)
              have e10 : f1 10 = .slice (some ⟨b, o, none⟩) L.length c := hd 10 (by kernel_rfl)
              have e12 : f1 12 = .int .i64 (m : Int) := hd 12 (by kernel_rfl)
              go_simp
              exact ⟨Ext.refl _, rfl⟩
            refine ⟨fun u hu hd => ?_, ?_⟩
            · simp only [Act.put, List.setIfInBounds_toArray, List.set_cons_zero, List.set_cons_succ]
              have e9 : f1 9 = .bool true := hd 9 (by kernel_rfl)
              have e13 : f1 13 = .pointer (some ⟨b, o + m * 4, none⟩) := hd 13 (by kernel_rfl)
              have hu2 := Ext.trans (Ext.drew wr) hu
              have q0 := ext_cell hu2 d0
              have q1 := ext_cell hu2 d1
              have q2 := ext_cell hu2 d2
              have q3 := ext_cell hu2 d3
              go_simp
              exact ⟨Ext.refl _, rfl⟩
            refine ⟨fun u hu hd => ?_, ?_⟩
            · simp only [Act.put, List.setIfInBounds_toArray, List.set_cons_zero, List.set_cons_succ]
              have e9 : f1 9 = .bool true := hd 9 (by kernel_rfl)
              go_simp
              exact ⟨Ext.refl _, rfl⟩
            refine ⟨fun u hu hd => ?_, ?_⟩
            · simp only [Act.put, List.setIfInBounds_toArray, List.set_cons_zero, List.set_cons_succ]
              have e9 : f1 9 = .bool true := hd 9 (by kernel_rfl)
              go_simp
              exact ⟨Ext.refl _, rfl⟩
            refine ⟨fun u hu hd => ?_, ?_⟩
            · simp only [Act.put, List.setIfInBounds_toArray, List.set_cons_zero, List.set_cons_succ]
              have e9 : f1 9 = .bool true := hd 9 (by kernel_rfl)
              have e15 : f1 15 = .slice (some ⟨b, o, none⟩) L.length c := hd 15 (by kernel_rfl)
              have e16 : f1 16 = .int .i64 (k : Int) := hd 16 (by kernel_rfl)
              go_simp
              exact ⟨Ext.refl _, rfl⟩
            refine ⟨fun u hu hd => ?_, ?_⟩
            · simp only [Act.put, List.setIfInBounds_toArray, List.set_cons_zero, List.set_cons_succ]
              have e9 : f1 9 = .bool true := hd 9 (by kernel_rfl)
              have e17 : f1 17 = .pointer (some ⟨b, o + k * 4, none⟩) := hd 17 (by kernel_rfl)
              have hu2 := Ext.trans (Ext.drew wr) hu
              have q0 := ext_cell hu2 c0
              have q1 := ext_cell hu2 c1
              have q2 := ext_cell hu2 c2
              have q3 := ext_cell hu2 c3
              go_simp
              exact ⟨Ext.refl _, rfl⟩
            refine ⟨fun u hu hd => ?_, ?_⟩
            · simp only [Act.put, List.setIfInBounds_toArray, List.set_cons_zero, List.set_cons_succ]
              have e9 : f1 9 = .bool true := hd 9 (by kernel_rfl)
              have e14 : f1 14 = .agg #[.slice q.2.kA q.1.key.length q.2.kc, .int .i64 q.1.seq, .int .i64 q.1.kind, .slice q.2.vA q.1.val.length q.2.vc] := hd 14 (by kernel_rfl)
              have e18 : f1 18 = .agg #[.slice p.2.kA p.1.key.length p.2.kc, .int .i64 p.1.seq, .int .i64 p.1.kind, .slice p.2.vA p.1.val.length p.2.vc] := hd 18 (by kernel_rfl)
              have hu2 := Ext.trans (Ext.drew wr) hu
              obtain ⟨m1, m2, m3⟩ := HWW.out u hu2
              go_simp
              refine (rcompare_any m1 m2 m3 m3 HKL.out.1 HKL.out.2).mono ?_
              rintro x w9 ⟨rfl, hx9⟩
              exact ⟨_, rfl, hx9, by rw [HS.out]; rfl⟩
            refine ⟨fun u hu hd => ?_, ?_⟩
            · simp only [Act.put, List.setIfInBounds_toArray, List.set_cons_zero, List.set_cons_succ]
              have e9 : f1 9 = .bool true := hd 9 (by kernel_rfl)
              have e19 : f1 19 = .int .i64 s := hd 19 (by kernel_rfl)
              have q1 := HY.out.symm
              go_simp
              exact ⟨Ext.refl _, rfl⟩
            refine ⟨fun u hu hd => ?_, ?_⟩
            · simp only [Act.put, List.setIfInBounds_toArray, List.set_cons_zero, List.set_cons_succ]
              have e6 : f1 6 = .bool false := hd 6 (by kernel_rfl)
              have e9 : f1 9 = .bool true := hd 9 (by kernel_rfl)
              have e20 : f1 20 = .bool y := hd 20 (by kernel_rfl)
              go_simp
              exact ⟨Ext.refl _, rfl⟩
            refine ⟨fun u hu hd => ?_, ?_⟩
            · simp only [Act.put, List.setIfInBounds_toArray, List.set_cons_zero, List.set_cons_succ]
              have e6 : f1 6 = .bool false := hd 6 (by kernel_rfl)
              have e21 : f1 21 = .bool y := hd 21 (by kernel_rfl)
              go_simp
              exact ⟨Ext.refl _, rfl⟩
            trivial
    · have d : decide ((k : Int) < (L.length : Int)) = false := decide_eq_false (by omega)
      have dn : decide (k < L.length) = false := decide_eq_false hlt
      have HF : Hid (Rise (L.map Prod.fst) ∧ (L.all fun p => p.1.may) = true) := by
        refine ⟨fun j a b ha hb => HR.out j a b (by have := (List.getElem?_eq_some_iff.1 hb).1; rw [List.length_map] at this; omega) ha hb, ?_⟩
        have h := HM.out
        rwa [List.take_of_length_le (by omega)] at h
      clear hlt hk
      go_wp2_with fail
      go_ret
      exact ⟨true, ⟨fun _ => HF.out, fun _ => rfl⟩, rfl, HX.out⟩
end Go.Proofs.YthhgjeeangepaaaGreat

/- The reference's Shared, May, word, number. -/
namespace Go.Proofs.YthhgjeeangepaaaGreat
open Go.ChangeShapes Go.WideShapes Go.ChangeAt Go.RowKit

end Go.Proofs.YthhgjeeangepaaaGreat

/- The reference of tables: word, May, Has. -/
namespace Go.Proofs.YthhgjeeangepaaaGreat
open Go.ChangeShapes Go.WideShapes Go.ChangeAt Go.RowKit

set_option maxRecDepth 100000 in
set_option maxHeartbeats 4000000 in
theorem rtmay_any {w : World} {lo hi c : Nat} {A : Option Addr} {L : List (Ent × Hd)} (h : Es w lo hi A L) (hhi : hi ≤ w.heap.size) (hlen : L.length ≤ 1000000) (hln : ∀ p ∈ L, p.1.key.length + p.1.val.length < 100000) :
    Calls Tryz.prog 14 #[.slice A L.length c] w fun x w' => ∃ z : Bool, (z = true ↔ MayT (L.map Prod.fst)) ∧ x = .returned (.bool z) ∧ Ext w w' := by
  have HMB : Hid (MayT (L.map Prod.fst) ↔ 1 ≤ L.length ∧ L.length ≤ 4096 ∧ Rise (L.map Prod.fst) ∧ (L.all fun p => p.1.may) = true) := by
    unfold MayT Hid
    rw [List.length_map, List.all_eq_true]
    refine ⟨fun ⟨h1, h2, h3, h4⟩ => ⟨h1, h2, h3, fun p hp => h4 _ (List.mem_map_of_mem hp)⟩, fun ⟨h1, h2, h3, h4⟩ => ⟨h1, h2, h3, fun e he => ?_⟩⟩
    obtain ⟨p, hp, rfl⟩ := List.mem_map.1 he
    exact h4 p hp
  have HR := Lib.hid (rrises_any (c := c) h hhi hlen hln)
  clear h hhi hlen hln
  obtain ⟨n, hn⟩ : ∃ n, n = L.length := ⟨_, rfl⟩
  rw [← hn] at HMB HR ⊢
  clear hn
  by_cases h1 : 1 ≤ n
  · have d1 : decide ((1 : Int) ≤ (n : Int)) = true := by rw [decide_eq_true_eq]; omega
    have d1n : decide (1 ≤ n) = true := by rw [decide_eq_true_eq]; exact h1
    by_cases h2 : n ≤ 4096
    · have d2 : decide ((n : Int) ≤ 4096) = true := by rw [decide_eq_true_eq]; omega
      have d2n : decide (n ≤ 4096) = true := by rw [decide_eq_true_eq]; exact h2
      have H12 := Lib.hid (And.intro h1 h2)
      clear h1 h2
      go_enter Tryz.func14, Tryz.ntmps14
      go_wp2_with fail
      refine HR.out.mono ?_
      rintro x w2 ⟨z, hz, rfl, hx⟩
      have HX := Lib.hid hx
      have HZ := Lib.hid hz
      clear hx hz
      go_wp2_with fail
      refine bodyPost_ret (results_tmp rfl _ _ _) rfl ?_
      exact ⟨z, ⟨fun h => HMB.out.2 ⟨H12.out.1, H12.out.2, HZ.out.1 h⟩, fun h => HZ.out.2 (HMB.out.1 h).2.2⟩, rfl, HX.out⟩
    · have d2 : decide ((n : Int) ≤ 4096) = false := by rw [decide_eq_false_iff_not]; omega
      have d2n : decide (n ≤ 4096) = false := by rw [decide_eq_false_iff_not]; exact h2
      have H2 := Lib.hid h2
      clear h1 h2
      go_enter Tryz.func14, Tryz.ntmps14
      go_wp2_with fail
      refine bodyPost_ret (results_tmp rfl _ _ _) rfl ?_
      exact ⟨false, ⟨fun h => (by cases h), fun h => absurd (HMB.out.1 h).2.1 H2.out⟩, rfl, Ext.refl _⟩
  · have d1 : decide ((1 : Int) ≤ (n : Int)) = false := by rw [decide_eq_false_iff_not]; omega
    have d1n : decide (1 ≤ n) = false := by rw [decide_eq_false_iff_not]; exact h1
    have H1 := Lib.hid h1
    clear h1
    go_enter Tryz.func14, Tryz.ntmps14
    go_wp2_with fail
    refine bodyPost_ret (results_tmp rfl _ _ _) rfl ?_
    exact ⟨false, ⟨fun h => (by cases h), fun h => absurd (HMB.out.1 h).1 H1.out⟩, rfl, Ext.refl _⟩

end Go.Proofs.YthhgjeeangepaaaGreat

/- A row of bytes that one owns: its block, its cells, one of them changed (out of XBown). -/
namespace Go.Proofs.YthhgjeeangepaaaGreat
open Go.ChangeShapes Go.WideShapes Go.ChangeAt Go.RowKit

/-- Its block, when it has bytes. -/
theorem Own.block {B : Nat} {l : List Nat} {v : Value} {u : World} (h : Own B l v u) (h0 : 0 < l.length) : ∃ g c, v = .slice (some ⟨g, 0, none⟩) l.length c ∧ B ≤ g ∧ g < u.heap.size ∧ l.length ≤ c := by
  have h2 := h.2
  rcases h2 with ⟨hn, _⟩ | ⟨g, c, cur, hv, hb, hh, hn, _⟩
  · omega
  · refine ⟨g, c, hv, hb, ?_, hn⟩
    rcases Nat.lt_or_ge g u.heap.size with h | h
    · exact h
    · rw [Array.getElem?_eq_none h] at hh; cases hh
theorem Own.cell {B : Nat} {l : List Nat} {g n c : Nat} {u : World} (h : Own B l (.slice (some ⟨g, 0, none⟩) n c) u) {i : Nat} (hi : i < l.length) : u.cell? ⟨g, i, none⟩ = some (.int .u8 (l[i] : Int)) := by
  obtain ⟨A', c', e, _⟩ := h.bs
  injection e with _ e2 _
  subst e2
  have h' : u.ownsRow B 5 1 (.slice (some ⟨g, 0, none⟩) l.length c) l.length (bv l) := h
  rw [h'.cellAt i (by omega)]
  simp [bv, List.getElem?_eq_getElem hi]
theorem Own.free {B : Nat} {l : List Nat} {g n c : Nat} {u : World} (h : Own B l (.slice (some ⟨g, 0, none⟩) n c) u) (i : Nat) : u.frozen? ⟨g, i, none⟩ = false := by
  obtain ⟨A', c', e, _⟩ := h.bs
  injection e with _ e2 _
  subst e2
  have h' : u.ownsRow B 5 1 (.slice (some ⟨g, 0, none⟩) l.length c) l.length (bv l) := h
  exact h'.frozenAt i
theorem Own.set {B : Nat} {l : List Nat} {g n c : Nat} {u : World} (h : Own B l (.slice (some ⟨g, 0, none⟩) n c) u) (i x : Nat) : Own B (l.set i x) (.slice (some ⟨g, 0, none⟩) n c) (u.setCell ⟨g, i, none⟩ (.int .u8 (x : Int))) := by
  obtain ⟨A', c', e, _⟩ := h.bs
  injection e with _ e2 _
  subst e2
  have h' : u.ownsRow B 5 1 (.slice (some ⟨g, 0, none⟩) l.length c) l.length (bv l) := h
  have h1 := (h'.stored i (.int .u8 (x : Int))).1
  have e : (bv l).set i (.int .u8 (x : Int)) = bv (l.set i x) := by simp [bv, List.map_set]
  rw [e] at h1
  unfold Own
  rw [List.length_set]
  exact h1
end Go.Proofs.YthhgjeeangepaaaGreat
