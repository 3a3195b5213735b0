/- Ymuch6 Ymuch, joined. -/
import Derived.Test.YtndcblhkjhjcdaaMa13
import Derived.Test.YtndcblhkjhjcdaaMa5
import Derived.Deep.DeepCutAuto
import Derived.BigQuiet

/- The law's much. -/
namespace Go.Proofs.Ytndcblhkjhjcdaa
open Go.ChangeShapes Go.WideShapes Go.ChangeAt Go.RowKit
attribute [local go_sem] Oper.semAt_some

/-- Are they much, as the laws ask it? -/
def Much60 (L : List (Ent × Hd)) (z : Bool) : Prop := z = false → L.length ≤ 60000 ∧ ∀ p ∈ L, p.1.key.length + p.1.val.length < 60000

set_option maxRecDepth 100000 in
set_option maxHeartbeats 4000000 in
theorem much60_any {w : World} {lo hi : Nat} {A : Option Addr} {c : Nat} {L : List (Ent × Hd)} (h : Es w lo hi A L) (hhi : hi ≤ w.heap.size) (hlen : L.length ≤ 4000000000000) (hln : ∀ p ∈ L, p.1.key.length ≤ 140737488351232 ∧ p.1.val.length ≤ 140737488351232) :
    Calls Try.prog 24 #[.slice A L.length c, .int .i64 60000] w fun x w' => ∃ z : Bool, Much60 L z ∧ x = .returned (.bool z) ∧ Ext w w' := by
  have HE := Lib.hid h
  have HHI := Lib.hid hhi
  have HL := Lib.hid hlen
  have HLN := Lib.hid hln
  clear h hhi hlen hln
  go_enter Try.func24, Try.ntmps24
  go_wp2_with fail
  go_loopw [5, 6] (fun a b wr => ∃ s i : Nat, a = .int .i64 (s : Int) ∧ b = .int .i64 (i : Int) ∧ i ≤ L.length ∧ s ≤ 500000 ∧ Hid (s ≤ 60000 → i ≤ s ∧ ∀ p ∈ L.take i, p.1.key.length + p.1.val.length < s) ∧ Hid (Ext w wr)) (fun _ b _ => L.length - (intOf b).toNat)
  case atStart => exact ⟨0, 0, rfl, rfl, by omega, by omega, fun _ => ⟨by omega, by simp⟩, Lib.hid (Ext.refl _)⟩
  case round =>
    obtain ⟨s, i, rfl, rfl, hm, hs, HR, HX⟩ := hrel
    by_cases hlt : i < L.length
    · have d : decide ((i : Int) < (L.length : Int)) = true := decide_eq_true (by omega)
      have dn : decide (i < L.length) = true := decide_eq_true hlt
      by_cases hs1 : s ≤ 60000
      · have t : decide ((s : Int) ≤ 60000) = true := decide_eq_true (by omega)
        have tn : decide (s ≤ 60000) = true := decide_eq_true hs1
        obtain ⟨b, o, hA⟩ := HE.out.base (by omega)
        subst hA
        obtain ⟨p, hp⟩ : ∃ p, L[i]? = some p := ⟨_, List.getElem?_eq_getElem hlt⟩
        obtain ⟨c0, c1, c2, c3⟩ := (HE.out.below HX.out HHI.out).get hp
        have HP := Lib.hid hp
        have HLP := Lib.hid (HLN.out p (List.mem_of_getElem? hp))
        have n1 : (0 : Int) ≤ (i : Int) := by omega
        have n2 : (i : Int) < (L.length : Int) := by omega
        obtain ⟨x, hx⟩ : ∃ x, x = min p.1.key.length 60001 := ⟨_, rfl⟩
        obtain ⟨y, hy⟩ : ∃ y, y = min p.1.val.length 60001 := ⟨_, rfl⟩
        have HMX : Hid ((min (p.1.key.length : Int) 60001) = (x : Int)) := by unfold Hid; omega
        have HMY : Hid ((min (p.1.val.length : Int) 60001) = (y : Int)) := by unfold Hid; omega
        have HXY := Lib.hid (And.intro hx hy)
        have HS1 := Lib.hid hs1
        clear hp c1 c2 hx hy
        go_upto_region 5 with (fail)
        refine flow (by kernel_rfl) [Is (.int .i64 (s : Int)), Is (.int .i64 ((s : Int) + 1)), Is (.slice (some ⟨b, o, none⟩) L.length c), Is (.int .i64 (i : Int)), Is (.pointer (some ⟨b, o + i * 4, none⟩)), Is (.pointer (some ⟨b, o + i * 4, none⟩)), Is (.slice p.2.kA p.1.key.length p.2.kc), Is (.int .i64 (p.1.key.length : Int)), Is (.int .i64 (60000 : Int)), Is (.int .i64 (60001 : Int)), Is (.int .i64 (x : Int)), Is (.int .i64 ((s : Int) + 1 + (x : Int))), Is (.slice (some ⟨b, o, none⟩) L.length c), Is (.int .i64 (i : Int)), Is (.pointer (some ⟨b, o + i * 4, none⟩)), Is (.pointer (some ⟨b, o + i * 4 + 3, none⟩)), Is (.slice p.2.vA p.1.val.length p.2.vc), Is (.int .i64 (p.1.val.length : Int)), Is (.int .i64 (60000 : Int)), Is (.int .i64 (60001 : Int)), Is (.int .i64 (y : Int)), Is (.int .i64 ((s : Int) + 1 + (x : Int) + (y : Int))), Is (.int .i64 ((s : Int) + 1 + (x : Int) + (y : Int)))] (by kernel_rfl) (by kernel_rfl) ?mono (fun f1 => ?obl) ?fin
        case mono =>
          simp only [List.forall_mem_cons, List.not_mem_nil, false_imp_iff, implies_true, and_true]
          exact ⟨.is _, .is _, .is _, .is _, .is _, .is _, .is _, .is _, .is _, .is _, .is _, .is _, .is _, .is _, .is _, .is _, .is _, .is _, .is _, .is _, .is _, .is _, .is _⟩
        case fin =>
          intro g1 u hu hg
          simp only [puts, Act.put, List.setIfInBounds_toArray, List.set_cons_zero, List.set_cons_succ]
          have h22 : g1 22 = .int .i64 ((s : Int) + 1 + (x : Int) + (y : Int)) := hg 22 (by decide)
          rw [h22]
          have HXU : Hid (Ext w u) := Ext.trans HX.out (Ext.trans (Ext.drew wr) hu)
          have hL := HL.out
          clear h22 hg hu c0 c3
          go_wp2_with fail
          go_roundw
          case rel =>
            have hxy := HXY.out
            have hs1 := HS1.out
            refine ⟨s + 1 + x + y, i + 1, by simp, by go_num, by omega, by omega, Lib.hid fun hle => ?_, HXU⟩
            obtain ⟨h1, h2⟩ := HR.out hs1
            refine ⟨by omega, fun q hq => ?_⟩
            rw [List.take_succ_eq_append_getElem hlt, List.mem_append, List.mem_singleton] at hq
            rcases hq with hq | hq
            · have := h2 q hq; omega
            · have hpe : q = p := by rw [hq]; exact (List.getElem?_eq_some_iff.1 HP.out).2
              subst hpe
              omega
          case measure => simp [intOf]; omega
        case obl =>
          refine ⟨fun u hu hd => ?_, ?_⟩
          · go_simp
            exact ⟨Ext.refl _, rfl⟩
          refine ⟨fun u hu hd => ?_, ?_⟩
          · simp only [Act.put, List.setIfInBounds_toArray, List.set_cons_zero, List.set_cons_succ]
            have e0 : f1 0 = .int .i64 (s : Int) := hd 0 (by kernel_rfl)
            have q : IntKind.i64.wrap ((s : Int) + 1) = (s : Int) + 1 := by rw [IntKind.wrap_i64]; omega
            go_simp
            exact ⟨Ext.refl _, rfl⟩
          refine ⟨fun u hu hd => ?_, ?_⟩
          · simp only [Act.put, List.setIfInBounds_toArray, List.set_cons_zero, List.set_cons_succ]
            go_simp
            exact ⟨Ext.refl _, rfl⟩
          refine ⟨fun u hu hd => ?_, ?_⟩
          · simp only [Act.put, List.setIfInBounds_toArray, List.set_cons_zero, List.set_cons_succ]
            go_simp
            exact ⟨Ext.refl _, rfl⟩
          refine ⟨fun u hu hd => ?_, ?_⟩
          · simp only [Act.put, List.setIfInBounds_toArray, List.set_cons_zero, List.set_cons_succ]
            have e2 : f1 2 = .slice (some ⟨b, o, none⟩) L.length c := hd 2 (by kernel_rfl)
            have e3 : f1 3 = .int .i64 (i : Int) := hd 3 (by kernel_rfl)
            go_simp
            exact ⟨Ext.refl _, rfl⟩
          refine ⟨fun u hu hd => ?_, ?_⟩
          · simp only [Act.put, List.setIfInBounds_toArray, List.set_cons_zero, List.set_cons_succ]
            have e4 : f1 4 = .pointer (some ⟨b, o + i * 4, none⟩) := hd 4 (by kernel_rfl)
            go_simp
            exact ⟨Ext.refl _, rfl⟩
          refine ⟨fun u hu hd => ?_, ?_⟩
          · simp only [Act.put, List.setIfInBounds_toArray, List.set_cons_zero, List.set_cons_succ]
            have e5 : f1 5 = .pointer (some ⟨b, o + i * 4, none⟩) := hd 5 (by kernel_rfl)
            have hu2 := Ext.trans (Ext.drew wr) hu
            have q0 := ext_cell hu2 c0
            go_simp
            exact ⟨Ext.refl _, rfl⟩
          refine ⟨fun u hu hd => ?_, ?_⟩
          · simp only [Act.put, List.setIfInBounds_toArray, List.set_cons_zero, List.set_cons_succ]
            have e6 : f1 6 = .slice p.2.kA p.1.key.length p.2.kc := hd 6 (by kernel_rfl)
            go_simp
            exact ⟨Ext.refl _, rfl⟩
          refine ⟨fun u hu hd => ?_, ?_⟩
          · simp only [Act.put, List.setIfInBounds_toArray, List.set_cons_zero, List.set_cons_succ]
            go_simp
            exact ⟨Ext.refl _, rfl⟩
          refine ⟨fun u hu hd => ?_, ?_⟩
          · simp only [Act.put, List.setIfInBounds_toArray, List.set_cons_zero, List.set_cons_succ]
            have e8 : f1 8 = .int .i64 (60000 : Int) := hd 8 (by kernel_rfl)
            go_simp
            exact ⟨Ext.refl _, rfl⟩
          refine ⟨fun u hu hd => ?_, ?_⟩
          · simp only [Act.put, List.setIfInBounds_toArray, List.set_cons_zero, List.set_cons_succ]
            have e7 : f1 7 = .int .i64 (p.1.key.length : Int) := hd 7 (by kernel_rfl)
            have e9 : f1 9 = .int .i64 (60001 : Int) := hd 9 (by kernel_rfl)
            have q := HMX.out
            go_simp
            exact ⟨Ext.refl _, rfl⟩
          refine ⟨fun u hu hd => ?_, ?_⟩
          · simp only [Act.put, List.setIfInBounds_toArray, List.set_cons_zero, List.set_cons_succ]
            have e1 : f1 1 = .int .i64 ((s : Int) + 1) := hd 1 (by kernel_rfl)
            have e10 : f1 10 = .int .i64 (x : Int) := hd 10 (by kernel_rfl)
            have q1 : x ≤ 60001 ∧ y ≤ 60001 := by have := HXY.out; omega
            have q : IntKind.i64.wrap ((s : Int) + 1 + (x : Int)) = (s : Int) + 1 + (x : Int) := by rw [IntKind.wrap_i64]; omega
            go_simp
            exact ⟨Ext.refl _, rfl⟩
          refine ⟨fun u hu hd => ?_, ?_⟩
          · simp only [Act.put, List.setIfInBounds_toArray, List.set_cons_zero, List.set_cons_succ]
            go_simp
            exact ⟨Ext.refl _, rfl⟩
          refine ⟨fun u hu hd => ?_, ?_⟩
          · simp only [Act.put, List.setIfInBounds_toArray, List.set_cons_zero, List.set_cons_succ]
            go_simp
            exact ⟨Ext.refl _, rfl⟩
          refine ⟨fun u hu hd => ?_, ?_⟩
          · simp only [Act.put, List.setIfInBounds_toArray, List.set_cons_zero, List.set_cons_succ]
            have e12 : f1 12 = .slice (some ⟨b, o, none⟩) L.length c := hd 12 (by kernel_rfl)
            have e13 : f1 13 = .int .i64 (i : Int) := hd 13 (by kernel_rfl)
            go_simp
            exact ⟨Ext.refl _, rfl⟩
          refine ⟨fun u hu hd => ?_, ?_⟩
          · simp only [Act.put, List.setIfInBounds_toArray, List.set_cons_zero, List.set_cons_succ]
            have e14 : f1 14 = .pointer (some ⟨b, o + i * 4, none⟩) := hd 14 (by kernel_rfl)
            go_simp
            exact ⟨Ext.refl _, rfl⟩
          refine ⟨fun u hu hd => ?_, ?_⟩
          · simp only [Act.put, List.setIfInBounds_toArray, List.set_cons_zero, List.set_cons_succ]
            have e15 : f1 15 = .pointer (some ⟨b, o + i * 4 + 3, none⟩) := hd 15 (by kernel_rfl)
            have hu2 := Ext.trans (Ext.drew wr) hu
            have q0 := ext_cell hu2 c3
            go_simp
            exact ⟨Ext.refl _, rfl⟩
          refine ⟨fun u hu hd => ?_, ?_⟩
          · simp only [Act.put, List.setIfInBounds_toArray, List.set_cons_zero, List.set_cons_succ]
            have e16 : f1 16 = .slice p.2.vA p.1.val.length p.2.vc := hd 16 (by kernel_rfl)
            go_simp
            exact ⟨Ext.refl _, rfl⟩
          refine ⟨fun u hu hd => ?_, ?_⟩
          · simp only [Act.put, List.setIfInBounds_toArray, List.set_cons_zero, List.set_cons_succ]
            go_simp
            exact ⟨Ext.refl _, rfl⟩
          refine ⟨fun u hu hd => ?_, ?_⟩
          · simp only [Act.put, List.setIfInBounds_toArray, List.set_cons_zero, List.set_cons_succ]
            have e18 : f1 18 = .int .i64 (60000 : Int) := hd 18 (by kernel_rfl)
            go_simp
            exact ⟨Ext.refl _, rfl⟩
          refine ⟨fun u hu hd => ?_, ?_⟩
          · simp only [Act.put, List.setIfInBounds_toArray, List.set_cons_zero, List.set_cons_succ]
            have e17 : f1 17 = .int .i64 (p.1.val.length : Int) := hd 17 (by kernel_rfl)
            have e19 : f1 19 = .int .i64 (60001 : Int) := hd 19 (by kernel_rfl)
            have q := HMY.out
            go_simp
            exact ⟨Ext.refl _, rfl⟩
          refine ⟨fun u hu hd => ?_, ?_⟩
          · simp only [Act.put, List.setIfInBounds_toArray, List.set_cons_zero, List.set_cons_succ]
            have e11 : f1 11 = .int .i64 ((s : Int) + 1 + (x : Int)) := hd 11 (by kernel_rfl)
            have e20 : f1 20 = .int .i64 (y : Int) := hd 20 (by kernel_rfl)
            have q1 : x ≤ 60001 ∧ y ≤ 60001 := by have := HXY.out; omega
            have q : IntKind.i64.wrap ((s : Int) + 1 + (x : Int) + (y : Int)) = (s : Int) + 1 + (x : Int) + (y : Int) := by rw [IntKind.wrap_i64]; omega
            go_simp
            exact ⟨Ext.refl _, rfl⟩
          refine ⟨fun u hu hd => ?_, ?_⟩
          · simp only [Act.put, List.setIfInBounds_toArray, List.set_cons_zero, List.set_cons_succ]
            have e21 : f1 21 = .int .i64 ((s : Int) + 1 + (x : Int) + (y : Int)) := hd 21 (by kernel_rfl)
            go_simp
            exact ⟨Ext.refl _, rfl⟩
          trivial
      · have t : decide ((s : Int) ≤ 60000) = false := decide_eq_false (by omega)
        have tn : decide (s ≤ 60000) = false := decide_eq_false hs1
        have t2 : decide ((60000 : Int) < (s : Int)) = true := decide_eq_true (by omega)
        have t2n : decide (60000 < s) = true := decide_eq_true (by omega)
        clear hs1 hlt hm hs
        go_wp2_with fail
        go_ret
        exact ⟨true, fun h => (by cases h), rfl, HX.out⟩
    · have d : decide ((i : Int) < (L.length : Int)) = false := decide_eq_false (by omega)
      have dn : decide (i < L.length) = false := decide_eq_false hlt
      have HI : Hid (i = L.length) := by unfold Hid; omega
      by_cases hs1 : s ≤ 60000
      · have t2 : decide ((60000 : Int) < (s : Int)) = false := decide_eq_false (by omega)
        have t2n : decide (60000 < s) = false := decide_eq_false (by omega)
        have HS1 := Lib.hid hs1
        clear hs1 hlt hm hs
        go_wp2_with fail
        go_ret
        refine ⟨false, fun _ => ?_, rfl, HX.out⟩
        obtain ⟨h1, h2⟩ := HR.out HS1.out
        have h3 := HI.out
        have h4 := HS1.out
        rw [h3, List.take_length] at h2
        exact ⟨by omega, fun p hp => by have := h2 p hp; omega⟩
      · have t2 : decide ((60000 : Int) < (s : Int)) = true := decide_eq_true (by omega)
        have t2n : decide (60000 < s) = true := decide_eq_true (by omega)
        clear hs1 hlt hm hs
        go_wp2_with fail
        go_ret
        exact ⟨true, fun h => (by cases h), rfl, HX.out⟩

end Go.Proofs.Ytndcblhkjhjcdaa

/- The law's much. -/
namespace Go.Proofs.Ytndcblhkjhjcdaa
open Go.ChangeShapes Go.WideShapes Go.ChangeAt Go.RowKit
attribute [local go_sem] Oper.semAt_some

/-- What is known of batches that are not much. -/
def LMuch (X : List Bx) (z : Bool) : Prop := z = false → X.length ≤ 100 ∧ ∀ x ∈ X, x.L.length ≤ 60000 ∧ ∀ p ∈ x.L, p.1.key.length + p.1.val.length < 60000

theorem wnat {a b t : Nat} (h : t = a + b) (hb : t < 500000000001) : wrap64 ((a : Int) + (b : Int)) = (t : Int) := by
  unfold wrap64; omega

theorem wnat2 {a b t : Nat} (h : t = a + b) (hb : t < 500000000001) : IntKind.i64.wrap ((a : Int) + (b : Int)) = (t : Int) := by
  rw [IntKind.wrap_i64]; omega

theorem mbound {s i k kn vn n t1 t2 t3 : Nat} (h1 : s ≤ 3600060000 * i + 60001 * k) (h2 : i < 101) (h3 : k < n) (h4 : n ≤ 60000) (h5 : kn + vn < 60000) (e1 : t1 = s + 1) (e2 : t2 = t1 + kn) (e3 : t3 = t2 + vn) :
    t3 ≤ 3600060000 * i + 60001 * (k + 1) ∧ t1 < 500000000001 ∧ t2 < 500000000001 ∧ t3 < 500000000001 ∧ k + 1 < 500000000001 := by omega

set_option maxRecDepth 100000 in
set_option maxHeartbeats 8000000 in
theorem lmuch_any {w : World} {lo hi : Nat} {A : Option Addr} {c : Nat} {X : List Bx} (h : Bins w lo hi A X) (hhi : hi ≤ w.heap.size) (hlen : X.length ≤ 5000000000000) (hln : ∀ x ∈ X, ∀ p ∈ x.L, p.1.key.length ≤ 140737488351232 ∧ p.1.val.length ≤ 140737488351232) :
    Calls Try.prog 9 #[.slice A X.length c] w fun x w' => ∃ z : Bool, LMuch X z ∧ x = .returned (.bool z) ∧ Ext w w' := by
  have HE := Lib.hid h
  have HHI := Lib.hid hhi
  have HL := Lib.hid hlen
  have HLN := Lib.hid hln
  clear h hhi hlen hln
  go_enter Try.func9, Try.ntmps9
  go_wp2_with fail
  go_loopw [3, 4] (fun a b wr => ∃ s i : Nat, a = .int .i64 (s : Int) ∧ b = .int .i64 (i : Int) ∧ i ≤ X.length ∧ i ≤ 101 ∧ Hid (s ≤ 3600060000 * i) ∧ Hid (∀ x ∈ X.take i, x.L.length ≤ 60000 ∧ ∀ p ∈ x.L, p.1.key.length + p.1.val.length < 60000) ∧ Hid (Ext w wr)) (fun _ b _ => 102 - (intOf b).toNat)
  case atStart => exact ⟨0, 0, rfl, rfl, by omega, by omega, (by unfold Hid; omega), by simp [Hid], Lib.hid (Ext.refl _)⟩
  case round =>
    obtain ⟨s, i, rfl, rfl, hm, hi, HS, HR, HX⟩ := hrel
    by_cases hend : i < X.length ∧ i < 101
    rotate_left
    · have HDONE : Hid (X.length ≤ 100 → i = X.length) := fun h => by omega
      obtain ⟨z1, oz1⟩ : ∃ z, z = decide ((60000 : Int) < (s : Int)) := ⟨_, rfl⟩
      obtain ⟨z2, oz2⟩ : ∃ z, z = decide ((100 : Int) < (X.length : Int)) := ⟨_, rfl⟩
      have hz1n : decide (60000 < s) = z1 := by rw [oz1]; exact decide_eq_decide.2 (by omega)
      have hz2n : decide (100 < X.length) = z2 := by rw [oz2]; exact decide_eq_decide.2 (by omega)
      have HZ2 := Lib.hid oz2
      have hz1 := oz1.symm
      have hz2 := oz2.symm
      have fin : ∀ z : Bool, (z = false → z2 = false) → LMuch X z := fun z hz h0 => by
        have h2 := HZ2.out
        rw [hz h0] at h2
        have h3 := of_decide_eq_false h2.symm
        have h4 : X.length ≤ 100 := by omega
        refine ⟨h4, ?_⟩
        have h5 := HR.out
        rwa [HDONE.out h4, List.take_of_length_le (Nat.le_refl _)] at h5
      have HFIN := Lib.hid fin
      clear fin oz1 oz2
      by_cases hx : i < X.length
      · have d : decide ((i : Int) < (X.length : Int)) = true := decide_eq_true (by omega)
        have dn : decide (i < X.length) = true := decide_eq_true hx
        have e : decide ((i : Int) < 101) = false := decide_eq_false (by omega)
        have en : decide (i < 101) = false := decide_eq_false (by omega)
        clear hend hm hi hx
        clear HR
        cases z1 <;> cases z2
        · go_wp2_with fail
          go_ret
          first | exact ⟨false, HFIN.out false (fun _ => by first | rfl | trivial | simp), rfl, HX.out⟩ | exact Or.inl ⟨HFIN.out false (fun _ => by first | rfl | trivial | simp), (by first | rfl | trivial | simp), HX.out⟩
        · go_wp2_with fail
          go_ret
          first | exact ⟨true, HFIN.out true (fun h => by cases h), rfl, HX.out⟩ | exact Or.inr ⟨HFIN.out true (fun h => by cases h), (by first | rfl | trivial | simp), HX.out⟩
        · go_wp2_with fail
          go_ret
          first | exact ⟨true, HFIN.out true (fun h => by cases h), rfl, HX.out⟩ | exact Or.inr ⟨HFIN.out true (fun h => by cases h), (by first | rfl | trivial | simp), HX.out⟩
        · go_wp2_with fail
          go_ret
          first | exact ⟨true, HFIN.out true (fun h => by cases h), rfl, HX.out⟩ | exact Or.inr ⟨HFIN.out true (fun h => by cases h), (by first | rfl | trivial | simp), HX.out⟩
      · have d : decide ((i : Int) < (X.length : Int)) = false := decide_eq_false (by omega)
        have dn : decide (i < X.length) = false := decide_eq_false hx
        clear hend hm hi hx
        clear HR
        cases z1 <;> cases z2
        · go_wp2_with fail
          go_ret
          first | exact ⟨false, HFIN.out false (fun _ => by first | rfl | trivial | simp), rfl, HX.out⟩ | exact Or.inl ⟨HFIN.out false (fun _ => by first | rfl | trivial | simp), (by first | rfl | trivial | simp), HX.out⟩
        · go_wp2_with fail
          go_ret
          first | exact ⟨true, HFIN.out true (fun h => by cases h), rfl, HX.out⟩ | exact Or.inr ⟨HFIN.out true (fun h => by cases h), (by first | rfl | trivial | simp), HX.out⟩
        · go_wp2_with fail
          go_ret
          first | exact ⟨true, HFIN.out true (fun h => by cases h), rfl, HX.out⟩ | exact Or.inr ⟨HFIN.out true (fun h => by cases h), (by first | rfl | trivial | simp), HX.out⟩
        · go_wp2_with fail
          go_ret
          first | exact ⟨true, HFIN.out true (fun h => by cases h), rfl, HX.out⟩ | exact Or.inr ⟨HFIN.out true (fun h => by cases h), (by first | rfl | trivial | simp), HX.out⟩
    obtain ⟨hx1, hx2⟩ := hend
    have d : decide ((i : Int) < (X.length : Int)) = true := decide_eq_true (by omega)
    have dn : decide (i < X.length) = true := decide_eq_true hx1
    have e : decide ((i : Int) < 101) = true := decide_eq_true (by omega)
    have en : decide (i < 101) = true := decide_eq_true hx2
    obtain ⟨b, o, hA⟩ := HE.out.base (by omega)
    subst hA
    obtain ⟨x, hx⟩ : ∃ x, X[i]? = some x := ⟨_, List.getElem?_eq_getElem hx1⟩
    obtain ⟨c0, c1⟩ := (HE.out.below HX.out HHI.out).get hx
    have HXI := Lib.hid hx
    have hbm := (HE.out.below HX.out HHI.out).each x (List.mem_of_getElem? hx)
    have HEX := Lib.hid hbm.es
    have hln4 := hbm.ln
    have HMU := Lib.hid (much60_any (c := x.c) hbm.es (Nat.le_trans HHI.out HX.out.size) hbm.ln (HLN.out x (List.mem_of_getElem? hx)))
    have n1 : (0 : Int) ≤ (i : Int) := by omega
    have n2 : (i : Int) < (X.length : Int) := by omega
    have HI := Lib.hid (And.intro hx1 hx2)
    clear hx hbm hx1 hx2 hm hi hln4
    go_wp2_with fail
    refine HMU.out.mono ?_
    rintro ex w2 ⟨z, hz, rfl, hx2⟩
    have HZ := Lib.hid hz
    have HXW : Hid (Ext w w2) := Ext.trans HX.out hx2
    clear hz hx2 c0 c1 d dn e en HMU
    cases z with
    | true =>
      go_wp2_with fail
      go_ret
      first | exact ⟨true, fun h => (by cases h), rfl, HXW.out⟩ | exact Or.inr ⟨fun h => (by cases h), (by first | rfl | trivial | simp), HXW.out⟩
    | false =>
      have HNM := Lib.hid (HZ.out rfl)
      go_wp2_with fail
      go_loopw [3, 5] (fun a b wr2 => ∃ s2 k : Nat, a = .int .i64 (s2 : Int) ∧ b = .int .i64 (k : Int) ∧ k ≤ x.L.length ∧ Hid (s2 ≤ 3600060000 * i + 60001 * k) ∧ Hid (Ext w wr2)) (fun _ b _ => x.L.length - (intOf b).toNat)
      case atStart => exact ⟨s, 0, rfl, rfl, by omega, (by have := HS.out; unfold Hid; omega), HXW⟩
      case round =>
        obtain ⟨s2, k, rfl, rfl, hkl, HS2, HX3⟩ := hrel
        obtain ⟨c0, c1⟩ := (HE.out.below HX3.out HHI.out).get HXI.out
        have n1 : (0 : Int) ≤ (i : Int) := by omega
        have n2 : (i : Int) < (X.length : Int) := by have := HI.out.1; omega
        by_cases hk : k < x.L.length
        · have dk : decide ((k : Int) < (x.L.length : Int)) = true := decide_eq_true (by omega)
          have dkn : decide (k < x.L.length) = true := decide_eq_true hk
          obtain ⟨p, hp⟩ : ∃ p, x.L[k]? = some p := ⟨_, List.getElem?_eq_getElem hk⟩
          have HE3 := Lib.hid ((HE.out.below HX3.out HHI.out).each x (List.mem_of_getElem? HXI.out)).es
          obtain ⟨bb, oo, hxA⟩ := HE3.out.base (by omega)
          rw [hxA] at c1 HE3
          obtain ⟨p0, p1, p2, p3⟩ := HE3.out.get hp
          have hpl := HNM.out.2 p (List.mem_of_getElem? hp)
          have n3 : (0 : Int) ≤ (k : Int) := by omega
          have n4 : (k : Int) < (x.L.length : Int) := by omega
          have hi101 := HI.out.2
          have hkx := HNM.out.1
          obtain ⟨kn, hkn⟩ : ∃ kn, kn = p.1.key.length := ⟨_, rfl⟩
          obtain ⟨vn, hvn⟩ : ∃ vn, vn = p.1.val.length := ⟨_, rfl⟩
          rw [← hkn] at p0 hpl
          rw [← hvn] at p3 hpl
          obtain ⟨t1, ht1⟩ : ∃ t1, t1 = s2 + 1 := ⟨_, rfl⟩
          obtain ⟨t2, ht2⟩ : ∃ t2, t2 = t1 + kn := ⟨_, rfl⟩
          obtain ⟨t3, ht3⟩ : ∃ t3, t3 = t2 + vn := ⟨_, rfl⟩
          obtain ⟨ht, b1, b2, b3, b4⟩ := mbound HS2.out hi101 hk hkx hpl ht1 ht2 ht3
          have w1 : wrap64 ((s2 : Int) + 1) = (t1 : Int) := wnat (b := 1) ht1 b1
          have w2' : wrap64 ((t1 : Int) + (kn : Int)) = (t2 : Int) := wnat ht2 b2
          have w3 : wrap64 ((t2 : Int) + (vn : Int)) = (t3 : Int) := wnat ht3 b3
          have v1 : IntKind.i64.wrap ((s2 : Int) + 1) = (t1 : Int) := wnat2 (b := 1) ht1 b1
          have v2 : IntKind.i64.wrap ((t1 : Int) + (kn : Int)) = (t2 : Int) := wnat2 ht2 b2
          have v3 : IntKind.i64.wrap ((t2 : Int) + (vn : Int)) = (t3 : Int) := wnat2 ht3 b3
          have HT := Lib.hid ht
          have HK := Lib.hid (And.intro hk hkx)
          have hw5 : wrap64 ((k : Int) + 1) = ((k + 1 : Nat) : Int) := wnat (b := 1) rfl b4
          clear hp hkn hvn ht1 ht2 ht3 ht b1 b2 b3 b4 hxA hpl hkl hk hi101 hkx p1 p2 c0
          go_wp2_with fail
          go_quiet (fail)
          clear w1 w2' w3 v1 v2 v3 p0 p3 c1
          go_wp2_with fail
          go_roundw
          case rel => exact ⟨t3, k + 1, rfl, by rw [hw5], HK.out.1, HT, Lib.hid (below_drewN HX3.out _)⟩
          case measure => rw [hw5]; have := HK.out.1; simp [intOf]; omega
        · have dk : decide ((k : Int) < (x.L.length : Int)) = false := decide_eq_false (by omega)
          have dkn : decide (k < x.L.length) = false := decide_eq_false hk
          have hw5 : wrap64 ((i : Int) + 1) = ((i + 1 : Nat) : Int) := by have := HI.out.2; unfold wrap64; omega
          have HFS : Hid (s2 ≤ 3600060000 * (i + 1)) := by have := HNM.out.1; have := HS2.out; unfold Hid; omega
          clear hk hkl
          go_wp2_with fail
          go_roundw
          case rel =>
            refine ⟨s2, i + 1, rfl, by rw [hw5], HI.out.1, HI.out.2, HFS, Lib.hid fun y hy => ?_, HX3⟩
            rw [List.take_add_one, HXI.out] at hy
            rcases List.mem_append.1 hy with hy | hy
            · exact HR.out y hy
            · simp at hy; subst hy; exact HNM.out
          case measure => rw [hw5]; have := HI.out.2; simp [intOf]; omega
end Go.Proofs.Ytndcblhkjhjcdaa
