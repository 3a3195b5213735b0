/- Ymuch6 Ymuch Iargs Gargs Yargs Lwsame Ymuchs Ypay, joined. -/
import Derived.Test.YtgflhbpmkcggnaaMa13
import Derived.Test.YtgflhbpmkcggnaaMa5
import Derived.Deep.DeepCutAuto
import Derived.BigQuiet
import Derived.Test.YtgflhbpmkcggnaaMa4
import Derived.Lib.SmallJoins
import Derived.SizedLaws
import Derived.Deep.Slices
import Derived.Test.YtgflhbpmkcggnaaMa7
import Derived.Test.YtgflhbpmkcggnaaMa3

/- The law's much. -/
namespace Go.Proofs.Ytgflhbpmkcggnaa
open Go.ChangeShapes Go.WideShapes Go.ChangeAt Go.RowKit
attribute [local go_sem] Oper.semAt_some

/-- Are they much, as the laws ask it? -/
def Much60 (L : List (Ent × Hd)) (z : Bool) : Prop := z = false → L.length ≤ 60000 ∧ ∀ p ∈ L, p.1.key.length + p.1.val.length < 60000

set_option maxRecDepth 100000 in
set_option maxHeartbeats 4000000 in
theorem much60_any {w : World} {lo hi : Nat} {A : Option Addr} {c : Nat} {L : List (Ent × Hd)} (h : Es w lo hi A L) (hhi : hi ≤ w.heap.size) (hlen : L.length ≤ 4000000000000) (hln : ∀ p ∈ L, p.1.key.length ≤ 140737488351232 ∧ p.1.val.length ≤ 140737488351232) :
    Calls Try.prog 24 #[.slice A L.length c, .int .i64 60000] w fun x w' => ∃ z : Bool, Much60 L z ∧ x = .returned (.bool z) ∧ Ext w w' := by
  have HE := Lib.hid h
  have HHI := Lib.hid hhi
  have HL := Lib.hid hlen
  have HLN := Lib.hid hln
  clear h hhi hlen hln
  go_enter Try.func24, Try.ntmps24
  go_wp2_with fail
  go_loopw [5, 6] (fun a b wr => ∃ s i : Nat, a = .int .i64 (s : Int) ∧ b = .int .i64 (i : Int) ∧ i ≤ L.length ∧ s ≤ 500000 ∧ Hid (s ≤ 60000 → i ≤ s ∧ ∀ p ∈ L.take i, p.1.key.length + p.1.val.length < s) ∧ Hid (Ext w wr)) (fun _ b _ => L.length - (intOf b).toNat)
  case atStart => exact ⟨0, 0, rfl, rfl, by omega, by omega, fun _ => ⟨by omega, by simp⟩, Lib.hid (Ext.refl _)⟩
  case round =>
    obtain ⟨s, i, rfl, rfl, hm, hs, HR, HX⟩ := hrel
    by_cases hlt : i < L.length
    · have d : decide ((i : Int) < (L.length : Int)) = true := decide_eq_true (by omega)
      have dn : decide (i < L.length) = true := decide_eq_true hlt
      by_cases hs1 : s ≤ 60000
      · have t : decide ((s : Int) ≤ 60000) = true := decide_eq_true (by omega)
        have tn : decide (s ≤ 60000) = true := decide_eq_true hs1
        obtain ⟨b, o, hA⟩ := HE.out.base (by omega)
        subst hA
        obtain ⟨p, hp⟩ : ∃ p, L[i]? = some p := ⟨_, List.getElem?_eq_getElem hlt⟩
        obtain ⟨c0, c1, c2, c3⟩ := (HE.out.below HX.out HHI.out).get hp
        have HP := Lib.hid hp
        have HLP := Lib.hid (HLN.out p (List.mem_of_getElem? hp))
        have n1 : (0 : Int) ≤ (i : Int) := by omega
        have n2 : (i : Int) < (L.length : Int) := by omega
        obtain ⟨x, hx⟩ : ∃ x, x = min p.1.key.length 60001 := ⟨_, rfl⟩
        obtain ⟨y, hy⟩ : ∃ y, y = min p.1.val.length 60001 := ⟨_, rfl⟩
        have HMX : Hid ((min (p.1.key.length : Int) 60001) = (x : Int)) := by unfold Hid; omega
        have HMY : Hid ((min (p.1.val.length : Int) 60001) = (y : Int)) := by unfold Hid; omega
        have HXY := Lib.hid (And.intro hx hy)
        have HS1 := Lib.hid hs1
        clear hp c1 c2 hx hy
        go_upto_region 5 with (fail)
        refine flow (by kernel_rfl) [Is (.int .i64 (s : Int)), Is (.int .i64 ((s : Int) + 1)), Is (.slice (some ⟨b, o, none⟩) L.length c), Is (.int .i64 (i : Int)), Is (.pointer (some ⟨b, o + i * 4, none⟩)), Is (.pointer (some ⟨b, o + i * 4, none⟩)), Is (.slice p.2.kA p.1.key.length p.2.kc), Is (.int .i64 (p.1.key.length : Int)), Is (.int .i64 (60000 : Int)), Is (.int .i64 (60001 : Int)), Is (.int .i64 (x : Int)), Is (.int .i64 ((s : Int) + 1 + (x : Int))), Is (.slice (some ⟨b, o, none⟩) L.length c), Is (.int .i64 (i : Int)), Is (.pointer (some ⟨b, o + i * 4, none⟩)), Is (.pointer (some ⟨b, o + i * 4 + 3, none⟩)), Is (.slice p.2.vA p.1.val.length p.2.vc), Is (.int .i64 (p.1.val.length : Int)), Is (.int .i64 (60000 : Int)), Is (.int .i64 (60001 : Int)), Is (.int .i64 (y : Int)), Is (.int .i64 ((s : Int) + 1 + (x : Int) + (y : Int))), Is (.int .i64 ((s : Int) + 1 + (x : Int) + (y : Int)))] (by kernel_rfl) (by kernel_rfl) ?mono (fun f1 => ?obl) ?fin
        case mono =>
          simp only [List.forall_mem_cons, List.not_mem_nil, false_imp_iff, implies_true, and_true]
          exact ⟨.is _, .is _, .is _, .is _, .is _, .is _, .is _, .is _, .is _, .is _, .is _, .is _, .is _, .is _, .is _, .is _, .is _, .is _, .is _, .is _, .is _, .is _, .is _⟩
        case fin =>
          intro g1 u hu hg
          simp only [puts, Act.put, List.setIfInBounds_toArray, List.set_cons_zero, List.set_cons_succ]
          have h22 : g1 22 = .int .i64 ((s : Int) + 1 + (x : Int) + (y : Int)) := hg 22 (by decide)
          rw [h22]
          have HXU : Hid (Ext w u) := Ext.trans HX.out (Ext.trans (Ext.drew wr) hu)
          have hL := HL.out
          clear h22 hg hu c0 c3
          go_wp2_with fail
          go_roundw
          case rel =>
            have hxy := HXY.out
            have hs1 := HS1.out
            refine ⟨s + 1 + x + y, i + 1, by simp, by go_num, by omega, by omega, Lib.hid fun hle => ?_, HXU⟩
            obtain ⟨h1, h2⟩ := HR.out hs1
            refine ⟨by omega, fun q hq => ?_⟩
            rw [List.take_succ_eq_append_getElem hlt, List.mem_append, List.mem_singleton] at hq
            rcases hq with hq | hq
            · have := h2 q hq; omega
            · have hpe : q = p := by rw [hq]; exact (List.getElem?_eq_some_iff.1 HP.out).2
              subst hpe
              omega
          case measure => simp [intOf]; omega
        case obl =>
          refine ⟨fun u hu hd => ?_, ?_⟩
          · go_simp
            exact ⟨Ext.refl _, rfl⟩
          refine ⟨fun u hu hd => ?_, ?_⟩
          · simp only [Act.put, List.setIfInBounds_toArray, List.set_cons_zero, List.set_cons_succ]
            have e0 : f1 0 = .int .i64 (s : Int) := hd 0 (by kernel_rfl)
            have q : IntKind.i64.wrap ((s : Int) + 1) = (s : Int) + 1 := by rw [IntKind.wrap_i64]; omega
            go_simp
            exact ⟨Ext.refl _, rfl⟩
          refine ⟨fun u hu hd => ?_, ?_⟩
          · simp only [Act.put, List.setIfInBounds_toArray, List.set_cons_zero, List.set_cons_succ]
            go_simp
            exact ⟨Ext.refl _, rfl⟩
          refine ⟨fun u hu hd => ?_, ?_⟩
          · simp only [Act.put, List.setIfInBounds_toArray, List.set_cons_zero, List.set_cons_succ]
            go_simp
            exact ⟨Ext.refl _, rfl⟩
          refine ⟨fun u hu hd => ?_, ?_⟩
          · simp only [Act.put, List.setIfInBounds_toArray, List.set_cons_zero, List.set_cons_succ]
            have e2 : f1 2 = .slice (some ⟨b, o, none⟩) L.length c := hd 2 (by kernel_rfl)
            have e3 : f1 3 = .int .i64 (i : Int) := hd 3 (by kernel_rfl)
            go_simp
            exact ⟨Ext.refl _, rfl⟩
          refine ⟨fun u hu hd => ?_, ?_⟩
          · simp only [Act.put, List.setIfInBounds_toArray, List.set_cons_zero, List.set_cons_succ]
            have e4 : f1 4 = .pointer (some ⟨b, o + i * 4, none⟩) := hd 4 (by kernel_rfl)
            go_simp
            exact ⟨Ext.refl _, rfl⟩
          refine ⟨fun u hu hd => ?_, ?_⟩
          · simp only [Act.put, List.setIfInBounds_toArray, List.set_cons_zero, List.set_cons_succ]
            have e5 : f1 5 = .pointer (some ⟨b, o + i * 4, none⟩) := hd 5 (by kernel_rfl)
            have hu2 := Ext.trans (Ext.drew wr) hu
            have q0 := ext_cell hu2 c0
            go_simp
            exact ⟨Ext.refl _, rfl⟩
          refine ⟨fun u hu hd => ?_, ?_⟩
          · simp only [Act.put, List.setIfInBounds_toArray, List.set_cons_zero, List.set_cons_succ]
            have e6 : f1 6 = .slice p.2.kA p.1.key.length p.2.kc := hd 6 (by kernel_rfl)
            go_simp
            exact ⟨Ext.refl _, rfl⟩
          refine ⟨fun u hu hd => ?_, ?_⟩
          · simp only [Act.put, List.setIfInBounds_toArray, List.set_cons_zero, List.set_cons_succ]
            go_simp
            exact ⟨Ext.refl _, rfl⟩
          refine ⟨fun u hu hd => ?_, ?_⟩
          · simp only [Act.put, List.setIfInBounds_toArray, List.set_cons_zero, List.set_cons_succ]
            have e8 : f1 8 = .int .i64 (60000 : Int) := hd 8 (by kernel_rfl)
            go_simp
            exact ⟨Ext.refl _, rfl⟩
          refine ⟨fun u hu hd => ?_, ?_⟩
          · simp only [Act.put, List.setIfInBounds_toArray, List.set_cons_zero, List.set_cons_succ]
            have e7 : f1 7 = .int .i64 (p.1.key.length : Int) := hd 7 (by kernel_rfl)
            have e9 : f1 9 = .int .i64 (60001 : Int) := hd 9 (by kernel_rfl)
            have q := HMX.out
            go_simp
            exact ⟨Ext.refl _, rfl⟩
          refine ⟨fun u hu hd => ?_, ?_⟩
          · simp only [Act.put, List.setIfInBounds_toArray, List.set_cons_zero, List.set_cons_succ]
            have e1 : f1 1 = .int .i64 ((s : Int) + 1) := hd 1 (by kernel_rfl)
            have e10 : f1 10 = .int .i64 (x : Int) := hd 10 (by kernel_rfl)
            have q1 : x ≤ 60001 ∧ y ≤ 60001 := by have := HXY.out; omega
            have q : IntKind.i64.wrap ((s : Int) + 1 + (x : Int)) = (s : Int) + 1 + (x : Int) := by rw [IntKind.wrap_i64]; omega
            go_simp
            exact ⟨Ext.refl _, rfl⟩
          refine ⟨fun u hu hd => ?_, ?_⟩
          · simp only [Act.put, List.setIfInBounds_toArray, List.set_cons_zero, List.set_cons_succ]
            go_simp
            exact ⟨Ext.refl _, rfl⟩
          refine ⟨fun u hu hd => ?_, ?_⟩
          · simp only [Act.put, List.setIfInBounds_toArray, List.set_cons_zero, List.set_cons_succ]
            go_simp
            exact ⟨Ext.refl _, rfl⟩
          refine ⟨fun u hu hd => ?_, ?_⟩
          · simp only [Act.put, List.setIfInBounds_toArray, List.set_cons_zero, List.set_cons_succ]
            have e12 : f1 12 = .slice (some ⟨b, o, none⟩) L.length c := hd 12 (by kernel_rfl)
            have e13 : f1 13 = .int .i64 (i : Int) := hd 13 (by kernel_rfl)
            go_simp
            exact ⟨Ext.refl _, rfl⟩
          refine ⟨fun u hu hd => ?_, ?_⟩
          · simp only [Act.put, List.setIfInBounds_toArray, List.set_cons_zero, List.set_cons_succ]
            have e14 : f1 14 = .pointer (some ⟨b, o + i * 4, none⟩) := hd 14 (by kernel_rfl)
            go_simp
            exact ⟨Ext.refl _, rfl⟩
          refine ⟨fun u hu hd => ?_, ?_⟩
          · simp only [Act.put, List.setIfInBounds_toArray, List.set_cons_zero, List.set_cons_succ]
            have e15 : f1 15 = .pointer (some ⟨b, o + i * 4 + 3, none⟩) := hd 15 (by kernel_rfl)
            have hu2 := Ext.trans (Ext.drew wr) hu
            have q0 := ext_cell hu2 c3
            go_simp
            exact ⟨Ext.refl _, rfl⟩
          refine ⟨fun u hu hd => ?_, ?_⟩
          · simp only [Act.put, List.setIfInBounds_toArray, List.set_cons_zero, List.set_cons_succ]
            have e16 : f1 16 = .slice p.2.vA p.1.val.length p.2.vc := hd 16 (by kernel_rfl)
            go_simp
            exact ⟨Ext.refl _, rfl⟩
          refine ⟨fun u hu hd => ?_, ?_⟩
          · simp only [Act.put, List.setIfInBounds_toArray, List.set_cons_zero, List.set_cons_succ]
            go_simp
            exact ⟨Ext.refl _, rfl⟩
          refine ⟨fun u hu hd => ?_, ?_⟩
          · simp only [Act.put, List.setIfInBounds_toArray, List.set_cons_zero, List.set_cons_succ]
            have e18 : f1 18 = .int .i64 (60000 : Int) := hd 18 (by kernel_rfl)
            go_simp
            exact ⟨Ext.refl _, rfl⟩
          refine ⟨fun u hu hd => ?_, ?_⟩
          · simp only [Act.put, List.setIfInBounds_toArray, List.set_cons_zero, List.set_cons_succ]
            have e17 : f1 17 = .int .i64 (p.1.val.length : Int) := hd 17 (by kernel_rfl)
            have e19 : f1 19 = .int .i64 (60001 : Int) := hd 19 (by kernel_rfl)
            have q := HMY.out
            go_simp
            exact ⟨Ext.refl _, rfl⟩
          refine ⟨fun u hu hd => ?_, ?_⟩
          · simp only [Act.put, List.setIfInBounds_toArray, List.set_cons_zero, List.set_cons_succ]
            have e11 : f1 11 = .int .i64 ((s : Int) + 1 + (x : Int)) := hd 11 (by kernel_rfl)
            have e20 : f1 20 = .int .i64 (y : Int) := hd 20 (by kernel_rfl)
            have q1 : x ≤ 60001 ∧ y ≤ 60001 := by have := HXY.out; omega
            have q : IntKind.i64.wrap ((s : Int) + 1 + (x : Int) + (y : Int)) = (s : Int) + 1 + (x : Int) + (y : Int) := by rw [IntKind.wrap_i64]; omega
            go_simp
            exact ⟨Ext.refl _, rfl⟩
          refine ⟨fun u hu hd => ?_, ?_⟩
          · simp only [Act.put, List.setIfInBounds_toArray, List.set_cons_zero, List.set_cons_succ]
            have e21 : f1 21 = .int .i64 ((s : Int) + 1 + (x : Int) + (y : Int)) := hd 21 (by kernel_rfl)
            go_simp
            exact ⟨Ext.refl _, rfl⟩
          trivial
      · have t : decide ((s : Int) ≤ 60000) = false := decide_eq_false (by omega)
        have tn : decide (s ≤ 60000) = false := decide_eq_false hs1
        have t2 : decide ((60000 : Int) < (s : Int)) = true := decide_eq_true (by omega)
        have t2n : decide (60000 < s) = true := decide_eq_true (by omega)
        clear hs1 hlt hm hs
        go_wp2_with fail
        go_ret
        exact ⟨true, fun h => (by cases h), rfl, HX.out⟩
    · have d : decide ((i : Int) < (L.length : Int)) = false := decide_eq_false (by omega)
      have dn : decide (i < L.length) = false := decide_eq_false hlt
      have HI : Hid (i = L.length) := by unfold Hid; omega
      by_cases hs1 : s ≤ 60000
      · have t2 : decide ((60000 : Int) < (s : Int)) = false := decide_eq_false (by omega)
        have t2n : decide (60000 < s) = false := decide_eq_false (by omega)
        have HS1 := Lib.hid hs1
        clear hs1 hlt hm hs
        go_wp2_with fail
        go_ret
        refine ⟨false, fun _ => ?_, rfl, HX.out⟩
        obtain ⟨h1, h2⟩ := HR.out HS1.out
        have h3 := HI.out
        have h4 := HS1.out
        rw [h3, List.take_length] at h2
        exact ⟨by omega, fun p hp => by have := h2 p hp; omega⟩
      · have t2 : decide ((60000 : Int) < (s : Int)) = true := decide_eq_true (by omega)
        have t2n : decide (60000 < s) = true := decide_eq_true (by omega)
        clear hs1 hlt hm hs
        go_wp2_with fail
        go_ret
        exact ⟨true, fun h => (by cases h), rfl, HX.out⟩

end Go.Proofs.Ytgflhbpmkcggnaa

/- The law's much. -/
namespace Go.Proofs.Ytgflhbpmkcggnaa
open Go.ChangeShapes Go.WideShapes Go.ChangeAt Go.RowKit
attribute [local go_sem] Oper.semAt_some

/-- What is known of batches that are not much. -/
def LMuch (X : List Bx) (z : Bool) : Prop := z = false → X.length ≤ 100 ∧ ∀ x ∈ X, x.L.length ≤ 60000 ∧ ∀ p ∈ x.L, p.1.key.length + p.1.val.length < 60000

theorem wnat {a b t : Nat} (h : t = a + b) (hb : t < 500000000001) : wrap64 ((a : Int) + (b : Int)) = (t : Int) := by
  unfold wrap64; omega

theorem wnat2 {a b t : Nat} (h : t = a + b) (hb : t < 500000000001) : IntKind.i64.wrap ((a : Int) + (b : Int)) = (t : Int) := by
  rw [IntKind.wrap_i64]; omega

theorem mbound {s i k kn vn n t1 t2 t3 : Nat} (h1 : s ≤ 3600060000 * i + 60001 * k) (h2 : i < 101) (h3 : k < n) (h4 : n ≤ 60000) (h5 : kn + vn < 60000) (e1 : t1 = s + 1) (e2 : t2 = t1 + kn) (e3 : t3 = t2 + vn) :
    t3 ≤ 3600060000 * i + 60001 * (k + 1) ∧ t1 < 500000000001 ∧ t2 < 500000000001 ∧ t3 < 500000000001 ∧ k + 1 < 500000000001 := by omega

set_option maxRecDepth 100000 in
set_option maxHeartbeats 8000000 in
theorem lmuch_any {w : World} {lo hi : Nat} {A : Option Addr} {c : Nat} {X : List Bx} (h : Bins w lo hi A X) (hhi : hi ≤ w.heap.size) (hlen : X.length ≤ 5000000000000) (hln : ∀ x ∈ X, ∀ p ∈ x.L, p.1.key.length ≤ 140737488351232 ∧ p.1.val.length ≤ 140737488351232) :
    Calls Try.prog 9 #[.slice A X.length c] w fun x w' => ∃ z : Bool, LMuch X z ∧ x = .returned (.bool z) ∧ Ext w w' := by
  have HE := Lib.hid h
  have HHI := Lib.hid hhi
  have HL := Lib.hid hlen
  have HLN := Lib.hid hln
  clear h hhi hlen hln
  go_enter Try.func9, Try.ntmps9
  go_wp2_with fail
  go_loopw [3, 4] (fun a b wr => ∃ s i : Nat, a = .int .i64 (s : Int) ∧ b = .int .i64 (i : Int) ∧ i ≤ X.length ∧ i ≤ 101 ∧ Hid (s ≤ 3600060000 * i) ∧ Hid (∀ x ∈ X.take i, x.L.length ≤ 60000 ∧ ∀ p ∈ x.L, p.1.key.length + p.1.val.length < 60000) ∧ Hid (Ext w wr)) (fun _ b _ => 102 - (intOf b).toNat)
  case atStart => exact ⟨0, 0, rfl, rfl, by omega, by omega, (by unfold Hid; omega), by simp [Hid], Lib.hid (Ext.refl _)⟩
  case round =>
    obtain ⟨s, i, rfl, rfl, hm, hi, HS, HR, HX⟩ := hrel
    by_cases hend : i < X.length ∧ i < 101
    rotate_left
    · have HDONE : Hid (X.length ≤ 100 → i = X.length) := fun h => by omega
      obtain ⟨z1, oz1⟩ : ∃ z, z = decide ((60000 : Int) < (s : Int)) := ⟨_, rfl⟩
      obtain ⟨z2, oz2⟩ : ∃ z, z = decide ((100 : Int) < (X.length : Int)) := ⟨_, rfl⟩
      have hz1n : decide (60000 < s) = z1 := by rw [oz1]; exact decide_eq_decide.2 (by omega)
      have hz2n : decide (100 < X.length) = z2 := by rw [oz2]; exact decide_eq_decide.2 (by omega)
      have HZ2 := Lib.hid oz2
      have hz1 := oz1.symm
      have hz2 := oz2.symm
      have fin : ∀ z : Bool, (z = false → z2 = false) → LMuch X z := fun z hz h0 => by
        have h2 := HZ2.out
        rw [hz h0] at h2
        have h3 := of_decide_eq_false h2.symm
        have h4 : X.length ≤ 100 := by omega
        refine ⟨h4, ?_⟩
        have h5 := HR.out
        rwa [HDONE.out h4, List.take_of_length_le (Nat.le_refl _)] at h5
      have HFIN := Lib.hid fin
      clear fin oz1 oz2
      by_cases hx : i < X.length
      · have d : decide ((i : Int) < (X.length : Int)) = true := decide_eq_true (by omega)
        have dn : decide (i < X.length) = true := decide_eq_true hx
        have e : decide ((i : Int) < 101) = false := decide_eq_false (by omega)
        have en : decide (i < 101) = false := decide_eq_false (by omega)
        clear hend hm hi hx
        clear HR
        cases z1 <;> cases z2
        · go_wp2_with fail
          go_ret
          first | exact ⟨false, HFIN.out false (fun _ => by first | rfl | trivial | simp), rfl, HX.out⟩ | exact Or.inl ⟨HFIN.out false (fun _ => by first | rfl | trivial | simp), (by first | rfl | trivial | simp), HX.out⟩
        · go_wp2_with fail
          go_ret
          first | exact ⟨true, HFIN.out true (fun h => by cases h), rfl, HX.out⟩ | exact Or.inr ⟨HFIN.out true (fun h => by cases h), (by first | rfl | trivial | simp), HX.out⟩
        · go_wp2_with fail
          go_ret
          first | exact ⟨true, HFIN.out true (fun h => by cases h), rfl, HX.out⟩ | exact Or.inr ⟨HFIN.out true (fun h => by cases h), (by first | rfl | trivial | simp), HX.out⟩
        · go_wp2_with fail
          go_ret
          first | exact ⟨true, HFIN.out true (fun h => by cases h), rfl, HX.out⟩ | exact Or.inr ⟨HFIN.out true (fun h => by cases h), (by first | rfl | trivial | simp), HX.out⟩
      · have d : decide ((i : Int) < (X.length : Int)) = false := decide_eq_false (by omega)
        have dn : decide (i < X.length) = false := decide_eq_false hx
        clear hend hm hi hx
        clear HR
        cases z1 <;> cases z2
        · go_wp2_with fail
          go_ret
          first | exact ⟨false, HFIN.out false (fun _ => by first | rfl | trivial | simp), rfl, HX.out⟩ | exact Or.inl ⟨HFIN.out false (fun _ => by first | rfl | trivial | simp), (by first | rfl | trivial | simp), HX.out⟩
        · go_wp2_with fail
          go_ret
          first | exact ⟨true, HFIN.out true (fun h => by cases h), rfl, HX.out⟩ | exact Or.inr ⟨HFIN.out true (fun h => by cases h), (by first | rfl | trivial | simp), HX.out⟩
        · go_wp2_with fail
          go_ret
          first | exact ⟨true, HFIN.out true (fun h => by cases h), rfl, HX.out⟩ | exact Or.inr ⟨HFIN.out true (fun h => by cases h), (by first | rfl | trivial | simp), HX.out⟩
        · go_wp2_with fail
          go_ret
          first | exact ⟨true, HFIN.out true (fun h => by cases h), rfl, HX.out⟩ | exact Or.inr ⟨HFIN.out true (fun h => by cases h), (by first | rfl | trivial | simp), HX.out⟩
    obtain ⟨hx1, hx2⟩ := hend
    have d : decide ((i : Int) < (X.length : Int)) = true := decide_eq_true (by omega)
    have dn : decide (i < X.length) = true := decide_eq_true hx1
    have e : decide ((i : Int) < 101) = true := decide_eq_true (by omega)
    have en : decide (i < 101) = true := decide_eq_true hx2
    obtain ⟨b, o, hA⟩ := HE.out.base (by omega)
    subst hA
    obtain ⟨x, hx⟩ : ∃ x, X[i]? = some x := ⟨_, List.getElem?_eq_getElem hx1⟩
    obtain ⟨c0, c1⟩ := (HE.out.below HX.out HHI.out).get hx
    have HXI := Lib.hid hx
    have hbm := (HE.out.below HX.out HHI.out).each x (List.mem_of_getElem? hx)
    have HEX := Lib.hid hbm.es
    have hln4 := hbm.ln
    have HMU := Lib.hid (much60_any (c := x.c) hbm.es (Nat.le_trans HHI.out HX.out.size) hbm.ln (HLN.out x (List.mem_of_getElem? hx)))
    have n1 : (0 : Int) ≤ (i : Int) := by omega
    have n2 : (i : Int) < (X.length : Int) := by omega
    have HI := Lib.hid (And.intro hx1 hx2)
    clear hx hbm hx1 hx2 hm hi hln4
    go_wp2_with fail
    refine HMU.out.mono ?_
    rintro ex w2 ⟨z, hz, rfl, hx2⟩
    have HZ := Lib.hid hz
    have HXW : Hid (Ext w w2) := Ext.trans HX.out hx2
    clear hz hx2 c0 c1 d dn e en HMU
    cases z with
    | true =>
      go_wp2_with fail
      go_ret
      first | exact ⟨true, fun h => (by cases h), rfl, HXW.out⟩ | exact Or.inr ⟨fun h => (by cases h), (by first | rfl | trivial | simp), HXW.out⟩
    | false =>
      have HNM := Lib.hid (HZ.out rfl)
      go_wp2_with fail
      go_loopw [3, 5] (fun a b wr2 => ∃ s2 k : Nat, a = .int .i64 (s2 : Int) ∧ b = .int .i64 (k : Int) ∧ k ≤ x.L.length ∧ Hid (s2 ≤ 3600060000 * i + 60001 * k) ∧ Hid (Ext w wr2)) (fun _ b _ => x.L.length - (intOf b).toNat)
      case atStart => exact ⟨s, 0, rfl, rfl, by omega, (by have := HS.out; unfold Hid; omega), HXW⟩
      case round =>
        obtain ⟨s2, k, rfl, rfl, hkl, HS2, HX3⟩ := hrel
        obtain ⟨c0, c1⟩ := (HE.out.below HX3.out HHI.out).get HXI.out
        have n1 : (0 : Int) ≤ (i : Int) := by omega
        have n2 : (i : Int) < (X.length : Int) := by have := HI.out.1; omega
        by_cases hk : k < x.L.length
        · have dk : decide ((k : Int) < (x.L.length : Int)) = true := decide_eq_true (by omega)
          have dkn : decide (k < x.L.length) = true := decide_eq_true hk
          obtain ⟨p, hp⟩ : ∃ p, x.L[k]? = some p := ⟨_, List.getElem?_eq_getElem hk⟩
          have HE3 := Lib.hid ((HE.out.below HX3.out HHI.out).each x (List.mem_of_getElem? HXI.out)).es
          obtain ⟨bb, oo, hxA⟩ := HE3.out.base (by omega)
          rw [hxA] at c1 HE3
          obtain ⟨p0, p1, p2, p3⟩ := HE3.out.get hp
          have hpl := HNM.out.2 p (List.mem_of_getElem? hp)
          have n3 : (0 : Int) ≤ (k : Int) := by omega
          have n4 : (k : Int) < (x.L.length : Int) := by omega
          have hi101 := HI.out.2
          have hkx := HNM.out.1
          obtain ⟨kn, hkn⟩ : ∃ kn, kn = p.1.key.length := ⟨_, rfl⟩
          obtain ⟨vn, hvn⟩ : ∃ vn, vn = p.1.val.length := ⟨_, rfl⟩
          rw [← hkn] at p0 hpl
          rw [← hvn] at p3 hpl
          obtain ⟨t1, ht1⟩ : ∃ t1, t1 = s2 + 1 := ⟨_, rfl⟩
          obtain ⟨t2, ht2⟩ : ∃ t2, t2 = t1 + kn := ⟨_, rfl⟩
          obtain ⟨t3, ht3⟩ : ∃ t3, t3 = t2 + vn := ⟨_, rfl⟩
          obtain ⟨ht, b1, b2, b3, b4⟩ := mbound HS2.out hi101 hk hkx hpl ht1 ht2 ht3
          have w1 : wrap64 ((s2 : Int) + 1) = (t1 : Int) := wnat (b := 1) ht1 b1
          have w2' : wrap64 ((t1 : Int) + (kn : Int)) = (t2 : Int) := wnat ht2 b2
          have w3 : wrap64 ((t2 : Int) + (vn : Int)) = (t3 : Int) := wnat ht3 b3
          have v1 : IntKind.i64.wrap ((s2 : Int) + 1) = (t1 : Int) := wnat2 (b := 1) ht1 b1
          have v2 : IntKind.i64.wrap ((t1 : Int) + (kn : Int)) = (t2 : Int) := wnat2 ht2 b2
          have v3 : IntKind.i64.wrap ((t2 : Int) + (vn : Int)) = (t3 : Int) := wnat2 ht3 b3
          have HT := Lib.hid ht
          have HK := Lib.hid (And.intro hk hkx)
          have hw5 : wrap64 ((k : Int) + 1) = ((k + 1 : Nat) : Int) := wnat (b := 1) rfl b4
          clear hp hkn hvn ht1 ht2 ht3 ht b1 b2 b3 b4 hxA hpl hkl hk hi101 hkx p1 p2 c0
          go_wp2_with fail
          go_quiet (fail)
          clear w1 w2' w3 v1 v2 v3 p0 p3 c1
          go_wp2_with fail
          go_roundw
          case rel => exact ⟨t3, k + 1, rfl, by rw [hw5], HK.out.1, HT, Lib.hid (below_drewN HX3.out _)⟩
          case measure => rw [hw5]; have := HK.out.1; simp [intOf]; omega
        · have dk : decide ((k : Int) < (x.L.length : Int)) = false := decide_eq_false (by omega)
          have dkn : decide (k < x.L.length) = false := decide_eq_false hk
          have hw5 : wrap64 ((i : Int) + 1) = ((i + 1 : Nat) : Int) := by have := HI.out.2; unfold wrap64; omega
          have HFS : Hid (s2 ≤ 3600060000 * (i + 1)) := by have := HNM.out.1; have := HS2.out; unfold Hid; omega
          clear hk hkl
          go_wp2_with fail
          go_roundw
          case rel =>
            refine ⟨s2, i + 1, rfl, by rw [hw5], HI.out.1, HI.out.2, HFS, Lib.hid fun y hy => ?_, HX3⟩
            rw [List.take_add_one, HXI.out] at hy
            rcases List.mem_append.1 hy with hy | hy
            · exact HR.out y hy
            · simp at hy; subst hy; exact HNM.out
          case measure => rw [hw5]; have := HI.out.2; simp [intOf]; omega
end Go.Proofs.Ytgflhbpmkcggnaa

/- Entries that came in. -/
namespace Go.Proofs.Ytgflhbpmkcggnaa
open Go.ChangeShapes Go.WideShapes Go.ChangeAt Go.RowKit Go.Joins

theorem reach_is : reachBytes = 140737488351232 := by decide
section
variable {H : Type} {enc : TypeId × Value → H} {W : World}

set_option maxRecDepth 100000 in
/-- A field that is a slice of bytes. -/
theorem cell_bytes {fuel : Nat} {cs : List Value} {y : DataW H × List MemPlace} (h : DataW.trod enc Try.prog W 0 (fun _ => true) true fuel 29 cs = some y) :
    ∃ (A : Option Addr) (c : Nat) (l : List Nat), cs = [.slice A l.length c] ∧ (∀ b ∈ l, b < 256) ∧ Bs W 0 W.heap.size (.slice A l.length c) l ∧ ((∀ n ∈ y.1.weights Try.prog 29, n ≤ reachBytes) → l.length ≤ reachBytes) := by
  rcases open_ints Try.underlying29 Try.underlying5 (by kernel_rfl) h with ⟨hcs, _⟩ | ⟨x, l, c, zs, hcs, _, hl', hm', hz, hdx, hcell, hwz⟩
  · exact ⟨none, 0, [], hcs, by simp, Bs.nil _ _ _, fun _ => by simp⟩
  · obtain ⟨l', q1, q2, q3⟩ := bs_cells hl' hm' (by simpa using hz) hcell hwz
    refine ⟨some x, c, l', by rw [q1]; exact hcs, q2, by rw [q1]; exact q3, fun hw => ?_⟩
    have hb1 : Try.prog.bytesOf 5 = 1 := by kernel_rfl
    have h4 := hw (((zs.take l).length + (zs.drop l).length) * Try.prog.bytesOf 5) (by rw [hdx]; simp [DataW.weights, Try.underlying29, lits])
    rw [hb1, List.length_take, List.length_drop] at h4
    simp at hz
    omega

set_option maxRecDepth 100000 in
/-- The cells of an entry. -/
theorem cells_entry {fuel : Nat} {cs : List Value} {y : DataW H × List MemPlace} (h : DataW.trod enc Try.prog W 0 (fun _ => true) true fuel 48 cs = some y) :
    ∃ (e : Ent) (g : Hd), cs = ecells (e, g) ∧ Em W 0 W.heap.size e g ∧ ((∀ n ∈ y.1.weights Try.prog 48, n ≤ reachBytes) → e.key.length ≤ reachBytes ∧ e.val.length ≤ reachBytes) := by
  obtain ⟨y0, y1, y2, y3, n, hx, hl, h0, h1, h2, h3⟩ := trod_struct4 Try.underlying48 h
  have hC : Try.prog.cellsOf 48 = 4 := by kernel_rfl
  have hC0 : Try.prog.cellsOf 29 = 1 := by kernel_rfl
  have hC1 : Try.prog.cellsOf 2 = 1 := by kernel_rfl
  have hC2 : Try.prog.cellsOf 46 = 1 := by kernel_rfl
  rw [hC] at hl
  obtain ⟨a, b, c, d, rfl⟩ : ∃ a b c d, cs = [a, b, c, d] := by
    match cs, hl with
    | [a, b, c, d], _ => exact ⟨a, b, c, d, rfl⟩
  simp only [hC0, hC1, hC2, List.drop_zero, List.take_succ_cons, List.take_zero, List.drop_succ_cons] at h0 h1 h2 h3
  obtain ⟨A, c0, k, e0, bk, hk, wk⟩ := cell_bytes h0
  obtain ⟨s, e1, _, ws⟩ := DataW.trod_int Try.underlying2 h1
  obtain ⟨t, e2, _, wt⟩ := DataW.trod_int Try.underlying46 h2
  obtain ⟨A3, c3, v, e3, bv', hv, wv⟩ := cell_bytes h3
  injection e0 with e0
  injection e1 with e1
  injection e2 with e2
  injection e3 with e3
  subst e0 e1 e2 e3
  have hws := i64_wf ws
  have hwt := i64_wf wt
  refine ⟨⟨k, s, t, v⟩, ⟨A, c0, A3, c3⟩, rfl, ⟨hk, hv, bk, bv', hws.1, hws.2, hwt.1, hwt.2⟩, fun hw => ?_⟩
  have hwe : ∀ n ∈ DataW.weightsEach Try.prog [29, 2, 46, 29] [y0.1, y1.1, y2.1, y3.1], n ≤ reachBytes := fun n hn => hw n (by
    rw [hx]
    simp only [DataW.weights, Try.underlying48]
    exact hn)
  exact ⟨wk fun n hn => hwe n (DataW.weights_mem_each (j := 0) rfl rfl n hn), wv fun n hn => hwe n (DataW.weights_mem_each (j := 3) rfl rfl n hn)⟩

set_option maxRecDepth 100000 in
/-- An entry that came in, by value. -/
theorem open_entry {v : Value} {d : DataW H} {p : List MemPlace} {b0 : Nat} (hv : Value.okWide Try.prog W .any b0 48 v) (h : DataW.Trod enc Try.prog W 0 (fun _ => true) true 48 v d p)
    {ts : List TypeId} {ds : List (DataW H)} (hsz : (DataW.weightsEach Try.prog ts ds).all (· ≤ reachBytes) = true) {jj : Nat} (hts : ts[jj]? = some 48) (hds : ds[jj]? = some d) :
    ∃ (e : Ent) (g : Hd), v = e.at_ g ∧ Em W 0 W.heap.size e g ∧ e.key.length ≤ 140737488351232 ∧ e.val.length ≤ 140737488351232 := by
  obtain ⟨cs, rfl, hs⟩ := okWide_struct Try.underlying48 hv
  obtain ⟨fuel, hf⟩ := h
  obtain ⟨e, g, hc, hm, hw⟩ := cells_entry hf
  have hw2 := hw fun n hn => of_decide_eq_true (List.all_eq_true.1 hsz _ (DataW.weights_mem_each hts hds n hn))
  rw [reach_is] at hw2
  refine ⟨e, g, ?_, hm, hw2⟩
  have hcs : cs.toList = ecells (e, g) := by simpa [Value.cells] using hc
  unfold Ent.at_
  rw [show cs = (ecells (e, g)).toArray by rw [← hcs]]
  rfl

theorem weightsAll_at {P : Program} {e : TypeId} : ∀ {l : List (DataW H)} {d : DataW H}, d ∈ l → ∀ n ∈ d.weights P e, n ∈ DataW.weightsAll P e l
  | d' :: r, d, hd, n, hn => by
    simp only [DataW.weightsAll, List.mem_append]
    rcases List.mem_cons.1 hd with rfl | h
    · exact Or.inl hn
    · exact Or.inr (weightsAll_at h n hn)
set_option maxRecDepth 100000 in
/-- Entries that came in, in a row. -/
theorem open_entries {v : Value} {d : DataW H} {p : List MemPlace} {b0 : Nat} (hv : Value.okWide Try.prog W .any b0 22 v) (h : DataW.Trod enc Try.prog W 0 (fun _ => true) true 22 v d p)
    {ts : List TypeId} {ds : List (DataW H)} (hsz : (DataW.weightsEach Try.prog ts ds).all (· ≤ reachBytes) = true) {jj : Nat} (hts : ts[jj]? = some 22) (hds : ds[jj]? = some d) :
    ∃ (A : Option Addr) (c : Nat) (L : List (Ent × Hd)), v = .slice A L.length c ∧ L.length ≤ c ∧ c ≤ maxLen ∧ Es W 0 W.heap.size A L ∧ (∀ p ∈ L, p.1.key.length ≤ 140737488351232 ∧ p.1.val.length ≤ 140737488351232) ∧ L.length ≤ 2199023255552 := by
  obtain ⟨a0, len0, cap0, rfl⟩ := okWide_slice Try.underlying22 hv
  obtain ⟨fuel, hf⟩ := h
  have hC : Try.prog.cellsOf 48 = 4 := by kernel_rfl
  rcases Go.Deep.open_slice Try.underlying22 hf with ⟨hcs, _⟩ | ⟨a, len, cap, m, n, D, Pl, hcs, _, hl, hm, hmm, hdd, hx⟩
  · simp [Value.cells] at hcs
    obtain ⟨rfl, rfl, rfl⟩ := hcs
    exact ⟨none, 0, [], rfl, by simp, by simp [maxLen], ⟨Sl.nil _ _ _ _, by simp⟩, by simp, by simp⟩
  · simp [Value.cells] at hcs
    obtain ⟨rfl, rfl, rfl⟩ := hcs
    have hmc : m = cap0 := by rw [hmm]; simp
    have hdd1 : d = .slice ((List.range len0).map D) ((List.range (m - len0)).map fun j => D (len0 + j)) := congrArg Prod.fst hdd
    have hwt : ∀ i, i < len0 → ∀ n ∈ (D i).weights Try.prog 48, n ≤ reachBytes := fun i hi n hn => by
      refine of_decide_eq_true (List.all_eq_true.1 hsz _ (DataW.weights_mem_each hts hds n ?_))
      rw [hdd1]
      simp only [DataW.weights, Try.underlying22, List.mem_cons, List.mem_append]
      exact Or.inr (Or.inl (weightsAll_at (List.mem_map.2 ⟨i, List.mem_range.2 hi, rfl⟩) n hn))
    have hlen : len0 ≤ 2199023255552 := by
      have h3 := sized_slice hsz hts (by rw [hds, hdd1]) Try.underlying22
      have hb1 : Try.prog.bytesOf 48 = 64 := by kernel_rfl
      rw [hb1, reach_is] at h3
      simp at h3
      omega
    have each : ∀ i : Nat, ∃ t : Ent × Hd, i < len0 → (∀ j v, j < 4 → (ecells t)[j]? = some v → W.cell? ((a.add (i * 4)).add j) = some v) ∧ Em W 0 W.heap.size t.1 t.2 ∧ t.1.key.length ≤ 140737488351232 ∧ t.1.val.length ≤ 140737488351232 := by
      intro i
      by_cases hi : i < len0
      · obtain ⟨cs', hc', ht'⟩ := hx i (by omega)
        rw [hC] at hc'
        obtain ⟨_, hcl, hat⟩ := World.cells?_some hc'
        obtain ⟨e, g, hcc, hem, hw⟩ := cells_entry ht'
        have hw2 := hw (hwt i hi)
        rw [reach_is] at hw2
        exact ⟨(e, g), fun _ => ⟨fun j v hj hv => by rw [hat j hj, hcc]; exact hv, hem, hw2⟩⟩
      · exact ⟨(⟨[], 0, 0, []⟩, ⟨none, 0, none, 0⟩), fun h => absurd h hi⟩
    obtain ⟨F, hF⟩ := Classical.axiomOfChoice each
    have hat : ∀ i u, (erow ((List.range len0).map F))[i]? = some u → W.cell? (a.add i) = some u := by
      intro i u hu
      have hi : i < len0 * 4 := by
        have := (List.getElem?_eq_some_iff.1 hu).1
        rw [erow_length] at this
        simpa using this
      have hi4 : i / 4 < len0 := by omega
      have e1 : i = i / 4 * 4 + i % 4 := by omega
      rw [e1, erow_at _ (by simpa using hi4) (by omega)] at hu
      have h1 := (hF (i / 4) hi4).1 (i % 4) u (by omega) (by simpa using hu)
      have e2 : (a.add (i / 4 * 4)).add (i % 4) = a.add i := by
        obtain ⟨b, o, s⟩ := a
        have hc0 := (hF 0 (by omega)).1 0 _ (by omega) rfl
        have hs : s = none := by
          have := World.cell?_spot hc0
          simpa [Addr.add] using this
        subst hs
        rw [addr_add, addr_add, addr_add]
        congr 1; omega
      rw [← e2]; exact h1
    refine ⟨some a, cap0, (List.range len0).map F, by simp, by simpa using hl, hm, ⟨?_, ?_⟩, ?_, by simpa using hlen⟩
    · by_cases h0 : len0 = 0
      · exact .inl (by simp [h0, erow])
      · obtain ⟨b, o, spot⟩ := a
        have hc0 := (hF 0 (by omega)).1 0 _ (by omega) rfl
        have hspot : spot = none := by
          have := World.cell?_spot hc0
          simpa [Addr.add] using this
        subst hspot
        have hblt : b < W.heap.size := by
          have := World.block_lt_of_cell? W _ hc0
          rw [addr_add, addr_add] at this
          exact this
        exact .inr ⟨b, o, rfl, Nat.zero_le _, hblt, fun i u hu => by have := hat i u hu; rwa [addr_add] at this⟩
    · intro q hq
      simp only [List.mem_map, List.mem_range] at hq
      obtain ⟨i, hi, rfl⟩ := hq
      exact (hF i hi).2.1
    · intro q hq
      simp only [List.mem_map, List.mem_range] at hq
      obtain ⟨i, hi, rfl⟩ := hq
      exact (hF i hi).2.2
end
end Go.Proofs.Ytgflhbpmkcggnaa

/- Bytes that came in, with the bound that the form sets on how many they are. -/
namespace Go.Proofs.Ytgflhbpmkcggnaa
open Go.ChangeShapes Go.WideShapes Go.ChangeAt Go.RowKit Go.Joins
set_option maxRecDepth 100000 in
theorem open_bytes_sized {H : Type} {enc : TypeId × Value → H} {W : World} {v : Value} {d : DataW H} {p : List MemPlace} {b0 : Nat} (hv : Value.okWide Try.prog W .any b0 29 v) (h : DataW.Trod enc Try.prog W 0 (fun _ => true) true 29 v d p)
    {ts : List TypeId} {ds : List (DataW H)} (hsz : (DataW.weightsEach Try.prog ts ds).all (· ≤ reachBytes) = true) {jj : Nat} (hts : ts[jj]? = some 29) (hds : ds[jj]? = some d) :
    ∃ (A : Option Addr) (c : Nat) (l : List Nat), v = .slice A l.length c ∧ (∀ b ∈ l, b < 256) ∧ Bs W 0 W.heap.size (.slice A l.length c) l ∧ l.length ≤ 140737488351232 := by
  obtain ⟨a0, len0, cap0, rfl⟩ := okWide_slice Try.underlying29 hv
  obtain ⟨fuel, hf⟩ := h
  obtain ⟨A, c, l, hcs, hb, hbs, hw⟩ := cell_bytes hf
  have hw2 := hw fun n hn => of_decide_eq_true (List.all_eq_true.1 hsz _ (DataW.weights_mem_each hts hds n hn))
  rw [reach_is] at hw2
  simp only [Value.cells, List.cons.injEq, and_true] at hcs
  exact ⟨A, c, l, hcs, hb, hbs, hw2⟩
end Go.Proofs.Ytgflhbpmkcggnaa

/- Batches that came in, opened. -/
namespace Go.Proofs.Ytgflhbpmkcggnaa
open Go.ChangeShapes Go.WideShapes Go.ChangeAt Go.RowKit Go.Joins

section
variable {H : Type} {enc : TypeId × Value → H} {W : World}

set_option maxRecDepth 100000 in
/-- A field that is a row of entries. -/
theorem cells_ents {fuel : Nat} {cs : List Value} {y : DataW H × List MemPlace} (h : DataW.trod enc Try.prog W 0 (fun _ => true) true fuel 22 cs = some y)
    (hsz : ∀ n ∈ y.1.weights Try.prog 22, n ≤ reachBytes) :
    ∃ (A : Option Addr) (c : Nat) (L : List (Ent × Hd)), cs = [.slice A L.length c] ∧ L.length ≤ c ∧ c ≤ maxLen ∧ Es W 0 W.heap.size A L ∧ (∀ p ∈ L, p.1.key.length ≤ 140737488351232 ∧ p.1.val.length ≤ 140737488351232) ∧ L.length ≤ 2199023255552 ∧ (A = none → c = 0) := by
  have hC : Try.prog.cellsOf 48 = 4 := by kernel_rfl
  rcases Go.Deep.open_slice Try.underlying22 h with ⟨hcs, _⟩ | ⟨a, len0, cap0, m, n, D, Pl, hcs, _, hl, hm, hmm, hdd, hx⟩
  · exact ⟨none, 0, [], hcs, by simp, by simp [maxLen], ⟨Sl.nil _ _ _ _, by simp⟩, by simp, by simp⟩
  · have hmc : m = cap0 := by rw [hmm]; simp
    have hdd1 : y.1 = .slice ((List.range len0).map D) ((List.range (m - len0)).map fun j => D (len0 + j)) := congrArg Prod.fst hdd
    have hwt : ∀ i, i < len0 → ∀ n ∈ (D i).weights Try.prog 48, n ≤ reachBytes := fun i hi n hn => by
      refine hsz n ?_
      rw [hdd1]
      simp only [DataW.weights, Try.underlying22, List.mem_cons, List.mem_append]
      exact Or.inr (Or.inl (weightsAll_at (List.mem_map.2 ⟨i, List.mem_range.2 hi, rfl⟩) n hn))
    have hlen : len0 ≤ 2199023255552 := by
      have hb1 : Try.prog.bytesOf 48 = 64 := by kernel_rfl
      have h3 := hsz ((len0 + (m - len0)) * Try.prog.bytesOf 48) (by
        rw [hdd1]
        simp [DataW.weights, Try.underlying22])
      rw [reach_is, hb1] at h3
      omega
    have each : ∀ i : Nat, ∃ t : Ent × Hd, i < len0 → (∀ j v, j < 4 → (ecells t)[j]? = some v → W.cell? ((a.add (i * 4)).add j) = some v) ∧ Em W 0 W.heap.size t.1 t.2 ∧ t.1.key.length ≤ 140737488351232 ∧ t.1.val.length ≤ 140737488351232 := by
      intro i
      by_cases hi : i < len0
      · obtain ⟨cs', hc', ht'⟩ := hx i (by omega)
        rw [hC] at hc'
        obtain ⟨_, hcl, hat⟩ := World.cells?_some hc'
        obtain ⟨e, g, hcc, hem, hw⟩ := cells_entry ht'
        have hw2 := hw (hwt i hi)
        rw [reach_is] at hw2
        exact ⟨(e, g), fun _ => ⟨fun j v hj hv => by rw [hat j hj, hcc]; exact hv, hem, hw2⟩⟩
      · exact ⟨(⟨[], 0, 0, []⟩, ⟨none, 0, none, 0⟩), fun h => absurd h hi⟩
    obtain ⟨F, hF⟩ := Classical.axiomOfChoice each
    have hat : ∀ i u, (erow ((List.range len0).map F))[i]? = some u → W.cell? (a.add i) = some u := by
      intro i u hu
      have hi : i < len0 * 4 := by
        have := (List.getElem?_eq_some_iff.1 hu).1
        rw [erow_length] at this
        simpa using this
      have hi4 : i / 4 < len0 := by omega
      have e1 : i = i / 4 * 4 + i % 4 := by omega
      rw [e1, erow_at _ (by simpa using hi4) (by omega)] at hu
      have h1 := (hF (i / 4) hi4).1 (i % 4) u (by omega) (by simpa using hu)
      have e2 : (a.add (i / 4 * 4)).add (i % 4) = a.add i := by
        obtain ⟨b, o, s⟩ := a
        have hc0 := (hF 0 (by omega)).1 0 _ (by omega) rfl
        have hs : s = none := by
          have := World.cell?_spot hc0
          simpa [Addr.add] using this
        subst hs
        rw [addr_add, addr_add, addr_add]
        congr 1; omega
      rw [← e2]; exact h1
    refine ⟨some a, cap0, (List.range len0).map F, by rw [hcs]; simp, by simpa using hl, hm, ⟨?_, ?_⟩, ?_, by simpa using hlen⟩
    · by_cases h0 : len0 = 0
      · exact .inl (by simp [h0, erow])
      · obtain ⟨b, o, spot⟩ := a
        have hc0 := (hF 0 (by omega)).1 0 _ (by omega) rfl
        have hspot : spot = none := by
          have := World.cell?_spot hc0
          simpa [Addr.add] using this
        subst hspot
        have hblt : b < W.heap.size := by
          have := World.block_lt_of_cell? W _ hc0
          rw [addr_add, addr_add] at this
          exact this
        exact .inr ⟨b, o, rfl, Nat.zero_le _, hblt, fun i u hu => by have := hat i u hu; rwa [addr_add] at this⟩
    · intro q hq
      simp only [List.mem_map, List.mem_range] at hq
      obtain ⟨i, hi, rfl⟩ := hq
      exact (hF i hi).2.1
    · intro q hq
      simp only [List.mem_map, List.mem_range] at hq
      obtain ⟨i, hi, rfl⟩ := hq
      exact (hF i hi).2.2

/-- Keys and values of a batch's entries are in reach. -/
def BxKv (x : Bx) : Prop := ∀ p ∈ x.L, p.1.key.length ≤ 140737488351232 ∧ p.1.val.length ≤ 140737488351232
set_option maxRecDepth 100000 in
/-- The cells of a batch. -/
theorem cells_batch {fuel : Nat} {cs : List Value} {y : DataW H × List MemPlace} (h : DataW.trod enc Try.prog W 0 (fun _ => true) true fuel 24 cs = some y)
    (hsz : ∀ n ∈ y.1.weights Try.prog 24, n ≤ reachBytes) : ∃ x : Bx, cs = bcells x ∧ Bi W 0 W.heap.size x ∧ BxKv x := by
  obtain ⟨xs, n, _, hx, hl, hlen, hfl⟩ := DataW.trod_struct Try.underlying24 h
  obtain ⟨y0, y1, rfl⟩ : ∃ y0 y1, xs = [y0, y1] := by
    match xs, hlen with
    | [y0, y1], _ => exact ⟨y0, y1, rfl⟩
  have h0 : DataW.trod enc Try.prog W 0 (fun _ => true) true n 2 ((cs.drop 0).take (Try.prog.cellsOf 2)) = some y0 := hfl 0 _ rfl
  have h1 : DataW.trod enc Try.prog W 0 (fun _ => true) true n 22 ((cs.drop 1).take (Try.prog.cellsOf 22)) = some y1 := hfl 1 _ rfl
  have hC : Try.prog.cellsOf 24 = 2 := by kernel_rfl
  have hC0 : Try.prog.cellsOf 2 = 1 := by kernel_rfl
  have hC1 : Try.prog.cellsOf 22 = 1 := by kernel_rfl
  rw [hC] at hl
  obtain ⟨c0_, c1_, rfl⟩ : ∃ c0_ c1_, cs = [c0_, c1_] := by
    match cs, hl with
    | [c0_, c1_], _ => exact ⟨c0_, c1_, rfl⟩
  simp only [hC0, hC1, List.drop_zero, List.take_succ_cons, List.take_zero, List.drop_succ_cons] at h0 h1
  have hwe : ∀ n ∈ DataW.weightsEach Try.prog [2, 22] [y0.1, y1.1], n ≤ reachBytes := fun n hn => hsz n (by
    rw [show y.1 = _ from congrArg Prod.fst hx]
    simp only [DataW.weights, Try.underlying24]
    exact hn)
  obtain ⟨s0, e0, _, ws0⟩ := DataW.trod_int Try.underlying2 h0
  injection e0 with e0
  obtain ⟨A4, k4, l4, e4, x4, xx4, m4, z4, n4, nn4⟩ := cells_ents h1 fun n hn => hwe n (DataW.weights_mem_each (j := 1) rfl rfl n hn)
  injection e4 with e4
  subst e0 e4
  have hws := i64_wf ws0
  exact ⟨⟨s0, A4, k4, l4⟩, rfl, ⟨m4, hws.1, hws.2, by show l4.length ≤ _; omega⟩, z4⟩

set_option maxRecDepth 100000 in
/-- A batch that came in, by value. -/
theorem open_batch {v : Value} {d : DataW H} {p : List MemPlace} {b0 : Nat} (hv : Value.okWide Try.prog W .any b0 24 v) (h : DataW.Trod enc Try.prog W 0 (fun _ => true) true 24 v d p)
    {ts : List TypeId} {ds : List (DataW H)} (hsz : (DataW.weightsEach Try.prog ts ds).all (· ≤ reachBytes) = true) {jj : Nat} (hts : ts[jj]? = some 24) (hds : ds[jj]? = some d) :
    ∃ x : Bx, v = x.val ∧ Bi W 0 W.heap.size x ∧ BxKv x := by
  obtain ⟨cs, rfl, hs⟩ := okWide_struct Try.underlying24 hv
  obtain ⟨fuel, hf⟩ := h
  obtain ⟨x, hc, hm, hk⟩ := cells_batch hf fun n hn => of_decide_eq_true (List.all_eq_true.1 hsz _ (DataW.weights_mem_each hts hds n hn))
  refine ⟨x, ?_, hm, hk⟩
  have hcs : cs.toList = bcells x := by simpa [Value.cells] using hc
  unfold Bx.val
  rw [show cs = (bcells x).toArray by rw [← hcs]]
  rfl
set_option maxRecDepth 100000 in
/-- Batches that came in, in a row. -/
theorem open_batches {v : Value} {d : DataW H} {p : List MemPlace} {b0 : Nat} (hv : Value.okWide Try.prog W .any b0 26 v) (h : DataW.Trod enc Try.prog W 0 (fun _ => true) true 26 v d p)
    {ts : List TypeId} {ds : List (DataW H)} (hsz : (DataW.weightsEach Try.prog ts ds).all (· ≤ reachBytes) = true) {jj : Nat} (hts : ts[jj]? = some 26) (hds : ds[jj]? = some d) :
    ∃ (A : Option Addr) (c : Nat) (L : List Bx), v = .slice A L.length c ∧ L.length ≤ c ∧ c ≤ maxLen ∧ Bins W 0 W.heap.size A L ∧ (∀ x ∈ L, BxKv x) ∧ L.length ≤ 4398046511104 := by
  obtain ⟨a0, len0, cap0, rfl⟩ := okWide_slice Try.underlying26 hv
  obtain ⟨fuel, hf⟩ := h
  have hC : Try.prog.cellsOf 24 = 2 := by kernel_rfl
  rcases Go.Deep.open_slice Try.underlying26 hf with ⟨hcs, _⟩ | ⟨a, len, cap, m, n, D, Pl, hcs, _, hl, hm, hmm, hdd, hx⟩
  · simp [Value.cells] at hcs
    obtain ⟨rfl, rfl, rfl⟩ := hcs
    exact ⟨none, 0, [], rfl, by simp, by simp [maxLen], ⟨Sl.nil _ _ _ _, by simp⟩, by simp, by simp⟩
  · simp [Value.cells] at hcs
    obtain ⟨rfl, rfl, rfl⟩ := hcs
    have hmc : m = cap0 := by rw [hmm]; simp
    have hdd1 : d = .slice ((List.range len0).map D) ((List.range (m - len0)).map fun j => D (len0 + j)) := congrArg Prod.fst hdd
    have hwt : ∀ i, i < len0 → ∀ n ∈ (D i).weights Try.prog 24, n ≤ reachBytes := fun i hi n hn => by
      refine of_decide_eq_true (List.all_eq_true.1 hsz _ (DataW.weights_mem_each hts hds n ?_))
      rw [hdd1]
      simp only [DataW.weights, Try.underlying26, List.mem_cons, List.mem_append]
      exact Or.inr (Or.inl (weightsAll_at (List.mem_map.2 ⟨i, List.mem_range.2 hi, rfl⟩) n hn))
    have hlen : len0 ≤ 4398046511104 := by
      have h3 := sized_slice hsz hts (by rw [hds, hdd1]) Try.underlying26
      have hb1 : Try.prog.bytesOf 24 = 32 := by kernel_rfl
      rw [hb1, reach_is] at h3
      simp at h3
      omega
    have each : ∀ i : Nat, ∃ t : Bx, i < len0 → (∀ j v, j < 2 → (bcells t)[j]? = some v → W.cell? ((a.add (i * 2)).add j) = some v) ∧ Bi W 0 W.heap.size t ∧ BxKv t := by
      intro i
      by_cases hi : i < len0
      · obtain ⟨cs', hc', ht'⟩ := hx i (by omega)
        rw [hC] at hc'
        obtain ⟨_, hcl, hat⟩ := World.cells?_some hc'
        obtain ⟨e, hcc, hem, hw2⟩ := cells_batch ht' (hwt i hi)
        exact ⟨e, fun _ => ⟨fun j v hj hv => by rw [hat j hj, hcc]; exact hv, hem, hw2⟩⟩
      · exact ⟨⟨0, none, 0, []⟩, fun h => absurd h hi⟩
    obtain ⟨F, hF⟩ := Classical.axiomOfChoice each
    have hat : ∀ i u, (brow ((List.range len0).map F))[i]? = some u → W.cell? (a.add i) = some u := by
      intro i u hu
      have hi : i < len0 * 2 := by
        have := (List.getElem?_eq_some_iff.1 hu).1
        rw [brow_length] at this
        simpa using this
      have hi4 : i / 2 < len0 := by omega
      have e1 : i = i / 2 * 2 + i % 2 := by omega
      rw [e1, brow_at _ (by simpa using hi4) (by omega)] at hu
      have h1 := (hF (i / 2) hi4).1 (i % 2) u (by omega) (by simpa using hu)
      have e2 : (a.add (i / 2 * 2)).add (i % 2) = a.add i := by
        obtain ⟨b, o, s⟩ := a
        have hc0 := (hF 0 (by omega)).1 0 _ (by omega) rfl
        have hs : s = none := by
          have := World.cell?_spot hc0
          simpa [Addr.add] using this
        subst hs
        rw [addr_add, addr_add, addr_add]
        congr 1; omega
      rw [← e2]; exact h1
    refine ⟨some a, cap0, (List.range len0).map F, by simp, by simpa using hl, hm, ⟨?_, ?_⟩, ?_, by simpa using hlen⟩
    · by_cases h0 : len0 = 0
      · exact .inl (by simp [h0, brow])
      · obtain ⟨b, o, spot⟩ := a
        have hc0 := (hF 0 (by omega)).1 0 _ (by omega) rfl
        have hspot : spot = none := by
          have := World.cell?_spot hc0
          simpa [Addr.add] using this
        subst hspot
        have hblt : b < W.heap.size := by
          have := World.block_lt_of_cell? W _ hc0
          rw [addr_add, addr_add] at this
          exact this
        exact .inr ⟨b, o, rfl, Nat.zero_le _, hblt, fun i u hu => by have := hat i u hu; rwa [addr_add] at this⟩
    · intro q hq
      simp only [List.mem_map, List.mem_range] at hq
      obtain ⟨i, hi, rfl⟩ := hq
      exact (hF i hi).2.1
    · intro q hq
      simp only [List.mem_map, List.mem_range] at hq
      obtain ⟨i, hi, rfl⟩ := hq
      exact (hF i hi).2.2
end
end Go.Proofs.Ytgflhbpmkcggnaa

/- WalSame: two batches are the same just if places and entries are. -/
namespace Go.Proofs.Ytgflhbpmkcggnaa
open Go.ChangeShapes Go.WideShapes Go.ChangeAt Go.RowKit
attribute [local go_sem] Oper.semAt_some

theorem Bins.two {w : World} {hi g : Nat} {x y : Bx} (h : w.heap[g]? = some (.cells #[.int .i64 x.idx, .slice x.A x.L.length x.c, .int .i64 y.idx, .slice y.A y.L.length y.c] 24 (0, 0))) (hx : Bi w 0 hi x) (hy : Bi w 0 hi y) (hhi : hi ≤ w.heap.size) : Bins w 0 w.heap.size (some ⟨g, 0, none⟩) [x, y] := by
  have wide : ∀ {z : Bx}, Bi w 0 hi z → Bi w 0 w.heap.size z := fun h => ⟨h.es.wide (Nat.le_refl _) hhi, h.i1, h.i2, h.ln⟩
  refine ⟨.inr ⟨g, 0, rfl, Nat.zero_le _, (Array.getElem?_eq_some_iff.1 h).1, fun i u hu => ?_⟩, fun z hz => ?_⟩
  · rw [Nat.zero_add]
    exact cell_of h (by simpa [brow, bcells] using hu)
  · simp only [List.mem_cons, List.not_mem_nil, or_false] at hz
    rcases hz with rfl | rfl
    · exact wide hx
    · exact wide hy

set_option maxRecDepth 100000 in
set_option maxHeartbeats 8000000 in
theorem wsame_walk (w : World) (x : Bx) (hx : Bi w 0 w.heap.size x) (kx : BxKv x) (y : Bx) (hy : Bi w 0 w.heap.size y) (ky : BxKv y) :
    Calls Try.prog 6 #[x.val, y.val] w fun e w' => e = .returned (.bool true) ∧ Below w.heap.size w w' := by
  obtain ⟨xi, xA, xc, xL⟩ := x
  obtain ⟨yi, yA, yc, yL⟩ := y
  have HX := Lib.hid hx
  have HY := Lib.hid hy
  have HK := Lib.hid (And.intro kx ky)
  clear hx hy kx ky
  obtain ⟨w0, hw0⟩ : ∃ w0, w0 = (w.alloc (.cells #[.int .i64 xi, .slice xA xL.length xc] 24)).alloc (.cells #[.int .i64 yi, .slice yA yL.length yc] 24) := ⟨_, rfl⟩
  have HX0 : Hid (Ext w w0) := by rw [hw0]; exact Ext.trans (ext_alloc _ _) (ext_alloc _ _)
  have HB0 : Hid (w0.heap[w.heap.size]? = some (.cells #[.int .i64 xi, .slice xA xL.length xc] 24 (0, 0))) := by rw [hw0]; exact ext_heap (ext_alloc _ _) (heap_at _ _ rfl)
  have HB1 : Hid (w0.heap[w.heap.size + 1]? = some (.cells #[.int .i64 yi, .slice yA yL.length yc] 24 (0, 0))) := by rw [hw0]; exact heap_at _ _ (by simp)
  obtain ⟨w1, hw1⟩ : ∃ w1, w1 = w0.alloc (.cells #[.int .i64 xi, .slice xA xL.length xc, .int .i64 yi, .slice yA yL.length yc] 24) := ⟨_, rfl⟩
  have HX1 : Hid (Ext w0 w1) := by rw [hw1]; exact ext_alloc _ _
  have HC1 : Hid (w1.heap[w0.heap.size]? = some (.cells #[.int .i64 xi, .slice xA xL.length xc, .int .i64 yi, .slice yA yL.length yc] 24 (0, 0))) := by rw [hw1]; exact heap_at _ _ rfl
  have HX01 : Hid (Ext w w1) := Ext.trans HX0.out HX1.out
  have hin : Bins w1 0 w1.heap.size (some ⟨w0.heap.size, 0, none⟩) [⟨xi, xA, xc, xL⟩, ⟨yi, yA, yc, yL⟩] :=
    Bins.two (x := ⟨xi, xA, xc, xL⟩) (y := ⟨yi, yA, yc, yL⟩) HC1.out (HX.out.below HX01.out (Nat.le_refl _)) (HY.out.below HX01.out (Nat.le_refl _)) HX01.out.size
  have HMU := Lib.hid (lmuch_any (c := 2) hin (Nat.le_refl _) (by simp) (by
    intro z hz
    simp only [List.mem_cons, List.not_mem_nil, or_false] at hz
    rcases hz with rfl | rfl
    · exact HK.out.1
    · exact HK.out.2))
  clear hin
  unfold Bx.val
  dsimp only
  have k0 := cell_of HB0.out (k := 0) rfl
  have k1 := cell_of HB0.out (k := 1) rfl
  have m0 := cell_of HB1.out (k := 0) rfl
  have m1 := cell_of HB1.out (k := 1) rfl
  go_enter Try.func6, Try.ntmps6
  go_upto_region 1 with (fail)
  rw [← hw0]
  clear hw0
  go_wp2_with fail
  rw [← hw1]
  clear hw1
  refine HMU.out.mono ?_
  rintro e w2 ⟨z, hz, rfl, hx2⟩
  have HZ := Lib.hid hz
  have HX2 : Hid (Ext w w2) := Ext.trans HX01.out hx2
  have HB02 := Lib.hid (ext_heap (Ext.trans HX1.out hx2) HB0.out)
  have HB12 := Lib.hid (ext_heap (Ext.trans HX1.out hx2) HB1.out)
  clear hz hx2 k0 k1 m0 m1 HMU
  cases z with
  | true =>
    go_wp2_with fail
    refine (wknown_any w2).mono ?_
    rintro e w3 ⟨rfl, hb⟩
    have HX3 : Hid (Ext w w3) := Ext.trans HX2.out hb
    clear hb
    go_wp2_with fail
    go_ret
    exact ⟨rfl, HX3.out⟩
  | false =>
    have hnm := HZ.out rfl
    have HBX : Hid (∀ u, Ext w2 u → Bm u 0 u.heap.size ⟨xi, xA, xc, xL⟩ ∧ Bm u 0 u.heap.size ⟨yi, yA, yc, yL⟩) := fun u hu => by
      have hx := Ext.trans HX2.out hu
      exact ⟨((HX.out.bm (hnm.2 _ (by simp)).1).ext hx (Nat.le_refl _)).wide (Nat.le_refl _) hx.size, ((HY.out.bm (hnm.2 _ (by simp)).1).ext hx (Nat.le_refl _)).wide (Nat.le_refl _) hx.size⟩
    obtain ⟨z, hz⟩ : ∃ z : Bool, z = true ↔ (⟨xi, xA, xc, xL⟩ : Bx).bat = (⟨yi, yA, yc, yL⟩ : Bx).bat := by
      by_cases h : (⟨xi, xA, xc, xL⟩ : Bx).bat = (⟨yi, yA, yc, yL⟩ : Bx).bat
      · exact ⟨true, by simp [h]⟩
      · exact ⟨false, by simp [h]⟩
    have HZ2 := Lib.hid hz
    have k0 := cell_of HB02.out (k := 0) rfl
    have k1 := cell_of HB02.out (k := 1) rfl
    have m0 := cell_of HB12.out (k := 0) rfl
    have m1 := cell_of HB12.out (k := 1) rfl
    clear hnm hz
    go_upto_region 3 with (fail)
    refine flow (by kernel_rfl) [Is (.agg #[.int .i64 xi, .slice xA xL.length xc]), Is (.agg #[.int .i64 yi, .slice yA yL.length yc]), Is (.bool z), Is (.agg #[.int .i64 xi, .slice xA xL.length xc]), LitB ⟨xi, xA, xc, xL⟩, Is (.agg #[.int .i64 yi, .slice yA yL.length yc]), LitB ⟨yi, yA, yc, yL⟩, Is (.bool z), Is (.bool true), Is (.bool true), Is (.agg #[.int .i64 xi, .slice xA xL.length xc]), Is (.agg #[.int .i64 xi, .slice xA xL.length xc]), Is (.bool true), Is (.bool true), Is (.bool true), Is (.bool true), Is (.bool true), Is (.bool true)] (by kernel_rfl) (by kernel_rfl) ?mono (fun f1 => ?obl) ?fin
    case mono =>
      simp only [List.forall_mem_cons, List.not_mem_nil, false_imp_iff, implies_true, and_true]
      exact ⟨.is _, .is _, .is _, .is _, .litB _, .is _, .litB _, .is _, .is _, .is _, .is _, .is _, .is _, .is _, .is _, .is _, .is _, .is _⟩
    case fin =>
      intro g1 u hu hg
      simp only [puts, Act.put, List.setIfInBounds_toArray, List.set_cons_zero, List.set_cons_succ]
      have h17 : g1 17 = .bool true := hg 17 (by decide)
      rw [h17]
      have HXU : Hid (Ext w u) := Ext.trans HX2.out (Ext.trans (Ext.drew w2) hu)
      clear h17 hg hu k0 k1 m0 m1
      go_wp2_with fail
      go_ret
      exact ⟨rfl, HXU.out⟩
    case obl =>
      refine ⟨fun u hu hd => ?_, ?_⟩
      · have hu2 := Ext.trans (Ext.drew w2) hu
        have q0 := ext_cell hu2 k0
        have q1 := ext_cell hu2 k1
        go_simp
        exact ⟨Ext.refl _, rfl⟩
      refine ⟨fun u hu hd => ?_, ?_⟩
      · simp only [Act.put, List.setIfInBounds_toArray, List.set_cons_zero, List.set_cons_succ]
        have hu2 := Ext.trans (Ext.drew w2) hu
        have q0 := ext_cell hu2 m0
        have q1 := ext_cell hu2 m1
        go_simp
        exact ⟨Ext.refl _, rfl⟩
      refine ⟨fun u hu hd => ?_, ?_⟩
      · simp only [Act.put, List.setIfInBounds_toArray, List.set_cons_zero, List.set_cons_succ]
        have e0 : f1 0 = .agg #[.int .i64 xi, .slice xA xL.length xc] := hd 0 (by kernel_rfl)
        have e1 : f1 1 = .agg #[.int .i64 yi, .slice yA yL.length yc] := hd 1 (by kernel_rfl)
        have hu2 := Ext.trans (Ext.drew w2) hu
        have hb := HBX.out u hu2
        have hm := wsame_any hb.1 hb.2 (Nat.le_refl _) (Nat.le_refl _)
        unfold Bx.val at hm
        have HM := Lib.hid hm
        clear hm hb
        go_simp
        refine HM.out.mono ?_
        rintro e9 w9 ⟨z9, hz9, rfl, hx9⟩
        obtain rfl : z9 = z := Bool.eq_iff_iff.2 (hz9.trans HZ2.out.symm)
        exact ⟨_, rfl, hx9, rfl⟩
      refine ⟨fun u hu hd => ?_, ?_⟩
      · simp only [Act.put, List.setIfInBounds_toArray, List.set_cons_zero, List.set_cons_succ]
        have hu2 := Ext.trans (Ext.drew w2) hu
        have q0 := ext_cell hu2 k0
        have q1 := ext_cell hu2 k1
        go_simp
        exact ⟨Ext.refl _, rfl⟩
      refine ⟨fun u hu hd => ?_, ?_⟩
      · simp only [Act.put, List.setIfInBounds_toArray, List.set_cons_zero, List.set_cons_succ]
        have e3 : f1 3 = .agg #[.int .i64 xi, .slice xA xL.length xc] := hd 3 (by kernel_rfl)
        clear hd
        go_simp
        exact ⟨ext_alloc _ _, _, rfl, heap_at _ _ rfl⟩
      refine ⟨fun u hu hd => ?_, ?_⟩
      · simp only [Act.put, List.setIfInBounds_toArray, List.set_cons_zero, List.set_cons_succ]
        have hu2 := Ext.trans (Ext.drew w2) hu
        have q0 := ext_cell hu2 m0
        have q1 := ext_cell hu2 m1
        go_simp
        exact ⟨Ext.refl _, rfl⟩
      refine ⟨fun u hu hd => ?_, ?_⟩
      · simp only [Act.put, List.setIfInBounds_toArray, List.set_cons_zero, List.set_cons_succ]
        have e5 : f1 5 = .agg #[.int .i64 yi, .slice yA yL.length yc] := hd 5 (by kernel_rfl)
        clear hd
        go_simp
        exact ⟨ext_alloc _ _, _, rfl, heap_at _ _ rfl⟩
      refine ⟨fun u hu hd => ?_, ?_⟩
      · simp only [Act.put, List.setIfInBounds_toArray, List.set_cons_zero, List.set_cons_succ]
        obtain ⟨g, e4, hg⟩ := (show LitB ⟨xi, xA, xc, xL⟩ (f1 4) u from hd 4 (by kernel_rfl))
        obtain ⟨g2, e6, hg2⟩ := (show LitB ⟨yi, yA, yc, yL⟩ (f1 6) u from hd 6 (by kernel_rfl))
        have hu2 := Ext.trans (Ext.drew w2) hu
        have hb := HBX.out u hu2
        have HM := Lib.hid (same13_any (c := 1) (c2 := 1) (Bts.one (x := ⟨xi, xA, xc, xL⟩) (cell_of hg (k := 0) rfl) (cell_of hg (k := 1) rfl) hb.1 (Nat.le_refl _)) (Bts.one (x := ⟨yi, yA, yc, yL⟩) (cell_of hg2 (k := 0) rfl) (cell_of hg2 (k := 1) rfl) hb.2 (Nat.le_refl _)) (Nat.le_refl _) (Nat.le_refl _) (by simp))
        clear hd hg hg2 hb
        go_simp
        refine HM.out.mono ?_
        rintro e9 w9 ⟨z9, hz9, rfl, hx9⟩
        obtain rfl : z9 = z := Bool.eq_iff_iff.2 ((hz9.trans (by simp)).trans HZ2.out.symm)
        exact ⟨_, rfl, hx9, rfl⟩
      refine ⟨fun u hu hd => ?_, ?_⟩
      · simp only [Act.put, List.setIfInBounds_toArray, List.set_cons_zero, List.set_cons_succ]
        have e2 : f1 2 = .bool z := hd 2 (by kernel_rfl)
        have e7 : f1 7 = .bool z := hd 7 (by kernel_rfl)
        clear hd
        go_simp
        exact ⟨Ext.refl _, by simp [Is, fact, kept]⟩
      refine ⟨fun u hu hd => ?_, ?_⟩
      · simp only [Act.put, List.setIfInBounds_toArray, List.set_cons_zero, List.set_cons_succ]
        have e8 : f1 8 = .bool true := hd 8 (by kernel_rfl)
        go_simp
        exact ⟨Ext.refl _, rfl⟩
      refine ⟨fun u hu hd => ?_, ?_⟩
      · simp only [Act.put, List.setIfInBounds_toArray, List.set_cons_zero, List.set_cons_succ]
        have e9 : f1 9 = .bool true := hd 9 (by kernel_rfl)
        have hu2 := Ext.trans (Ext.drew w2) hu
        have q0 := ext_cell hu2 k0
        have q1 := ext_cell hu2 k1
        go_simp
        exact ⟨Ext.refl _, rfl⟩
      refine ⟨fun u hu hd => ?_, ?_⟩
      · simp only [Act.put, List.setIfInBounds_toArray, List.set_cons_zero, List.set_cons_succ]
        have e9 : f1 9 = .bool true := hd 9 (by kernel_rfl)
        have hu2 := Ext.trans (Ext.drew w2) hu
        have q0 := ext_cell hu2 k0
        have q1 := ext_cell hu2 k1
        go_simp
        exact ⟨Ext.refl _, rfl⟩
      refine ⟨fun u hu hd => ?_, ?_⟩
      · simp only [Act.put, List.setIfInBounds_toArray, List.set_cons_zero, List.set_cons_succ]
        have e9 : f1 9 = .bool true := hd 9 (by kernel_rfl)
        have e10 : f1 10 = .agg #[.int .i64 xi, .slice xA xL.length xc] := hd 10 (by kernel_rfl)
        have e11 : f1 11 = .agg #[.int .i64 xi, .slice xA xL.length xc] := hd 11 (by kernel_rfl)
        have hu2 := Ext.trans (Ext.drew w2) hu
        have hb := HBX.out u hu2
        have hm := wsame_any hb.1 hb.1 (Nat.le_refl _) (Nat.le_refl _)
        unfold Bx.val at hm
        have HM := Lib.hid hm
        clear hm hb
        go_simp
        refine HM.out.mono ?_
        rintro e9 w9 ⟨z9, hz9, rfl, hx9⟩
        obtain rfl : z9 = true := hz9.2 rfl
        exact ⟨_, rfl, hx9, rfl⟩
      refine ⟨fun u hu hd => ?_, ?_⟩
      · simp only [Act.put, List.setIfInBounds_toArray, List.set_cons_zero, List.set_cons_succ]
        have e9 : f1 9 = .bool true := hd 9 (by kernel_rfl)
        have e12 : f1 12 = .bool true := hd 12 (by kernel_rfl)
        go_simp
        exact ⟨Ext.refl _, rfl⟩
      refine ⟨fun u hu hd => ?_, ?_⟩
      · simp only [Act.put, List.setIfInBounds_toArray, List.set_cons_zero, List.set_cons_succ]
        have e13 : f1 13 = .bool true := hd 13 (by kernel_rfl)
        go_simp
        exact ⟨Ext.refl _, rfl⟩
      refine ⟨fun u hu hd => ?_, ?_⟩
      · simp only [Act.put, List.setIfInBounds_toArray, List.set_cons_zero, List.set_cons_succ]
        have e14 : f1 14 = .bool true := hd 14 (by kernel_rfl)
        clear hd
        go_simp
        refine (wknown_any u).mono ?_
        rintro e9 w9 ⟨rfl, hx9⟩
        exact ⟨_, rfl, hx9, rfl⟩
      refine ⟨fun u hu hd => ?_, ?_⟩
      · simp only [Act.put, List.setIfInBounds_toArray, List.set_cons_zero, List.set_cons_succ]
        have e14 : f1 14 = .bool true := hd 14 (by kernel_rfl)
        have e15 : f1 15 = .bool true := hd 15 (by kernel_rfl)
        go_simp
        exact ⟨Ext.refl _, rfl⟩
      refine ⟨fun u hu hd => ?_, ?_⟩
      · simp only [Act.put, List.setIfInBounds_toArray, List.set_cons_zero, List.set_cons_succ]
        have e16 : f1 16 = .bool true := hd 16 (by kernel_rfl)
        go_simp
        exact ⟨Ext.refl _, rfl⟩
      trivial
end Go.Proofs.Ytgflhbpmkcggnaa

/- The law's much, with the sum of it all. -/
namespace Go.Proofs.Ytgflhbpmkcggnaa
open Go.ChangeShapes Go.WideShapes Go.ChangeAt Go.RowKit
attribute [local go_sem] Oper.semAt_some

/-- Entries' bytes, and one each. -/
def sumE (L : List (Ent × Hd)) : Nat := (L.map fun p => 1 + p.1.key.length + p.1.val.length).sum
/-- And of batches. -/
def sumX (X : List Bx) : Nat := (X.map fun x => sumE x.L).sum
theorem sumE_snoc (L : List (Ent × Hd)) (p : Ent × Hd) : sumE (L ++ [p]) = sumE L + 1 + p.1.key.length + p.1.val.length := by simp [sumE]; omega
theorem sumX_snoc (X : List Bx) (x : Bx) : sumX (X ++ [x]) = sumX X + sumE x.L := by simp [sumX]
theorem msum {a b s t1 t2 t3 kn vn : Nat} (h : s = a + b) (h1 : t1 = s + 1) (h2 : t2 = t1 + kn) (h3 : t3 = t2 + vn) : t3 = a + (b + 1 + kn + vn) := by omega
/-- What is known of batches that are not much: their sum too. -/
def SMuch (X : List Bx) (z : Bool) : Prop := z = false → X.length ≤ 100 ∧ sumX X ≤ 60000

set_option maxRecDepth 100000 in
set_option maxHeartbeats 8000000 in
theorem smuch_any {w : World} {lo hi : Nat} {A : Option Addr} {c : Nat} {X : List Bx} (h : Bins w lo hi A X) (hhi : hi ≤ w.heap.size) (hlen : X.length ≤ 5000000000000) (hln : ∀ x ∈ X, ∀ p ∈ x.L, p.1.key.length ≤ 140737488351232 ∧ p.1.val.length ≤ 140737488351232) :
    Calls Try.prog 9 #[.slice A X.length c] w fun x w' => ∃ z : Bool, SMuch X z ∧ x = .returned (.bool z) ∧ Ext w w' := by
  have HE := Lib.hid h
  have HHI := Lib.hid hhi
  have HL := Lib.hid hlen
  have HLN := Lib.hid hln
  clear h hhi hlen hln
  go_enter Try.func9, Try.ntmps9
  go_wp2_with fail
  go_loopw [3, 4] (fun a b wr => ∃ s i : Nat, a = .int .i64 (s : Int) ∧ b = .int .i64 (i : Int) ∧ i ≤ X.length ∧ i ≤ 101 ∧ Hid (s ≤ 3600060000 * i) ∧ Hid (s = sumX (X.take i)) ∧ Hid (Ext w wr)) (fun _ b _ => 102 - (intOf b).toNat)
  case atStart => exact ⟨0, 0, rfl, rfl, by omega, by omega, (by unfold Hid; omega), by simp [Hid, sumX], Lib.hid (Ext.refl _)⟩
  case round =>
    obtain ⟨s, i, rfl, rfl, hm, hi, HS, HR, HX⟩ := hrel
    by_cases hend : i < X.length ∧ i < 101
    rotate_left
    · have HDONE : Hid (X.length ≤ 100 → i = X.length) := fun h => by omega
      obtain ⟨z1, oz1⟩ : ∃ z, z = decide ((60000 : Int) < (s : Int)) := ⟨_, rfl⟩
      obtain ⟨z2, oz2⟩ : ∃ z, z = decide ((100 : Int) < (X.length : Int)) := ⟨_, rfl⟩
      have hz1n : decide (60000 < s) = z1 := by rw [oz1]; exact decide_eq_decide.2 (by omega)
      have hz2n : decide (100 < X.length) = z2 := by rw [oz2]; exact decide_eq_decide.2 (by omega)
      have HZ2 := Lib.hid oz2
      have HZ1 := Lib.hid oz1
      have hz1 := oz1.symm
      have hz2 := oz2.symm
      have fin : ∀ z : Bool, (z = false → z2 = false ∧ z1 = false) → SMuch X z := fun z hz h0 => by
        have h2 := HZ2.out
        have h1 := HZ1.out
        rw [(hz h0).1] at h2
        rw [(hz h0).2] at h1
        have h7 := of_decide_eq_false h1.symm
        have h3 := of_decide_eq_false h2.symm
        have h4 : X.length ≤ 100 := by omega
        refine ⟨h4, ?_⟩
        have h5 := HR.out
        rw [HDONE.out h4, List.take_of_length_le (Nat.le_refl _)] at h5
        omega
      have HFIN := Lib.hid fin
      clear fin oz1 oz2
      by_cases hx : i < X.length
      · have d : decide ((i : Int) < (X.length : Int)) = true := decide_eq_true (by omega)
        have dn : decide (i < X.length) = true := decide_eq_true hx
        have e : decide ((i : Int) < 101) = false := decide_eq_false (by omega)
        have en : decide (i < 101) = false := decide_eq_false (by omega)
        clear hend hm hi hx
        clear HR
        cases z1 <;> cases z2
        · go_wp2_with fail
          go_ret
          first | exact ⟨false, HFIN.out false (fun _ => ⟨by first | rfl | trivial, by first | rfl | trivial⟩), rfl, HX.out⟩ | exact Or.inl ⟨HFIN.out false (fun _ => ⟨by first | rfl | trivial, by first | rfl | trivial⟩), (by first | rfl | trivial | simp), HX.out⟩
        · go_wp2_with fail
          go_ret
          first | exact ⟨true, HFIN.out true (fun h => by cases h), rfl, HX.out⟩ | exact Or.inr ⟨HFIN.out true (fun h => by cases h), (by first | rfl | trivial | simp), HX.out⟩
        · go_wp2_with fail
          go_ret
          first | exact ⟨true, HFIN.out true (fun h => by cases h), rfl, HX.out⟩ | exact Or.inr ⟨HFIN.out true (fun h => by cases h), (by first | rfl | trivial | simp), HX.out⟩
        · go_wp2_with fail
          go_ret
          first | exact ⟨true, HFIN.out true (fun h => by cases h), rfl, HX.out⟩ | exact Or.inr ⟨HFIN.out true (fun h => by cases h), (by first | rfl | trivial | simp), HX.out⟩
      · have d : decide ((i : Int) < (X.length : Int)) = false := decide_eq_false (by omega)
        have dn : decide (i < X.length) = false := decide_eq_false hx
        clear hend hm hi hx
        clear HR
        cases z1 <;> cases z2
        · go_wp2_with fail
          go_ret
          first | exact ⟨false, HFIN.out false (fun _ => ⟨by first | rfl | trivial, by first | rfl | trivial⟩), rfl, HX.out⟩ | exact Or.inl ⟨HFIN.out false (fun _ => ⟨by first | rfl | trivial, by first | rfl | trivial⟩), (by first | rfl | trivial | simp), HX.out⟩
        · go_wp2_with fail
          go_ret
          first | exact ⟨true, HFIN.out true (fun h => by cases h), rfl, HX.out⟩ | exact Or.inr ⟨HFIN.out true (fun h => by cases h), (by first | rfl | trivial | simp), HX.out⟩
        · go_wp2_with fail
          go_ret
          first | exact ⟨true, HFIN.out true (fun h => by cases h), rfl, HX.out⟩ | exact Or.inr ⟨HFIN.out true (fun h => by cases h), (by first | rfl | trivial | simp), HX.out⟩
        · go_wp2_with fail
          go_ret
          first | exact ⟨true, HFIN.out true (fun h => by cases h), rfl, HX.out⟩ | exact Or.inr ⟨HFIN.out true (fun h => by cases h), (by first | rfl | trivial | simp), HX.out⟩
    obtain ⟨hx1, hx2⟩ := hend
    have d : decide ((i : Int) < (X.length : Int)) = true := decide_eq_true (by omega)
    have dn : decide (i < X.length) = true := decide_eq_true hx1
    have e : decide ((i : Int) < 101) = true := decide_eq_true (by omega)
    have en : decide (i < 101) = true := decide_eq_true hx2
    obtain ⟨b, o, hA⟩ := HE.out.base (by omega)
    subst hA
    obtain ⟨x, hx⟩ : ∃ x, X[i]? = some x := ⟨_, List.getElem?_eq_getElem hx1⟩
    obtain ⟨c0, c1⟩ := (HE.out.below HX.out HHI.out).get hx
    have HXI := Lib.hid hx
    have hbm := (HE.out.below HX.out HHI.out).each x (List.mem_of_getElem? hx)
    have HEX := Lib.hid hbm.es
    have hln4 := hbm.ln
    have HMU := Lib.hid (much60_any (c := x.c) hbm.es (Nat.le_trans HHI.out HX.out.size) hbm.ln (HLN.out x (List.mem_of_getElem? hx)))
    have n1 : (0 : Int) ≤ (i : Int) := by omega
    have n2 : (i : Int) < (X.length : Int) := by omega
    have HI := Lib.hid (And.intro hx1 hx2)
    clear hx hbm hx1 hx2 hm hi hln4
    go_wp2_with fail
    refine HMU.out.mono ?_
    rintro ex w2 ⟨z, hz, rfl, hx2⟩
    have HZ := Lib.hid hz
    have HXW : Hid (Ext w w2) := Ext.trans HX.out hx2
    clear hz hx2 c0 c1 d dn e en HMU
    cases z with
    | true =>
      go_wp2_with fail
      go_ret
      first | exact ⟨true, fun h => (by cases h), rfl, HXW.out⟩ | exact Or.inr ⟨fun h => (by cases h), (by first | rfl | trivial | simp), HXW.out⟩
    | false =>
      have HNM := Lib.hid (HZ.out rfl)
      go_wp2_with fail
      go_loopw [3, 5] (fun a b wr2 => ∃ s2 k : Nat, a = .int .i64 (s2 : Int) ∧ b = .int .i64 (k : Int) ∧ k ≤ x.L.length ∧ Hid (s2 ≤ 3600060000 * i + 60001 * k ∧ s2 = sumX (X.take i) + sumE (x.L.take k)) ∧ Hid (Ext w wr2)) (fun _ b _ => x.L.length - (intOf b).toNat)
      case atStart => exact ⟨s, 0, rfl, rfl, by omega, (by have := HS.out; have h2 := HR.out; unfold Hid; exact ⟨by omega, by rw [h2]; simp [sumE]⟩), HXW⟩
      case round =>
        obtain ⟨s2, k, rfl, rfl, hkl, HS2, HX3⟩ := hrel
        obtain ⟨c0, c1⟩ := (HE.out.below HX3.out HHI.out).get HXI.out
        have n1 : (0 : Int) ≤ (i : Int) := by omega
        have n2 : (i : Int) < (X.length : Int) := by have := HI.out.1; omega
        by_cases hk : k < x.L.length
        · have dk : decide ((k : Int) < (x.L.length : Int)) = true := decide_eq_true (by omega)
          have dkn : decide (k < x.L.length) = true := decide_eq_true hk
          obtain ⟨p, hp⟩ : ∃ p, x.L[k]? = some p := ⟨_, List.getElem?_eq_getElem hk⟩
          have HE3 := Lib.hid ((HE.out.below HX3.out HHI.out).each x (List.mem_of_getElem? HXI.out)).es
          obtain ⟨bb, oo, hxA⟩ := HE3.out.base (by omega)
          rw [hxA] at c1 HE3
          obtain ⟨p0, p1, p2, p3⟩ := HE3.out.get hp
          have hpl := HNM.out.2 p (List.mem_of_getElem? hp)
          have n3 : (0 : Int) ≤ (k : Int) := by omega
          have n4 : (k : Int) < (x.L.length : Int) := by omega
          have hi101 := HI.out.2
          have hkx := HNM.out.1
          obtain ⟨kn, hkn⟩ : ∃ kn, kn = p.1.key.length := ⟨_, rfl⟩
          obtain ⟨vn, hvn⟩ : ∃ vn, vn = p.1.val.length := ⟨_, rfl⟩
          rw [← hkn] at p0 hpl
          rw [← hvn] at p3 hpl
          obtain ⟨t1, ht1⟩ : ∃ t1, t1 = s2 + 1 := ⟨_, rfl⟩
          obtain ⟨t2, ht2⟩ : ∃ t2, t2 = t1 + kn := ⟨_, rfl⟩
          obtain ⟨t3, ht3⟩ : ∃ t3, t3 = t2 + vn := ⟨_, rfl⟩
          obtain ⟨ht, b1, b2, b3, b4⟩ := mbound HS2.out.1 hi101 hk hkx hpl ht1 ht2 ht3
          have w1 : wrap64 ((s2 : Int) + 1) = (t1 : Int) := wnat (b := 1) ht1 b1
          have w2' : wrap64 ((t1 : Int) + (kn : Int)) = (t2 : Int) := wnat ht2 b2
          have w3 : wrap64 ((t2 : Int) + (vn : Int)) = (t3 : Int) := wnat ht3 b3
          have v1 : IntKind.i64.wrap ((s2 : Int) + 1) = (t1 : Int) := wnat2 (b := 1) ht1 b1
          have v2 : IntKind.i64.wrap ((t1 : Int) + (kn : Int)) = (t2 : Int) := wnat2 ht2 b2
          have v3 : IntKind.i64.wrap ((t2 : Int) + (vn : Int)) = (t3 : Int) := wnat2 ht3 b3
          have hsum : t3 = sumX (X.take i) + sumE (x.L.take (k + 1)) := by
            rw [List.take_add_one, hp, Option.toList_some, sumE_snoc, ← hkn, ← hvn]
            exact msum HS2.out.2 ht1 ht2 ht3
          have HT := Lib.hid (And.intro ht hsum)
          clear hsum
          have HK := Lib.hid (And.intro hk hkx)
          have hw5 : wrap64 ((k : Int) + 1) = ((k + 1 : Nat) : Int) := wnat (b := 1) rfl b4
          clear hp hkn hvn ht1 ht2 ht3 ht b1 b2 b3 b4 hxA hpl hkl hk hi101 hkx p1 p2 c0
          go_wp2_with fail
          go_quiet (fail)
          clear w1 w2' w3 v1 v2 v3 p0 p3 c1
          go_wp2_with fail
          go_roundw
          case rel => exact ⟨t3, k + 1, rfl, by rw [hw5], HK.out.1, HT, Lib.hid (below_drewN HX3.out _)⟩
          case measure => rw [hw5]; have := HK.out.1; simp [intOf]; omega
        · have dk : decide ((k : Int) < (x.L.length : Int)) = false := decide_eq_false (by omega)
          have dkn : decide (k < x.L.length) = false := decide_eq_false hk
          have hw5 : wrap64 ((i : Int) + 1) = ((i + 1 : Nat) : Int) := by have := HI.out.2; unfold wrap64; omega
          have HFS : Hid (s2 ≤ 3600060000 * (i + 1)) := by have := HNM.out.1; have := HS2.out.1; unfold Hid; omega
          have HSS : Hid (s2 = sumX (X.take (i + 1))) := by
            have h1 := HS2.out.2
            rw [List.take_of_length_le (l := x.L) (i := k) (by omega)] at h1
            unfold Hid
            rw [List.take_add_one, HXI.out, Option.toList_some, sumX_snoc]
            exact h1
          clear hk hkl
          go_wp2_with fail
          go_roundw
          case rel =>
            exact ⟨s2, i + 1, rfl, by rw [hw5], HI.out.1, HI.out.2, HFS, HSS, HX3⟩
          case measure => rw [hw5]; have := HI.out.2; simp [intOf]; omega
end Go.Proofs.Ytgflhbpmkcggnaa

/- The reference's Payload. -/
namespace Go.Proofs.Ytgflhbpmkcggnaa
open Go.ChangeShapes Go.WideShapes Go.ChangeAt Go.RowKit
attribute [local go_sem] Oper.semAt_some

set_option maxRecDepth 100000 in
set_option maxHeartbeats 4000000 in
theorem pay13_any {w : World} {lo hi : Nat} {x : Bx} (h : Bm w lo hi x) (hhi : hi ≤ w.heap.size) (hmay : x.bat.may) :
    Calls Try.prog 18 #[x.val] w fun e w' => ∃ A c, e = .returned (.slice A x.bat.form.length c) ∧ Own w.heap.size x.bat.form (.slice A x.bat.form.length c) w' ∧ Ext w w' := by
  have HFL := Lib.hid (Bat.form_len hmay)
  have HLL := Lib.hid (lform_len hmay.2.2.2 hmay.2.2.1)
  have HEs := Lib.hid h
  have HHI := Lib.hid hhi
  obtain ⟨n, A, c, L⟩ := x
  have hn1 : 1 ≤ n := hmay.1
  have hn2 : n ≤ 2147483647 := hmay.2.1
  obtain ⟨m, rfl⟩ : ∃ m : Nat, n = (m : Int) := ⟨n.toNat, by omega⟩
  obtain ⟨F, hF⟩ : ∃ F, F = (Bx.bat ⟨(m : Int), A, c, L⟩).form := ⟨_, rfl⟩
  have HF : Hid (F = Go.Proofs.Ytgflhbpmkcggnaa.form m ++ bytesForm (lform (L.map Prod.fst))) := by
    rw [hF]
    unfold Bat.form Bx.bat
    simp [Hid]
  rw [← hF] at HFL ⊢
  obtain ⟨w0, hw0⟩ : ∃ w0, w0 = w.alloc (.cells #[.int .i64 (m : Int), .slice A L.length c] 24) := ⟨_, rfl⟩
  have HX0 : Hid (Ext w w0) := by rw [hw0]; exact ext_alloc _ _
  have HB0 : Hid (w0.heap[w.heap.size]? = some (.cells #[.int .i64 (m : Int), .slice A L.length c] 24 (0, 0))) := by rw [hw0]; exact heap_at _ _ rfl
  have HMB : Hid ((∀ e ∈ L.map Prod.fst, e.may = true) ∧ L.length ≤ 65536) := ⟨hmay.2.2.2, by have := hmay.2.2.1; simpa [Bx.bat] using this⟩
  have HU : Hid (U64 m) := ⟨by omega⟩
  have q1 : IntKind.u64.wrap (m : Int) = (m : Int) := by rw [IntKind.wrap_u64]; omega
  clear h hhi hmay hn1 hn2 hF
  unfold Bx.val
  dsimp only
  go_enter Try.func18, Try.ntmps18
  go_upto_region 1 with (fail)
  rw [← hw0]
  clear hw0
  refine flow_tail (by kernel_rfl) [Is (.pointer (some ⟨w.heap.size, 0, none⟩)), Is (.int .i64 (m : Int)), Is (.int .u64 (m : Int)), Own w0.heap.size (Go.Proofs.Ytgflhbpmkcggnaa.form m), Is (.pointer (some ⟨w.heap.size, 1, none⟩)), Is (.slice A L.length c), Own w0.heap.size (lform (L.map Prod.fst)), Own w0.heap.size (bytesForm (lform (L.map Prod.fst)))] 8 (by kernel_rfl) (by kernel_rfl) (by kernel_rfl) (by kernel_rfl) ?mono (fun f1 => ?obl) ?fin
  case mono =>
    simp only [List.forall_mem_cons, List.not_mem_nil, false_imp_iff, implies_true, and_true]
    exact ⟨.is _, .is _, .is _, .own _ _, .is _, .is _, .own _ _, .own _ _⟩
  case fin =>
    intro g1 u hu hg
    simp only [List.take_succ_cons, List.take_zero, List.drop_succ_cons, List.drop_zero, puts, Act.put, List.setIfInBounds_toArray, List.set_cons_zero, List.set_cons_succ]
    have h3 : Own w0.heap.size (Go.Proofs.Ytgflhbpmkcggnaa.form m) (g1 3) u := hg 3 (by decide)
    have h7 : Own w0.heap.size (bytesForm (lform (L.map Prod.fst))) (g1 7) u := hg 7 (by decide)
    have HU1 := Lib.hid (Ext.trans (Ext.drew w0) hu)
    have H3 := Lib.hid h3
    have H7 := Lib.hid h7
    obtain ⟨v3, e3⟩ : ∃ v, v = g1 3 := ⟨_, rfl⟩
    obtain ⟨v7, e7⟩ : ∃ v, v = g1 7 := ⟨_, rfl⟩
    rw [← e3] at h3 H3 ⊢
    rw [← e7] at h7 H7 ⊢
    obtain ⟨A3, c3, rfl⟩ := h3.slice
    obtain ⟨A7, c7, rfl⟩ := h7.slice
    clear h3 h7 e3 e7 hg hu
    have HLF : Hid ((Go.Proofs.Ytgflhbpmkcggnaa.form m).length + (bytesForm (lform (L.map Prod.fst))).length = F.length) := by rw [HF.out, List.length_append]; exact Lib.hid rfl
    refine wpList_addbytes rfl (.tmp 6) (.tmp 10) rfl w0.heap.size _ _ rfl H3.out _ _ _ _ rfl H7.out.bs (by have := HLF.out; have := HFL.out; omega) HU1.out.size ?_
    intro A8 c8 w3 ho hb
    rw [← HF.out] at ho ⊢
    have HO3 := Lib.hid (ho.base HX0.out.size)
    have HX3 : Hid (Ext w w3) := Ext.trans HX0.out (hb w0 HU1.out)
    clear ho hb
    go_wp2_with fail
    go_ret
    exact ⟨_, _, rfl, HO3.out, HX3.out⟩
  case obl =>
    refine ⟨fun u hu hd => ?_, ?_⟩
    · go_simp
      exact ⟨Ext.refl _, rfl⟩
    refine ⟨fun u hu hd => ?_, ?_⟩
    · simp only [Act.put, List.setIfInBounds_toArray, List.set_cons_zero, List.set_cons_succ]
      have e0 : f1 0 = .pointer (some ⟨w.heap.size, 0, none⟩) := hd 0 (by kernel_rfl)
      have hu2 := Ext.trans (Ext.drew w0) hu
      have q0 := ext_cell hu2 (cell_of HB0.out (k := 0) rfl)
      go_simp
      exact ⟨Ext.refl _, rfl⟩
    refine ⟨fun u hu hd => ?_, ?_⟩
    · simp only [Act.put, List.setIfInBounds_toArray, List.set_cons_zero, List.set_cons_succ]
      have e1 : f1 1 = .int .i64 (m : Int) := hd 1 (by kernel_rfl)
      go_simp
      exact ⟨Ext.refl _, rfl⟩
    refine ⟨fun u hu hd => ?_, ?_⟩
    · simp only [Act.put, List.setIfInBounds_toArray, List.set_cons_zero, List.set_cons_succ]
      have e2 : f1 2 = .int .u64 (m : Int) := hd 2 (by kernel_rfl)
      have hu2 := Ext.trans (Ext.drew w0) hu
      go_simp
      refine (rnumber_any m HU.out u).mono ?_
      rintro x w9 ⟨v, rfl, hown, hb9⟩
      exact ⟨v, rfl, hb9, ownsRow_base hown hu2.size⟩
    refine ⟨fun u hu hd => ?_, ?_⟩
    · simp only [Act.put, List.setIfInBounds_toArray, List.set_cons_zero, List.set_cons_succ]
      go_simp
      exact ⟨Ext.refl _, rfl⟩
    refine ⟨fun u hu hd => ?_, ?_⟩
    · simp only [Act.put, List.setIfInBounds_toArray, List.set_cons_zero, List.set_cons_succ]
      have e4 : f1 4 = .pointer (some ⟨w.heap.size, 1, none⟩) := hd 4 (by kernel_rfl)
      have hu2 := Ext.trans (Ext.drew w0) hu
      have q0 := ext_cell hu2 (cell_of HB0.out (k := 1) rfl)
      go_simp
      exact ⟨Ext.refl _, rfl⟩
    refine ⟨fun u hu hd => ?_, ?_⟩
    · simp only [Act.put, List.setIfInBounds_toArray, List.set_cons_zero, List.set_cons_succ]
      have e5 : f1 5 = .slice A L.length c := hd 5 (by kernel_rfl)
      have hu2 := Ext.trans (Ext.drew w0) hu
      go_simp
      refine (rlist_any (c := c) (HEs.out.ext (Ext.trans HX0.out hu2) HHI.out).es (Nat.le_trans HHI.out (Ext.trans HX0.out hu2).size) (show L.length ≤ 10000000 by have := HMB.out.2; omega) HMB.out.1).mono ?_
      rintro x w9 ⟨v, rfl, hown, hb9⟩
      exact ⟨v, rfl, hb9, ownsRow_base hown hu2.size⟩
    refine ⟨fun u hu hd => ?_, ?_⟩
    · simp only [Act.put, List.setIfInBounds_toArray, List.set_cons_zero, List.set_cons_succ]
      have e6 : Own w0.heap.size (lform (L.map Prod.fst)) (f1 6) u := hd 6 (by kernel_rfl)
      have hu2 := Ext.trans (Ext.drew w0) hu
      go_simp
      refine (rbytes_any _ 0 u.heap.size _ u e6.bs (Nat.le_refl _) (by have := HLL.out; exact Nat.le_trans this (by decide))).mono ?_
      rintro x w9 ⟨v, rfl, hown, hb9⟩
      exact ⟨v, rfl, hb9, ownsRow_base hown hu2.size⟩
    trivial
end Go.Proofs.Ytgflhbpmkcggnaa
