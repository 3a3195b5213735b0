/- Lists of entries: may all, do they rise, are they much, are they the same. -/
import Derived.Test.YtfalpagimmaipaaIrise
import Derived.Test.YtfalpagimmaipaaIref
import Derived.Test.YtfalpagimmaipaaIover
import Derived.Deep.DeepCutAuto
namespace Go.Proofs.Ytfalpagimmaipaa
open Go.ChangeShapes Go.WideShapes Go.ChangeAt Go.RowKit

theorem all_next {α : Type} {f : α → Bool} {L : List α} {i : Nat} {p : α} (h : (L.take i).all f = true) (hp : L[i]? = some p) (hf : f p = true) : (L.take (i + 1)).all f = true := by
  rw [List.take_succ_eq_append_getElem (List.getElem?_eq_some_iff.1 hp).1, List.all_append, h]
  simp [(List.getElem?_eq_some_iff.1 hp).2, hf]
theorem all_not {α : Type} {f : α → Bool} {L : List α} {i : Nat} {p : α} (hp : L[i]? = some p) (hf : f p = false) : L.all f = false := by
  rw [Bool.eq_false_iff]
  intro h
  rw [List.all_eq_true] at h
  rw [h p (List.mem_of_getElem? hp)] at hf
  cases hf

set_option maxRecDepth 100000 in
set_option maxHeartbeats 4000000 in
theorem allmay_any {w : World} {lo hi : Nat} {A : Option Addr} {c : Nat} {L : List (Ent × Hd)} (h : Es w lo hi A L) (hhi : hi ≤ w.heap.size) (hlen : L.length ≤ 1000000000000) :
    Calls Try.prog 59 #[.slice A L.length c] w fun x w' => x = .returned (.bool (L.all fun p => p.1.may)) ∧ Ext w w' := by
  have HE := Lib.hid h
  have HHI := Lib.hid hhi
  have HL := Lib.hid hlen
  clear h hhi hlen
  go_enter Try.func59, Try.ntmps59
  go_wp2_with fail
  go_loopw [7] (fun a wr => ∃ i : Nat, a = .int .i64 (i : Int) ∧ i ≤ L.length ∧ Hid ((L.take i).all (fun p => p.1.may) = true) ∧ Hid (Ext w wr)) (fun a _ => L.length - (intOf a).toNat)
  case atStart => exact ⟨0, rfl, by omega, by simp [Hid], Lib.hid (Ext.refl _)⟩
  case round =>
    obtain ⟨i, rfl, hm, HR, HX⟩ := hrel
    by_cases hlt : i < L.length
    · have d : decide ((i : Int) < (L.length : Int)) = true := decide_eq_true (by omega)
      have dn : decide (i < L.length) = true := decide_eq_true hlt
      obtain ⟨b, o, hA⟩ := HE.out.base (by omega)
      subst hA
      obtain ⟨p, hp⟩ : ∃ p, L[i]? = some p := ⟨_, List.getElem?_eq_getElem hlt⟩
      obtain ⟨c0, c1, c2, c3⟩ := (HE.out.below HX.out HHI.out).get hp
      have HP := Lib.hid hp
      have n1 : (0 : Int) ≤ (i : Int) := by omega
      have n2 : (i : Int) < (L.length : Int) := by omega
      have hw2 : wrap64 ((i : Int) + 1) = ((i + 1 : Nat) : Int) := by have := HL.out; unfold wrap64; omega
      clear hp
      go_upto_region 4 with (fail)
      obtain ⟨w4, hw4⟩ : ∃ w4, w4 = wr.alloc (.cells #[.slice p.2.kA p.1.key.length p.2.kc, .int .i64 p.1.seq, .int .i64 p.1.kind, .slice p.2.vA p.1.val.length p.2.vc] 25) := ⟨_, rfl⟩
      rw [← hw4]
      have HX4 : Hid (Ext wr w4) := by rw [hw4]; exact ext_alloc _ _
      have HB4 : Hid (w4.heap[wr.heap.size]? = some (.cells #[.slice p.2.kA p.1.key.length p.2.kc, .int .i64 p.1.seq, .int .i64 p.1.kind, .slice p.2.vA p.1.val.length p.2.vc] 25 (0, 0))) := by rw [hw4]; exact heap_at _ _ rfl
      clear hw4 c0 c1 c2 c3
      have c0 := cell_of HB4.out (k := 0) rfl
      have c1 := cell_of HB4.out (k := 1) rfl
      have c2 := cell_of HB4.out (k := 2) rfl
      have c3 := cell_of HB4.out (k := 3) rfl
      go_wp2_with fail
      refine (may_any _ _ _ _ _ _ _ _ _).mono ?_
      rintro x w9 ⟨rfl, hx9⟩
      have HX9 : Hid (Ext w w9) := Ext.trans HX.out (Ext.trans HX4.out hx9)
      clear hx9 c0 c1 c2 c3
      obtain ⟨z, hz⟩ : ∃ z, z = mayN p.1.key.length p.1.seq p.1.kind p.1.val.length := ⟨_, rfl⟩
      rw [← hz]
      have HZ := Lib.hid hz
      clear hz
      cases z with
      | false =>
        go_wp2_with fail
        go_ret
        exact ⟨by rw [all_not (f := fun p : Ent × Hd => p.1.may) HP.out HZ.out.symm]; rfl, HX9.out⟩
      | true =>
        go_wp2_with fail
        go_roundw
        case rel => exact ⟨i + 1, by rw [hw2], by omega, Lib.hid (all_next (f := fun p : Ent × Hd => p.1.may) HR.out HP.out HZ.out.symm), HX9⟩
        case measure => rw [hw2]; simp [intOf]; omega
    · have d : decide ((i : Int) < (L.length : Int)) = false := decide_eq_false (by omega)
      have dn : decide (i < L.length) = false := decide_eq_false hlt
      have HM : Hid (L.all (fun p => p.1.may) = true) := by have h := HR.out; rwa [List.take_of_length_le (by omega)] at h
      clear hlt hm
      go_wp2_with fail
      go_ret
      exact ⟨by rw [HM.out]; rfl, HX.out⟩

/-- Do they rise? -/
def Rise (l : List Ent) : Prop := ∀ j a b, l[j]? = some a → l[j + 1]? = some b → cmpE a b < 0
theorem RiseAt.all {l : List Ent} {n : Nat} (h : RiseAt l n) : n = l.length ↔ Rise l := by
  obtain ⟨h1, h2, h3⟩ := h
  refine ⟨fun e j a b ha hb => h2 j a b (by have := (List.getElem?_eq_some_iff.1 hb).1; omega) ha hb, fun hr => ?_⟩
  rcases Nat.lt_or_ge n l.length with h | h
  · obtain ⟨m, a, b, e, ha, hb, hc⟩ := h3 h
    have := hr m a b ha hb
    omega
  · omega

set_option maxRecDepth 100000 in
set_option maxHeartbeats 4000000 in
theorem rises_any {w : World} {lo hi : Nat} {A : Option Addr} {c : Nat} {L : List (Ent × Hd)} (h : Es w lo hi A L) (hhi : hi ≤ w.heap.size) (hlen : L.length ≤ 1000000000000) :
    Calls Try.prog 38 #[.slice A L.length c] w fun x w' => ∃ z : Bool, (z = true ↔ Rise (L.map Prod.fst) ∧ (L.all fun p => p.1.may) = true) ∧ x = .returned (.bool z) ∧ Ext w w' := by
  have HR := Lib.hid (rising_any (c := c) h hhi hlen)
  have HA : Hid (∀ u, Ext w u → Calls Try.prog 59 #[.slice A L.length c] u fun x w' => x = .returned (.bool (L.all fun p => p.1.may)) ∧ Ext u w') := fun u hu => allmay_any (h.below hu hhi) (Nat.le_trans hhi hu.size) hlen
  clear h hhi hlen
  obtain ⟨m, hm⟩ : ∃ m, m = L.all fun p => p.1.may := ⟨_, rfl⟩
  rw [← hm] at HA ⊢
  clear hm
  go_enter Try.func38, Try.ntmps38
  go_wp2_with fail
  refine HR.out.mono ?_
  rintro x w2 ⟨n, hr, rfl, hx2⟩
  have hn := hr.all
  rw [List.length_map] at hn
  have HX2 := Lib.hid hx2
  have HN := Lib.hid hn
  clear hr hx2 hn
  by_cases h0 : n = L.length
  · have e1 : ((n : Int) == (L.length : Int)) = true := by rw [beq_iff_eq]; omega
    have e1n : (n == L.length) = true := by simpa using h0
    have HH := Lib.hid h0
    clear h0
    go_wp2_with fail
    refine (HA.out w2 HX2.out).mono ?_
    rintro x w3 ⟨rfl, hx3⟩
    have HX3 : Hid (Ext w w3) := Ext.trans HX2.out hx3
    clear hx3
    go_wp2_with fail
    go_ret
    exact ⟨m, ⟨fun h => ⟨HN.out.1 HH.out, h⟩, fun h => h.2⟩, rfl, HX3.out⟩
  · have e1 : ((n : Int) == (L.length : Int)) = false := by rw [beq_eq_false_iff_ne]; omega
    have e1n : (n == L.length) = false := by simpa using h0
    have HH := Lib.hid h0
    clear h0
    go_wp2_with fail
    go_ret
    exact ⟨false, ⟨fun h => (by cases h), fun h => absurd (HN.out.2 h.1) HH.out⟩, rfl, HX2.out⟩

/-- Are they much, as the laws ask it? -/
def MuchAns (L : List (Ent × Hd)) (z : Bool) : Prop := z = false → L.length ≤ 100000 ∧ ∀ p ∈ L, p.1.key.length + p.1.val.length < 100000

set_option maxRecDepth 100000 in
set_option maxHeartbeats 4000000 in
theorem much_any {w : World} {lo hi : Nat} {A : Option Addr} {c : Nat} {L : List (Ent × Hd)} (h : Es w lo hi A L) (hhi : hi ≤ w.heap.size) (hlen : L.length ≤ 4000000000000) (hln : ∀ p ∈ L, p.1.key.length ≤ 140737488351232 ∧ p.1.val.length ≤ 140737488351232) :
    Calls Try.prog 29 #[.slice A L.length c, .int .i64 100000] w fun x w' => ∃ z : Bool, MuchAns L z ∧ x = .returned (.bool z) ∧ Ext w w' := by
  have HE := Lib.hid h
  have HHI := Lib.hid hhi
  have HL := Lib.hid hlen
  have HLN := Lib.hid hln
  clear h hhi hlen hln
  go_enter Try.func29, Try.ntmps29
  go_wp2_with fail
  go_loopw [5, 6] (fun a b wr => ∃ s i : Nat, a = .int .i64 (s : Int) ∧ b = .int .i64 (i : Int) ∧ i ≤ L.length ∧ s ≤ 500000 ∧ Hid (s ≤ 100000 → i ≤ s ∧ ∀ p ∈ L.take i, p.1.key.length + p.1.val.length < s) ∧ Hid (Ext w wr)) (fun _ b _ => L.length - (intOf b).toNat)
  case atStart => exact ⟨0, 0, rfl, rfl, by omega, by omega, fun _ => ⟨by omega, by simp⟩, Lib.hid (Ext.refl _)⟩
  case round =>
    obtain ⟨s, i, rfl, rfl, hm, hs, HR, HX⟩ := hrel
    by_cases hlt : i < L.length
    · have d : decide ((i : Int) < (L.length : Int)) = true := decide_eq_true (by omega)
      have dn : decide (i < L.length) = true := decide_eq_true hlt
      by_cases hs1 : s ≤ 100000
      · have t : decide ((s : Int) ≤ 100000) = true := decide_eq_true (by omega)
        have tn : decide (s ≤ 100000) = true := decide_eq_true hs1
        obtain ⟨b, o, hA⟩ := HE.out.base (by omega)
        subst hA
        obtain ⟨p, hp⟩ : ∃ p, L[i]? = some p := ⟨_, List.getElem?_eq_getElem hlt⟩
        obtain ⟨c0, c1, c2, c3⟩ := (HE.out.below HX.out HHI.out).get hp
        have HP := Lib.hid hp
        have HLP := Lib.hid (HLN.out p (List.mem_of_getElem? hp))
        have n1 : (0 : Int) ≤ (i : Int) := by omega
        have n2 : (i : Int) < (L.length : Int) := by omega
        obtain ⟨x, hx⟩ : ∃ x, x = min p.1.key.length 100001 := ⟨_, rfl⟩
        obtain ⟨y, hy⟩ : ∃ y, y = min p.1.val.length 100001 := ⟨_, rfl⟩
        have HMX : Hid ((min (p.1.key.length : Int) 100001) = (x : Int)) := by unfold Hid; omega
        have HMY : Hid ((min (p.1.val.length : Int) 100001) = (y : Int)) := by unfold Hid; omega
        have HXY := Lib.hid (And.intro hx hy)
        have HS1 := Lib.hid hs1
        clear hp c1 c2 hx hy
        go_upto_region 5 with (fail)
        refine flow (by kernel_rfl) [Is (.int .i64 (s : Int)), Is (.int .i64 ((s : Int) + 1)), Is (.slice (some ⟨b, o, none⟩) L.length c), Is (.int .i64 (i : Int)), Is (.pointer (some ⟨b, o + i * 4, none⟩)), Is (.pointer (some ⟨b, o + i * 4, none⟩)), Is (.slice p.2.kA p.1.key.length p.2.kc), Is (.int .i64 (p.1.key.length : Int)), Is (.int .i64 (100000 : Int)), Is (.int .i64 (100001 : Int)), Is (.int .i64 (x : Int)), Is (.int .i64 ((s : Int) + 1 + (x : Int))), Is (.slice (some ⟨b, o, none⟩) L.length c), Is (.int .i64 (i : Int)), Is (.pointer (some ⟨b, o + i * 4, none⟩)), Is (.pointer (some ⟨b, o + i * 4 + 3, none⟩)), Is (.slice p.2.vA p.1.val.length p.2.vc), Is (.int .i64 (p.1.val.length : Int)), Is (.int .i64 (100000 : Int)), Is (.int .i64 (100001 : Int)), Is (.int .i64 (y : Int)), Is (.int .i64 ((s : Int) + 1 + (x : Int) + (y : Int))), Is (.int .i64 ((s : Int) + 1 + (x : Int) + (y : Int)))] (by kernel_rfl) (by kernel_rfl) ?mono (fun f1 => ?obl) ?fin
        case mono =>
          simp only [List.forall_mem_cons, List.not_mem_nil, false_imp_iff, implies_true, and_true]
          exact ⟨.is _, .is _, .is _, .is _, .is _, .is _, .is _, .is _, .is _, .is _, .is _, .is _, .is _, .is _, .is _, .is _, .is _, .is _, .is _, .is _, .is _, .is _, .is _⟩
        case fin =>
          intro g1 u hu hg
          simp only [puts, Act.put, List.setIfInBounds_toArray, List.set_cons_zero, List.set_cons_succ]
          have h22 : g1 22 = .int .i64 ((s : Int) + 1 + (x : Int) + (y : Int)) := hg 22 (by decide)
          rw [h22]
          have HXU : Hid (Ext w u) := Ext.trans HX.out (Ext.trans (Ext.drew wr) hu)
          have hL := HL.out
          clear h22 hg hu c0 c3
          go_wp2_with fail
          go_roundw
          case rel =>
            have hxy := HXY.out
            have hs1 := HS1.out
            refine ⟨s + 1 + x + y, i + 1, by simp, by go_num, by omega, by omega, Lib.hid fun hle => ?_, HXU⟩
            obtain ⟨h1, h2⟩ := HR.out hs1
            refine ⟨by omega, fun q hq => ?_⟩
            rw [List.take_succ_eq_append_getElem hlt, List.mem_append, List.mem_singleton] at hq
            rcases hq with hq | hq
            · have := h2 q hq; omega
            · have hpe : q = p := by rw [hq]; exact (List.getElem?_eq_some_iff.1 HP.out).2
              subst hpe
              omega
          case measure => simp [intOf]; omega
        case obl =>
          refine ⟨fun u hu hd => ?_, ?_⟩
          · go_simp
            exact ⟨Ext.refl _, rfl⟩
          refine ⟨fun u hu hd => ?_, ?_⟩
          · simp only [Act.put, List.setIfInBounds_toArray, List.set_cons_zero, List.set_cons_succ]
            have e0 : f1 0 = .int .i64 (s : Int) := hd 0 (by kernel_rfl)
            have q : IntKind.i64.wrap ((s : Int) + 1) = (s : Int) + 1 := by rw [IntKind.wrap_i64]; omega
            go_simp
            exact ⟨Ext.refl _, rfl⟩
          refine ⟨fun u hu hd => ?_, ?_⟩
          · simp only [Act.put, List.setIfInBounds_toArray, List.set_cons_zero, List.set_cons_succ]
            go_simp
            exact ⟨Ext.refl _, rfl⟩
          refine ⟨fun u hu hd => ?_, ?_⟩
          · simp only [Act.put, List.setIfInBounds_toArray, List.set_cons_zero, List.set_cons_succ]
            go_simp
            exact ⟨Ext.refl _, rfl⟩
          refine ⟨fun u hu hd => ?_, ?_⟩
          · simp only [Act.put, List.setIfInBounds_toArray, List.set_cons_zero, List.set_cons_succ]
            have e2 : f1 2 = .slice (some ⟨b, o, none⟩) L.length c := hd 2 (by kernel_rfl)
            have e3 : f1 3 = .int .i64 (i : Int) := hd 3 (by kernel_rfl)
            go_simp
            exact ⟨Ext.refl _, rfl⟩
          refine ⟨fun u hu hd => ?_, ?_⟩
          · simp only [Act.put, List.setIfInBounds_toArray, List.set_cons_zero, List.set_cons_succ]
            have e4 : f1 4 = .pointer (some ⟨b, o + i * 4, none⟩) := hd 4 (by kernel_rfl)
            go_simp
            exact ⟨Ext.refl _, rfl⟩
          refine ⟨fun u hu hd => ?_, ?_⟩
          · simp only [Act.put, List.setIfInBounds_toArray, List.set_cons_zero, List.set_cons_succ]
            have e5 : f1 5 = .pointer (some ⟨b, o + i * 4, none⟩) := hd 5 (by kernel_rfl)
            have hu2 := Ext.trans (Ext.drew wr) hu
            have q0 := ext_cell hu2 c0
            go_simp
            exact ⟨Ext.refl _, rfl⟩
          refine ⟨fun u hu hd => ?_, ?_⟩
          · simp only [Act.put, List.setIfInBounds_toArray, List.set_cons_zero, List.set_cons_succ]
            have e6 : f1 6 = .slice p.2.kA p.1.key.length p.2.kc := hd 6 (by kernel_rfl)
            go_simp
            exact ⟨Ext.refl _, rfl⟩
          refine ⟨fun u hu hd => ?_, ?_⟩
          · simp only [Act.put, List.setIfInBounds_toArray, List.set_cons_zero, List.set_cons_succ]
            go_simp
            exact ⟨Ext.refl _, rfl⟩
          refine ⟨fun u hu hd => ?_, ?_⟩
          · simp only [Act.put, List.setIfInBounds_toArray, List.set_cons_zero, List.set_cons_succ]
            have e8 : f1 8 = .int .i64 (100000 : Int) := hd 8 (by kernel_rfl)
            go_simp
            exact ⟨Ext.refl _, rfl⟩
          refine ⟨fun u hu hd => ?_, ?_⟩
          · simp only [Act.put, List.setIfInBounds_toArray, List.set_cons_zero, List.set_cons_succ]
            have e7 : f1 7 = .int .i64 (p.1.key.length : Int) := hd 7 (by kernel_rfl)
            have e9 : f1 9 = .int .i64 (100001 : Int) := hd 9 (by kernel_rfl)
            have q := HMX.out
            go_simp
            exact ⟨Ext.refl _, rfl⟩
          refine ⟨fun u hu hd => ?_, ?_⟩
          · simp only [Act.put, List.setIfInBounds_toArray, List.set_cons_zero, List.set_cons_succ]
            have e1 : f1 1 = .int .i64 ((s : Int) + 1) := hd 1 (by kernel_rfl)
            have e10 : f1 10 = .int .i64 (x : Int) := hd 10 (by kernel_rfl)
            have q1 : x ≤ 100001 ∧ y ≤ 100001 := by have := HXY.out; omega
            have q : IntKind.i64.wrap ((s : Int) + 1 + (x : Int)) = (s : Int) + 1 + (x : Int) := by rw [IntKind.wrap_i64]; omega
            go_simp
            exact ⟨Ext.refl _, rfl⟩
          refine ⟨fun u hu hd => ?_, ?_⟩
          · simp only [Act.put, List.setIfInBounds_toArray, List.set_cons_zero, List.set_cons_succ]
            go_simp
            exact ⟨Ext.refl _, rfl⟩
          refine ⟨fun u hu hd => ?_, ?_⟩
          · simp only [Act.put, List.setIfInBounds_toArray, List.set_cons_zero, List.set_cons_succ]
            go_simp
            exact ⟨Ext.refl _, rfl⟩
          refine ⟨fun u hu hd => ?_, ?_⟩
          · simp only [Act.put, List.setIfInBounds_toArray, List.set_cons_zero, List.set_cons_succ]
            have e12 : f1 12 = .slice (some ⟨b, o, none⟩) L.length c := hd 12 (by kernel_rfl)
            have e13 : f1 13 = .int .i64 (i : Int) := hd 13 (by kernel_rfl)
            go_simp
            exact ⟨Ext.refl _, rfl⟩
          refine ⟨fun u hu hd => ?_, ?_⟩
          · simp only [Act.put, List.setIfInBounds_toArray, List.set_cons_zero, List.set_cons_succ]
            have e14 : f1 14 = .pointer (some ⟨b, o + i * 4, none⟩) := hd 14 (by kernel_rfl)
            go_simp
            exact ⟨Ext.refl _, rfl⟩
          refine ⟨fun u hu hd => ?_, ?_⟩
          · simp only [Act.put, List.setIfInBounds_toArray, List.set_cons_zero, List.set_cons_succ]
            have e15 : f1 15 = .pointer (some ⟨b, o + i * 4 + 3, none⟩) := hd 15 (by kernel_rfl)
            have hu2 := Ext.trans (Ext.drew wr) hu
            have q0 := ext_cell hu2 c3
            go_simp
            exact ⟨Ext.refl _, rfl⟩
          refine ⟨fun u hu hd => ?_, ?_⟩
          · simp only [Act.put, List.setIfInBounds_toArray, List.set_cons_zero, List.set_cons_succ]
            have e16 : f1 16 = .slice p.2.vA p.1.val.length p.2.vc := hd 16 (by kernel_rfl)
            go_simp
            exact ⟨Ext.refl _, rfl⟩
          refine ⟨fun u hu hd => ?_, ?_⟩
          · simp only [Act.put, List.setIfInBounds_toArray, List.set_cons_zero, List.set_cons_succ]
            go_simp
            exact ⟨Ext.refl _, rfl⟩
          refine ⟨fun u hu hd => ?_, ?_⟩
          · simp only [Act.put, List.setIfInBounds_toArray, List.set_cons_zero, List.set_cons_succ]
            have e18 : f1 18 = .int .i64 (100000 : Int) := hd 18 (by kernel_rfl)
            go_simp
            exact ⟨Ext.refl _, rfl⟩
          refine ⟨fun u hu hd => ?_, ?_⟩
          · simp only [Act.put, List.setIfInBounds_toArray, List.set_cons_zero, List.set_cons_succ]
            have e17 : f1 17 = .int .i64 (p.1.val.length : Int) := hd 17 (by kernel_rfl)
            have e19 : f1 19 = .int .i64 (100001 : Int) := hd 19 (by kernel_rfl)
            have q := HMY.out
            go_simp
            exact ⟨Ext.refl _, rfl⟩
          refine ⟨fun u hu hd => ?_, ?_⟩
          · simp only [Act.put, List.setIfInBounds_toArray, List.set_cons_zero, List.set_cons_succ]
            have e11 : f1 11 = .int .i64 ((s : Int) + 1 + (x : Int)) := hd 11 (by kernel_rfl)
            have e20 : f1 20 = .int .i64 (y : Int) := hd 20 (by kernel_rfl)
            have q1 : x ≤ 100001 ∧ y ≤ 100001 := by have := HXY.out; omega
            have q : IntKind.i64.wrap ((s : Int) + 1 + (x : Int) + (y : Int)) = (s : Int) + 1 + (x : Int) + (y : Int) := by rw [IntKind.wrap_i64]; omega
            go_simp
            exact ⟨Ext.refl _, rfl⟩
          refine ⟨fun u hu hd => ?_, ?_⟩
          · simp only [Act.put, List.setIfInBounds_toArray, List.set_cons_zero, List.set_cons_succ]
            have e21 : f1 21 = .int .i64 ((s : Int) + 1 + (x : Int) + (y : Int)) := hd 21 (by kernel_rfl)
            go_simp
            exact ⟨Ext.refl _, rfl⟩
          trivial
      · have t : decide ((s : Int) ≤ 100000) = false := decide_eq_false (by omega)
        have tn : decide (s ≤ 100000) = false := decide_eq_false hs1
        have t2 : decide ((100000 : Int) < (s : Int)) = true := decide_eq_true (by omega)
        have t2n : decide (100000 < s) = true := decide_eq_true (by omega)
        clear hs1 hlt hm hs
        go_wp2_with fail
        go_ret
        exact ⟨true, fun h => (by cases h), rfl, HX.out⟩
    · have d : decide ((i : Int) < (L.length : Int)) = false := decide_eq_false (by omega)
      have dn : decide (i < L.length) = false := decide_eq_false hlt
      have HI : Hid (i = L.length) := by unfold Hid; omega
      by_cases hs1 : s ≤ 100000
      · have t2 : decide ((100000 : Int) < (s : Int)) = false := decide_eq_false (by omega)
        have t2n : decide (100000 < s) = false := decide_eq_false (by omega)
        have HS1 := Lib.hid hs1
        clear hs1 hlt hm hs
        go_wp2_with fail
        go_ret
        refine ⟨false, fun _ => ?_, rfl, HX.out⟩
        obtain ⟨h1, h2⟩ := HR.out HS1.out
        have h3 := HI.out
        have h4 := HS1.out
        rw [h3, List.take_length] at h2
        exact ⟨by omega, fun p hp => by have := h2 p hp; omega⟩
      · have t2 : decide ((100000 : Int) < (s : Int)) = true := decide_eq_true (by omega)
        have t2n : decide (100000 < s) = true := decide_eq_true (by omega)
        clear hs1 hlt hm hs
        go_wp2_with fail
        go_ret
        exact ⟨true, fun h => (by cases h), rfl, HX.out⟩

set_option maxRecDepth 100000 in
set_option maxHeartbeats 4000000 in
theorem rsamelist_any {w : World} {lo hi lo2 hi2 : Nat} {A B : Option Addr} {c c2 : Nat} {L M : List (Ent × Hd)} (h : Es w lo hi A L) (k : Es w lo2 hi2 B M) (hhi : hi ≤ w.heap.size) (hhi2 : hi2 ≤ w.heap.size) (hlen : L.length ≤ 1000000000000) (hlen2 : M.length ≤ 1000000000000) :
    Calls Try.prog 33 #[.slice A L.length c, .slice B M.length c2] w fun x w' => ∃ z : Bool, (z = true ↔ L.map Prod.fst = M.map Prod.fst) ∧ x = .returned (.bool z) ∧ Ext w w' := by
  have HE := Lib.hid h
  have HF := Lib.hid k
  have HHI := Lib.hid (And.intro hhi hhi2)
  have HL := Lib.hid (And.intro hlen hlen2)
  clear h k hhi hhi2 hlen hlen2
  by_cases hne : L.length = M.length
  · have e1 : ((L.length : Int) != (M.length : Int)) = false := by rw [hne]; simp
    have e1n : (L.length != M.length) = false := by rw [hne]; simp
    have HN := Lib.hid hne
    clear hne
    go_enter Try.func33, Try.ntmps33
    go_wp2_with fail
    go_loopw [5] (fun a wr => ∃ i : Nat, a = .int .i64 (i : Int) ∧ i ≤ L.length ∧ Hid ((L.map Prod.fst).take i = (M.map Prod.fst).take i) ∧ Hid (Ext w wr)) (fun a _ => L.length - (intOf a).toNat)
    case atStart => exact ⟨0, rfl, by omega, by simp [Hid], Lib.hid (Ext.refl _)⟩
    case round =>
      obtain ⟨i, rfl, hm, HR, HX⟩ := hrel
      by_cases hlt : i < L.length
      · have d : decide ((i : Int) < (L.length : Int)) = true := decide_eq_true (by omega)
        have dn : decide (i < L.length) = true := decide_eq_true hlt
        have hlt2 : i < M.length := by have := HN.out; omega
        obtain ⟨b, o, hA⟩ := HE.out.base (by omega)
        subst hA
        obtain ⟨b2, o2, hB⟩ := HF.out.base (by omega)
        subst hB
        obtain ⟨p, hp⟩ : ∃ p, L[i]? = some p := ⟨_, List.getElem?_eq_getElem hlt⟩
        obtain ⟨q, hq⟩ : ∃ q, M[i]? = some q := ⟨_, List.getElem?_eq_getElem hlt2⟩
        obtain ⟨c0, c1, c2', c3⟩ := (HE.out.below HX.out HHI.out.1).get hp
        obtain ⟨d0, d1, d2, d3⟩ := (HF.out.below HX.out HHI.out.2).get hq
        have HWW : Hid (∀ u, Ext wr u → Em u lo hi p.1 p.2 ∧ Em u lo2 hi2 q.1 q.2 ∧ hi ≤ u.heap.size ∧ hi2 ≤ u.heap.size) := fun u hu => by
          have hx := Ext.trans HX.out hu
          have hs := hx.size
          exact ⟨(HE.out.below hx HHI.out.1).each p (List.mem_of_getElem? hp), (HF.out.below hx HHI.out.2).each q (List.mem_of_getElem? hq), Nat.le_trans HHI.out.1 hs, Nat.le_trans HHI.out.2 hs⟩
        have HP := Lib.hid (And.intro hp hq)
        obtain ⟨z, hz⟩ : ∃ z : Bool, (z = true ↔ p.1 = q.1) := by
          by_cases e : p.1 = q.1
          · exact ⟨true, by simp [e]⟩
          · exact ⟨false, by simp [e]⟩
        have HZ := Lib.hid hz
        have n1 : (0 : Int) ≤ (i : Int) := by omega
        have n2 : (i : Int) < (L.length : Int) := by omega
        have n3 : (i : Int) < (M.length : Int) := by omega
        clear hp hq hz
        go_upto_region 6 with (fail)
        refine flow (by kernel_rfl) [Is (.slice (some ⟨b, o, none⟩) L.length c), Is (.int .i64 (i : Int)), Is (.pointer (some ⟨b, o + i * 4, none⟩)), Is (.agg #[.slice p.2.kA p.1.key.length p.2.kc, .int .i64 p.1.seq, .int .i64 p.1.kind, .slice p.2.vA p.1.val.length p.2.vc]), Is (.slice (some ⟨b2, o2, none⟩) M.length c2), Is (.int .i64 (i : Int)), Is (.pointer (some ⟨b2, o2 + i * 4, none⟩)), Is (.agg #[.slice q.2.kA q.1.key.length q.2.kc, .int .i64 q.1.seq, .int .i64 q.1.kind, .slice q.2.vA q.1.val.length q.2.vc]), Is (.bool z), Is (.bool (!z))] (by kernel_rfl) (by kernel_rfl) ?mono (fun f1 => ?obl) ?fin
        case mono =>
          simp only [List.forall_mem_cons, List.not_mem_nil, false_imp_iff, implies_true, and_true]
          exact ⟨.is _, .is _, .is _, .is _, .is _, .is _, .is _, .is _, .is _, .is _⟩
        case fin =>
          intro g1 u hu hg
          simp only [puts, Act.put, List.setIfInBounds_toArray, List.set_cons_zero, List.set_cons_succ]
          have h9 : g1 9 = .bool (!z) := hg 9 (by decide)
          rw [h9]
          have HXU : Hid (Ext w u) := Ext.trans HX.out (Ext.trans (Ext.drew wr) hu)
          clear h9 hg hu c0 c1 c2' c3 d0 d1 d2 d3
          have hL := HL.out.1
          cases z with
          | false =>
            go_wp2_with fail
            go_ret
            refine ⟨false, ⟨fun h => (by cases h), fun h => ?_⟩, rfl, HXU.out⟩
            have h1 := congrArg (fun l => l[i]?) h
            simp only [List.getElem?_map, HP.out.1, HP.out.2, Option.map_some, Option.some.injEq] at h1
            exact (HZ.out.2 h1)
          | true =>
            go_wp2_with fail
            go_roundw
            case rel => exact ⟨i + 1, by go_num, by omega, Lib.hid (by
              have e1 : i < (L.map Prod.fst).length := by rw [List.length_map]; omega
              have e2 : i < (M.map Prod.fst).length := by rw [List.length_map]; omega
              rw [List.take_succ_eq_append_getElem e1, List.take_succ_eq_append_getElem e2, HR.out]
              have h1 := (List.getElem?_eq_some_iff.1 HP.out.1).2
              have h2 := (List.getElem?_eq_some_iff.1 HP.out.2).2
              simp only [List.getElem_map, h1, h2, HZ.out.1 rfl]), HXU⟩
            case measure => simp [intOf]; omega
        case obl =>
          refine ⟨fun u hu hd => ?_, ?_⟩
          · go_simp
            exact ⟨Ext.refl _, rfl⟩
          refine ⟨fun u hu hd => ?_, ?_⟩
          · simp only [Act.put, List.setIfInBounds_toArray, List.set_cons_zero, List.set_cons_succ]
            go_simp
            exact ⟨Ext.refl _, rfl⟩
          refine ⟨fun u hu hd => ?_, ?_⟩
          · simp only [Act.put, List.setIfInBounds_toArray, List.set_cons_zero, List.set_cons_succ]
            have e0 : f1 0 = .slice (some ⟨b, o, none⟩) L.length c := hd 0 (by kernel_rfl)
            have e1 : f1 1 = .int .i64 (i : Int) := hd 1 (by kernel_rfl)
            go_simp
            exact ⟨Ext.refl _, rfl⟩
          refine ⟨fun u hu hd => ?_, ?_⟩
          · simp only [Act.put, List.setIfInBounds_toArray, List.set_cons_zero, List.set_cons_succ]
            have e2 : f1 2 = .pointer (some ⟨b, o + i * 4, none⟩) := hd 2 (by kernel_rfl)
            have hu2 := Ext.trans (Ext.drew wr) hu
            have q0 := ext_cell hu2 c0
            have q1 := ext_cell hu2 c1
            have q2 := ext_cell hu2 c2'
            have q3 := ext_cell hu2 c3
            go_simp
            exact ⟨Ext.refl _, rfl⟩
          refine ⟨fun u hu hd => ?_, ?_⟩
          · simp only [Act.put, List.setIfInBounds_toArray, List.set_cons_zero, List.set_cons_succ]
            go_simp
            exact ⟨Ext.refl _, rfl⟩
          refine ⟨fun u hu hd => ?_, ?_⟩
          · simp only [Act.put, List.setIfInBounds_toArray, List.set_cons_zero, List.set_cons_succ]
            go_simp
            exact ⟨Ext.refl _, rfl⟩
          refine ⟨fun u hu hd => ?_, ?_⟩
          · simp only [Act.put, List.setIfInBounds_toArray, List.set_cons_zero, List.set_cons_succ]
            have e4 : f1 4 = .slice (some ⟨b2, o2, none⟩) M.length c2 := hd 4 (by kernel_rfl)
            have e5 : f1 5 = .int .i64 (i : Int) := hd 5 (by kernel_rfl)
            go_simp
            exact ⟨Ext.refl _, rfl⟩
          refine ⟨fun u hu hd => ?_, ?_⟩
          · simp only [Act.put, List.setIfInBounds_toArray, List.set_cons_zero, List.set_cons_succ]
            have e6 : f1 6 = .pointer (some ⟨b2, o2 + i * 4, none⟩) := hd 6 (by kernel_rfl)
            have hu2 := Ext.trans (Ext.drew wr) hu
            have q0 := ext_cell hu2 d0
            have q1 := ext_cell hu2 d1
            have q2 := ext_cell hu2 d2
            have q3 := ext_cell hu2 d3
            go_simp
            exact ⟨Ext.refl _, rfl⟩
          refine ⟨fun u hu hd => ?_, ?_⟩
          · simp only [Act.put, List.setIfInBounds_toArray, List.set_cons_zero, List.set_cons_succ]
            have e3 : f1 3 = .agg #[.slice p.2.kA p.1.key.length p.2.kc, .int .i64 p.1.seq, .int .i64 p.1.kind, .slice p.2.vA p.1.val.length p.2.vc] := hd 3 (by kernel_rfl)
            have e7 : f1 7 = .agg #[.slice q.2.kA q.1.key.length q.2.kc, .int .i64 q.1.seq, .int .i64 q.1.kind, .slice q.2.vA q.1.val.length q.2.vc] := hd 7 (by kernel_rfl)
            have hu2 := Ext.trans (Ext.drew wr) hu
            obtain ⟨m1, m2, m3, m4⟩ := HWW.out u hu2
            go_simp
            refine (rsame_any m1 m2 m3 m4).mono ?_
            rintro x w9 ⟨z', hz', rfl, hx9⟩
            have : z' = z := by rw [Bool.eq_iff_iff, hz', HZ.out]
            subst this
            exact ⟨_, rfl, hx9, rfl⟩
          refine ⟨fun u hu hd => ?_, ?_⟩
          · simp only [Act.put, List.setIfInBounds_toArray, List.set_cons_zero, List.set_cons_succ]
            have e8 : f1 8 = .bool z := hd 8 (by kernel_rfl)
            go_simp
            exact ⟨Ext.refl _, rfl⟩
          trivial
      · have d : decide ((i : Int) < (L.length : Int)) = false := decide_eq_false (by omega)
        have dn : decide (i < L.length) = false := decide_eq_false hlt
        have HM : Hid (L.map Prod.fst = M.map Prod.fst) := by
          have h := HR.out
          rw [List.take_of_length_le (by rw [List.length_map]; omega), List.take_of_length_le (by rw [List.length_map, ← HN.out]; omega)] at h
          exact h
        clear hlt hm
        go_wp2_with fail
        go_ret
        exact ⟨true, ⟨fun _ => HM.out, fun _ => rfl⟩, rfl, HX.out⟩
  · have e1 : ((L.length : Int) != (M.length : Int)) = true := by simp; omega
    have e1n : (L.length != M.length) = true := by simpa using hne
    have HN := Lib.hid hne
    clear hne
    go_enter Try.func33, Try.ntmps33
    go_wp2_with fail
    go_ret
    exact ⟨false, ⟨fun h => (by cases h), fun h => absurd (by have := congrArg List.length h; simpa using this) HN.out⟩, rfl, Ext.refl _⟩
end Go.Proofs.Ytfalpagimmaipaa
