import Derived.Test.YthhgjeeangepaaaGreatMv3
import Derived.Deep.DeepCutAuto
import Derived.Test.YthhgjeeangepaaaGreatMv2
import Derived.Test.YthhgjeeangepaaaGreatMv0
namespace Go.Proofs.YthhgjeeangepaaaGreat
open Go.ChangeShapes Go.WideShapes Go.ChangeAt Go.RowKit
theorem all_next {α : Type} {f : α → Bool} {L : List α} {i : Nat} {p : α} (h : (L.take i).all f = true) (hp : L[i]? = some p) (hf : f p = true) : (L.take (i + 1)).all f = true := by
  rw [List.take_succ_eq_append_getElem (List.getElem?_eq_some_iff.1 hp).1, List.all_append, h]
  simp [(List.getElem?_eq_some_iff.1 hp).2, hf]
theorem all_not {α : Type} {f : α → Bool} {L : List α} {i : Nat} {p : α} (hp : L[i]? = some p) (hf : f p = false) : L.all f = false := by
  rw [Bool.eq_false_iff]
  intro h
  rw [List.all_eq_true] at h
  rw [h p (List.mem_of_getElem? hp)] at hf
  cases hf
set_option maxRecDepth 100000 in
set_option maxHeartbeats 4000000 in
theorem allmay_any {w : World} {lo hi : Nat} {A : Option Addr} {c : Nat} {L : List (Ent × Hd)} (h : Es w lo hi A L) (hhi : hi ≤ w.heap.size) (hlen : L.length ≤ 1000000000000) :
    Calls Tryz.prog 115 #[.slice A L.length c] w fun x w' => x = .returned (.bool (L.all fun p => p.1.may)) ∧ Ext w w' := by
  have HE := Lib.hid h
  have HHI := Lib.hid hhi
  have HL := Lib.hid hlen
  clear h hhi hlen
  go_enter Tryz.func115, Tryz.ntmps115
  go_wp2_with fail
  go_loopw [7] (fun a wr => ∃ i : Nat, a = .int .i64 (i : Int) ∧ i ≤ L.length ∧ Hid ((L.take i).all (fun p => p.1.may) = true) ∧ Hid (Ext w wr)) (fun a _ => L.length - (intOf a).toNat)
  case atStart => exact ⟨0, rfl, by omega, by simp [Hid], Lib.hid (Ext.refl _)⟩
  case round =>
    obtain ⟨i, rfl, hm, HR, HX⟩ := hrel
    by_cases hlt : i < L.length
    · have d : decide ((i : Int) < (L.length : Int)) = true := decide_eq_true (by omega)
      have dn : decide (i < L.length) = true := decide_eq_true hlt
      obtain ⟨b, o, hA⟩ := HE.out.base (by omega)
      subst hA
      obtain ⟨p, hp⟩ : ∃ p, L[i]? = some p := ⟨_, List.getElem?_eq_getElem hlt⟩
      obtain ⟨c0, c1, c2, c3⟩ := (HE.out.below HX.out HHI.out).get hp
      have HP := Lib.hid hp
      have n1 : (0 : Int) ≤ (i : Int) := by omega
      have n2 : (i : Int) < (L.length : Int) := by omega
      have hw2 : wrap64 ((i : Int) + 1) = ((i + 1 : Nat) : Int) := by have := HL.out; unfold wrap64; omega
      clear hp
      go_upto_region 4 with (fail)
      obtain ⟨w4, hw4⟩ : ∃ w4, w4 = wr.alloc (.cells #[.slice p.2.kA p.1.key.length p.2.kc, .int .i64 p.1.seq, .int .i64 p.1.kind, .slice p.2.vA p.1.val.length p.2.vc] 55) := ⟨_, rfl⟩
      rw [← hw4]
      have HX4 : Hid (Ext wr w4) := by rw [hw4]; exact ext_alloc _ _
      have HB4 : Hid (w4.heap[wr.heap.size]? = some (.cells #[.slice p.2.kA p.1.key.length p.2.kc, .int .i64 p.1.seq, .int .i64 p.1.kind, .slice p.2.vA p.1.val.length p.2.vc] 55 (0, 0))) := by rw [hw4]; exact heap_at _ _ rfl
      clear hw4 c0 c1 c2 c3
      have c0 := cell_of HB4.out (k := 0) rfl
      have c1 := cell_of HB4.out (k := 1) rfl
      have c2 := cell_of HB4.out (k := 2) rfl
      have c3 := cell_of HB4.out (k := 3) rfl
      go_wp2_with fail
      refine (may_any _ _ _ _ _ _ _ _ _).mono ?_
      rintro x w9 ⟨rfl, hx9⟩
      have HX9 : Hid (Ext w w9) := Ext.trans HX.out (Ext.trans HX4.out hx9)
      clear hx9 c0 c1 c2 c3
      obtain ⟨z, hz⟩ : ∃ z, z = mayN p.1.key.length p.1.seq p.1.kind p.1.val.length := ⟨_, rfl⟩
      rw [← hz]
      have HZ := Lib.hid hz
      clear hz
      cases z with
      | false =>
        go_wp2_with fail
        go_ret
        exact ⟨by rw [all_not (f := fun p : Ent × Hd => p.1.may) HP.out HZ.out.symm]; rfl, HX9.out⟩
      | true =>
        go_wp2_with fail
        go_roundw
        case rel => exact ⟨i + 1, by rw [hw2], by omega, Lib.hid (all_next (f := fun p : Ent × Hd => p.1.may) HR.out HP.out HZ.out.symm), HX9⟩
        case measure => rw [hw2]; simp [intOf]; omega
    · have d : decide ((i : Int) < (L.length : Int)) = false := decide_eq_false (by omega)
      have dn : decide (i < L.length) = false := decide_eq_false hlt
      have HM : Hid (L.all (fun p => p.1.may) = true) := by have h := HR.out; rwa [List.take_of_length_le (by omega)] at h
      clear hlt hm
      go_wp2_with fail
      go_ret
      exact ⟨by rw [HM.out]; rfl, HX.out⟩
def Rise (l : List Ent) : Prop := ∀ j a b, l[j]? = some a → l[j + 1]? = some b → cmpE a b < 0
theorem RiseAt.all {l : List Ent} {n : Nat} (h : RiseAt l n) : n = l.length ↔ Rise l := by
  obtain ⟨h1, h2, h3⟩ := h
  refine ⟨fun e j a b ha hb => h2 j a b (by have := (List.getElem?_eq_some_iff.1 hb).1; omega) ha hb, fun hr => ?_⟩
  rcases Nat.lt_or_ge n l.length with h | h
  · obtain ⟨m, a, b, e, ha, hb, hc⟩ := h3 h
    have := hr m a b ha hb
    omega
  · omega
set_option maxRecDepth 100000 in
set_option maxHeartbeats 4000000 in
theorem rises_any {w : World} {lo hi : Nat} {A : Option Addr} {c : Nat} {L : List (Ent × Hd)} (h : Es w lo hi A L) (hhi : hi ≤ w.heap.size) (hlen : L.length ≤ 1000000000000) :
    Calls Tryz.prog 75 #[.slice A L.length c] w fun x w' => ∃ z : Bool, (z = true ↔ Rise (L.map Prod.fst) ∧ (L.all fun p => p.1.may) = true) ∧ x = .returned (.bool z) ∧ Ext w w' := by
  have HR := Lib.hid (rising_any (c := c) h hhi hlen)
  have HA : Hid (∀ u, Ext w u → Calls Tryz.prog 115 #[.slice A L.length c] u fun x w' => x = .returned (.bool (L.all fun p => p.1.may)) ∧ Ext u w') := fun u hu => allmay_any (h.below hu hhi) (Nat.le_trans hhi hu.size) hlen
  clear h hhi hlen
  obtain ⟨m, hm⟩ : ∃ m, m = L.all fun p => p.1.may := ⟨_, rfl⟩
  rw [← hm] at HA ⊢
  clear hm
  go_enter Tryz.func75, Tryz.ntmps75
  go_wp2_with fail
  refine HR.out.mono ?_
  rintro x w2 ⟨n, hr, rfl, hx2⟩
  have hn := hr.all
  rw [List.length_map] at hn
  have HX2 := Lib.hid hx2
  have HN := Lib.hid hn
  clear hr hx2 hn
  by_cases h0 : n = L.length
  · have e1 : ((n : Int) == (L.length : Int)) = true := by rw [beq_iff_eq]; omega
    have e1n : (n == L.length) = true := by simpa using h0
    have HH := Lib.hid h0
    clear h0
    go_wp2_with fail
    refine (HA.out w2 HX2.out).mono ?_
    rintro x w3 ⟨rfl, hx3⟩
    have HX3 : Hid (Ext w w3) := Ext.trans HX2.out hx3
    clear hx3
    go_wp2_with fail
    go_ret
    exact ⟨m, ⟨fun h => ⟨HN.out.1 HH.out, h⟩, fun h => h.2⟩, rfl, HX3.out⟩
  · have e1 : ((n : Int) == (L.length : Int)) = false := by rw [beq_eq_false_iff_ne]; omega
    have e1n : (n == L.length) = false := by simpa using h0
    have HH := Lib.hid h0
    clear h0
    go_wp2_with fail
    go_ret
    exact ⟨false, ⟨fun h => (by cases h), fun h => absurd (HN.out.2 h.1) HH.out⟩, rfl, HX2.out⟩
def MuchAns (L : List (Ent × Hd)) (z : Bool) : Prop := z = false → L.length ≤ 100000 ∧ ∀ p ∈ L, p.1.key.length + p.1.val.length < 100000
set_option maxRecDepth 100000 in
set_option maxHeartbeats 4000000 in
theorem much_any {w : World} {lo hi : Nat} {A : Option Addr} {c : Nat} {L : List (Ent × Hd)} (h : Es w lo hi A L) (hhi : hi ≤ w.heap.size) (hlen : L.length ≤ 4000000000000) (hln : ∀ p ∈ L, p.1.key.length ≤ 140737488351232 ∧ p.1.val.length ≤ 140737488351232) :
    Calls Tryz.prog 39 #[.slice A L.length c, .int .i64 100000] w fun x w' => ∃ z : Bool, MuchAns L z ∧ x = .returned (.bool z) ∧ Ext w w' := by
  have HE := Lib.hid h
  have HHI := Lib.hid hhi
  have HL := Lib.hid hlen
  have HLN := Lib.hid hln
  clear h hhi hlen hln
  go_enter Tryz.func39, Tryz.ntmps39
  go_wp2_with fail
  go_loopw [5, 6] (fun a b wr => ∃ s i : Nat, a = .int .i64 (s : Int) ∧ b = .int .i64 (i : Int) ∧ i ≤ L.length ∧ s ≤ 500000 ∧ Hid (s ≤ 100000 → i ≤ s ∧ ∀ p ∈ L.take i, p.1.key.length + p.1.val.length < s) ∧ Hid (Ext w wr)) (fun _ b _ => L.length - (intOf b).toNat)
  case atStart => exact ⟨0, 0, rfl, rfl, by omega, by omega, fun _ => ⟨by omega, by simp⟩, Lib.hid (Ext.refl _)⟩
  case round =>
    obtain ⟨s, i, rfl, rfl, hm, hs, HR, HX⟩ := hrel
    by_cases hlt : i < L.length
    · have d : decide ((i : Int) < (L.length : Int)) = true := decide_eq_true (by omega)
      have dn : decide (i < L.length) = true := decide_eq_true hlt
      by_cases hs1 : s ≤ 100000
      · have t : decide ((s : Int) ≤ 100000) = true := decide_eq_true (by omega)
        have tn : decide (s ≤ 100000) = true := decide_eq_true hs1
        obtain ⟨b, o, hA⟩ := HE.out.base (by omega)
        subst hA
        obtain ⟨p, hp⟩ : ∃ p, L[i]? = some p := ⟨_, List.getElem?_eq_getElem hlt⟩
        obtain ⟨c0, c1, c2, c3⟩ := (HE.out.below HX.out HHI.out).get hp
        have HP := Lib.hid hp
        have HLP := Lib.hid (HLN.out p (List.mem_of_getElem? hp))
        have n1 : (0 : Int) ≤ (i : Int) := by omega
        have n2 : (i : Int) < (L.length : Int) := by omega
        obtain ⟨x, hx⟩ : ∃ x, x = min p.1.key.length 100001 := ⟨_, rfl⟩
        obtain ⟨y, hy⟩ : ∃ y, y = min p.1.val.length 100001 := ⟨_, rfl⟩
        have HMX : Hid ((min (p.1.key.length : Int) 100001) = (x : Int)) := by unfold Hid; omega
        have HMY : Hid ((min (p.1.val.length : Int) 100001) = (y : Int)) := by unfold Hid; omega
        have HXY := Lib.hid (And.intro hx hy)
        have HS1 := Lib.hid hs1
        clear hp c1 c2 hx hy
        go_upto_region 5 with (fail)
        refine flow (by kernel_rfl) [Is (.int .i64 (s : Int)), Is (.int .i64 ((s : Int) + 1)), Is (.slice (some ⟨b, o, none⟩) L.length c), Is (.int .i64 (i : Int)), Is (.pointer (some ⟨b, o + i * 4, none⟩)), Is (.pointer (some ⟨b, o + i * 4, none⟩)), Is (.slice p.2.kA p.1.key.length p.2.kc), Is (.int .i64 (p.1.key.length : Int)), Is (.int .i64 (100000 : Int)), Is (.int .i64 (100001 : Int)), Is (.int .i64 (x : Int)), Is (.int .i64 ((s : Int) + 1 + (x : Int))), Is (.slice (some ⟨b, o, none⟩) L.length c), Is (.int .i64 (i : Int)), Is (.pointer (some ⟨b, o + i * 4, none⟩)), Is (.pointer (some ⟨b, o + i * 4 + 3, none⟩)), Is (.slice p.2.vA p.1.val.length p.2.vc), Is (.int .i64 (p.1.val.length : Int)), Is (.int .i64 (100000 : Int)), Is (.int .i64 (100001 : Int)), Is (.int .i64 (y : Int)), Is (.int .i64 ((s : Int) + 1 + (x : Int) + (y : Int))), Is (.int .i64 ((s : Int) + 1 + (x : Int) + (y : Int)))] (by kernel_rfl) (by kernel_rfl) ?mono (fun f1 => ?obl) ?fin
        case mono =>
          simp only [List.forall_mem_cons, List.not_mem_nil, false_imp_iff, implies_true, and_true]
          exact ⟨.is _, .is _, .is _, .is _, .is _, .is _, .is _, .is _, .is _, .is _, .is _, .is _, .is _, .is _, .is _, .is _, .is _, .is _, .is _, .is _, .is _, .is _, .is _⟩
        case fin =>
          intro g1 u hu hg
          simp only [puts, Act.put, zq1, zq2, zq3]
          have h22 : g1 22 = .int .i64 ((s : Int) + 1 + (x : Int) + (y : Int)) := hg 22 (by decide)
          rw [h22]
          have HXU : Hid (Ext w u) := Ext.trans HX.out (Ext.trans (Ext.drew wr) hu)
          have hL := HL.out
          clear h22 hg hu c0 c3
          go_wp2_with fail
          go_roundw
          case rel =>
            have hxy := HXY.out
            have hs1 := HS1.out
            refine ⟨s + 1 + x + y, i + 1, by simp, by go_num, by omega, by omega, Lib.hid fun hle => ?_, HXU⟩
            obtain ⟨h1, h2⟩ := HR.out hs1
            refine ⟨by omega, fun q hq => ?_⟩
            rw [List.take_succ_eq_append_getElem hlt, List.mem_append, List.mem_singleton] at hq
            rcases hq with hq | hq
            · have := h2 q hq; omega
            · have hpe : q = p := by rw [hq]; exact (List.getElem?_eq_some_iff.1 HP.out).2
              subst hpe
              omega
          case measure => simp [intOf]; omega
        case obl =>
          refine ⟨fun u hu hd => ?_, ?_⟩
          · go_simp
            exact ⟨Ext.refl _, rfl⟩
          refine ⟨fun u hu hd => ?_, ?_⟩
          · simp only [Act.put, zq1, zq2, zq3]
            have e0 : f1 0 = .int .i64 (s : Int) := hd 0 (by kernel_rfl)
            have q : IntKind.i64.wrap ((s : Int) + 1) = (s : Int) + 1 := by rw [IntKind.wrap_i64]; omega
            go_simp
            exact ⟨Ext.refl _, rfl⟩
          refine ⟨fun u hu hd => ?_, ?_⟩
          · simp only [Act.put, zq1, zq2, zq3]
            go_simp
            exact ⟨Ext.refl _, rfl⟩
          refine ⟨fun u hu hd => ?_, ?_⟩
          · simp only [Act.put, zq1, zq2, zq3]
            go_simp
            exact ⟨Ext.refl _, rfl⟩
          refine ⟨fun u hu hd => ?_, ?_⟩
          · simp only [Act.put, zq1, zq2, zq3]
            have e2 : f1 2 = .slice (some ⟨b, o, none⟩) L.length c := hd 2 (by kernel_rfl)
            have e3 : f1 3 = .int .i64 (i : Int) := hd 3 (by kernel_rfl)
            go_simp
            exact ⟨Ext.refl _, rfl⟩
          refine ⟨fun u hu hd => ?_, ?_⟩
          · simp only [Act.put, zq1, zq2, zq3]
            have e4 : f1 4 = .pointer (some ⟨b, o + i * 4, none⟩) := hd 4 (by kernel_rfl)
            go_simp
            exact ⟨Ext.refl _, rfl⟩
          refine ⟨fun u hu hd => ?_, ?_⟩
          · simp only [Act.put, zq1, zq2, zq3]
            have e5 : f1 5 = .pointer (some ⟨b, o + i * 4, none⟩) := hd 5 (by kernel_rfl)
            have hu2 := Ext.trans (Ext.drew wr) hu
            have q0 := ext_cell hu2 c0
            go_simp
            exact ⟨Ext.refl _, rfl⟩
          refine ⟨fun u hu hd => ?_, ?_⟩
          · simp only [Act.put, zq1, zq2, zq3]
            have e6 : f1 6 = .slice p.2.kA p.1.key.length p.2.kc := hd 6 (by kernel_rfl)
            go_simp
            exact ⟨Ext.refl _, rfl⟩
          refine ⟨fun u hu hd => ?_, ?_⟩
          · simp only [Act.put, zq1, zq2, zq3]
            go_simp
            exact ⟨Ext.refl _, rfl⟩
          refine ⟨fun u hu hd => ?_, ?_⟩
          · simp only [Act.put, zq1, zq2, zq3]
            have e8 : f1 8 = .int .i64 (100000 : Int) := hd 8 (by kernel_rfl)
            go_simp
            exact ⟨Ext.refl _, rfl⟩
          refine ⟨fun u hu hd => ?_, ?_⟩
          · simp only [Act.put, zq1, zq2, zq3]
            have e7 : f1 7 = .int .i64 (p.1.key.length : Int) := hd 7 (by kernel_rfl)
            have e9 : f1 9 = .int .i64 (100001 : Int) := hd 9 (by kernel_rfl)
            have q := HMX.out
            go_simp
            exact ⟨Ext.refl _, rfl⟩
          refine ⟨fun u hu hd => ?_, ?_⟩
          · simp only [Act.put, zq1, zq2, zq3]
            have e1 : f1 1 = .int .i64 ((s : Int) + 1) := hd 1 (by kernel_rfl)
            have e10 : f1 10 = .int .i64 (x : Int) := hd 10 (by kernel_rfl)
            have q1 : x ≤ 100001 ∧ y ≤ 100001 := by have := HXY.out; omega
            have q : IntKind.i64.wrap ((s : Int) + 1 + (x : Int)) = (s : Int) + 1 + (x : Int) := by rw [IntKind.wrap_i64]; omega
            go_simp
            exact ⟨Ext.refl _, rfl⟩
          refine ⟨fun u hu hd => ?_, ?_⟩
          · simp only [Act.put, zq1, zq2, zq3]
            go_simp
            exact ⟨Ext.refl _, rfl⟩
          refine ⟨fun u hu hd => ?_, ?_⟩
          · simp only [Act.put, zq1, zq2, zq3]
            go_simp
            exact ⟨Ext.refl _, rfl⟩
          refine ⟨fun u hu hd => ?_, ?_⟩
          · simp only [Act.put, zq1, zq2, zq3]
            have e12 : f1 12 = .slice (some ⟨b, o, none⟩) L.length c := hd 12 (by kernel_rfl)
            have e13 : f1 13 = .int .i64 (i : Int) := hd 13 (by kernel_rfl)
            go_simp
            exact ⟨Ext.refl _, rfl⟩
          refine ⟨fun u hu hd => ?_, ?_⟩
          · simp only [Act.put, zq1, zq2, zq3]
            have e14 : f1 14 = .pointer (some ⟨b, o + i * 4, none⟩) := hd 14 (by kernel_rfl)
            go_simp
            exact ⟨Ext.refl _, rfl⟩
          refine ⟨fun u hu hd => ?_, ?_⟩
          · simp only [Act.put, zq1, zq2, zq3]
            have e15 : f1 15 = .pointer (some ⟨b, o + i * 4 + 3, none⟩) := hd 15 (by kernel_rfl)
            have hu2 := Ext.trans (Ext.drew wr) hu
            have q0 := ext_cell hu2 c3
            go_simp
            exact ⟨Ext.refl _, rfl⟩
          refine ⟨fun u hu hd => ?_, ?_⟩
          · simp only [Act.put, zq1, zq2, zq3]
            have e16 : f1 16 = .slice p.2.vA p.1.val.length p.2.vc := hd 16 (by kernel_rfl)
            go_simp
            exact ⟨Ext.refl _, rfl⟩
          refine ⟨fun u hu hd => ?_, ?_⟩
          · simp only [Act.put, zq1, zq2, zq3]
            go_simp
            exact ⟨Ext.refl _, rfl⟩
          refine ⟨fun u hu hd => ?_, ?_⟩
          · simp only [Act.put, zq1, zq2, zq3]
            have e18 : f1 18 = .int .i64 (100000 : Int) := hd 18 (by kernel_rfl)
            go_simp
            exact ⟨Ext.refl _, rfl⟩
          refine ⟨fun u hu hd => ?_, ?_⟩
          · simp only [Act.put, zq1, zq2, zq3]
            have e17 : f1 17 = .int .i64 (p.1.val.length : Int) := hd 17 (by kernel_rfl)
            have e19 : f1 19 = .int .i64 (100001 : Int) := hd 19 (by kernel_rfl)
            have q := HMY.out
            go_simp
            exact ⟨Ext.refl _, rfl⟩
          refine ⟨fun u hu hd => ?_, ?_⟩
          · simp only [Act.put, zq1, zq2, zq3]
            have e11 : f1 11 = .int .i64 ((s : Int) + 1 + (x : Int)) := hd 11 (by kernel_rfl)
            have e20 : f1 20 = .int .i64 (y : Int) := hd 20 (by kernel_rfl)
            have q1 : x ≤ 100001 ∧ y ≤ 100001 := by have := HXY.out; omega
            have q : IntKind.i64.wrap ((s : Int) + 1 + (x : Int) + (y : Int)) = (s : Int) + 1 + (x : Int) + (y : Int) := by rw [IntKind.wrap_i64]; omega
            go_simp
            exact ⟨Ext.refl _, rfl⟩
          refine ⟨fun u hu hd => ?_, ?_⟩
          · simp only [Act.put, zq1, zq2, zq3]
            have e21 : f1 21 = .int .i64 ((s : Int) + 1 + (x : Int) + (y : Int)) := hd 21 (by kernel_rfl)
            go_simp
            exact ⟨Ext.refl _, rfl⟩
          trivial
      · have t : decide ((s : Int) ≤ 100000) = false := decide_eq_false (by omega)
        have tn : decide (s ≤ 100000) = false := decide_eq_false hs1
        have t2 : decide ((100000 : Int) < (s : Int)) = true := decide_eq_true (by omega)
        have t2n : decide (100000 < s) = true := decide_eq_true (by omega)
        clear hs1 hlt hm hs
        go_wp2_with fail
        go_ret
        exact ⟨true, fun h => (by cases h), rfl, HX.out⟩
    · have d : decide ((i : Int) < (L.length : Int)) = false := decide_eq_false (by omega)
      have dn : decide (i < L.length) = false := decide_eq_false hlt
      have HI : Hid (i = L.length) := by unfold Hid; omega
      by_cases hs1 : s ≤ 100000
      · have t2 : decide ((100000 : Int) < (s : Int)) = false := decide_eq_false (by omega)
        have t2n : decide (100000 < s) = false := decide_eq_false (by omega)
        have HS1 := Lib.hid hs1
        clear hs1 hlt hm hs
        go_wp2_with fail
        go_ret
        refine ⟨false, fun _ => ?_, rfl, HX.out⟩
        obtain ⟨h1, h2⟩ := HR.out HS1.out
        have h3 := HI.out
        have h4 := HS1.out
        rw [h3, List.take_length] at h2
        exact ⟨by omega, fun p hp => by have := h2 p hp; omega⟩
      · have t2 : decide ((100000 : Int) < (s : Int)) = true := decide_eq_true (by omega)
        have t2n : decide (100000 < s) = true := decide_eq_true (by omega)
        clear hs1 hlt hm hs
        go_wp2_with fail
        go_ret
        exact ⟨true, fun h => (by cases h), rfl, HX.out⟩
set_option maxRecDepth 100000 in
set_option maxHeartbeats 4000000 in
theorem rsamelist_any {w : World} {lo hi lo2 hi2 : Nat} {A B : Option Addr} {c c2 : Nat} {L M : List (Ent × Hd)} (h : Es w lo hi A L) (k : Es w lo2 hi2 B M) (hhi : hi ≤ w.heap.size) (hhi2 : hi2 ≤ w.heap.size) (hlen : L.length ≤ 1000000000000) (hlen2 : M.length ≤ 1000000000000) :
    Calls Tryz.prog 13 #[.slice A L.length c, .slice B M.length c2] w fun x w' => ∃ z : Bool, (z = true ↔ L.map Prod.fst = M.map Prod.fst) ∧ x = .returned (.bool z) ∧ Ext w w' := by
  have HE := Lib.hid h
  have HF := Lib.hid k
  have HHI := Lib.hid (And.intro hhi hhi2)
  have HL := Lib.hid (And.intro hlen hlen2)
  clear h k hhi hhi2 hlen hlen2
  by_cases hne : L.length = M.length
  · have e1 : ((L.length : Int) != (M.length : Int)) = false := by rw [hne]; simp
    have e1n : (L.length != M.length) = false := by rw [hne]; simp
    have HN := Lib.hid hne
    clear hne
    go_enter Tryz.func13, Tryz.ntmps13
    go_wp2_with fail
    go_loopw [5] (fun a wr => ∃ i : Nat, a = .int .i64 (i : Int) ∧ i ≤ L.length ∧ Hid ((L.map Prod.fst).take i = (M.map Prod.fst).take i) ∧ Hid (Ext w wr)) (fun a _ => L.length - (intOf a).toNat)
    case atStart => exact ⟨0, rfl, by omega, by simp [Hid], Lib.hid (Ext.refl _)⟩
    case round =>
      obtain ⟨i, rfl, hm, HR, HX⟩ := hrel
      by_cases hlt : i < L.length
      · have d : decide ((i : Int) < (L.length : Int)) = true := decide_eq_true (by omega)
        have dn : decide (i < L.length) = true := decide_eq_true hlt
        have hlt2 : i < M.length := by have := HN.out; omega
        obtain ⟨b, o, hA⟩ := HE.out.base (by omega)
        subst hA
        obtain ⟨b2, o2, hB⟩ := HF.out.base (by omega)
        subst hB
        obtain ⟨p, hp⟩ : ∃ p, L[i]? = some p := ⟨_, List.getElem?_eq_getElem hlt⟩
        obtain ⟨q, hq⟩ : ∃ q, M[i]? = some q := ⟨_, List.getElem?_eq_getElem hlt2⟩
        obtain ⟨c0, c1, c2', c3⟩ := (HE.out.below HX.out HHI.out.1).get hp
        obtain ⟨d0, d1, d2, d3⟩ := (HF.out.below HX.out HHI.out.2).get hq
        have HWW : Hid (∀ u, Ext wr u → Em u lo hi p.1 p.2 ∧ Em u lo2 hi2 q.1 q.2 ∧ hi ≤ u.heap.size ∧ hi2 ≤ u.heap.size) := fun u hu => by
          have hx := Ext.trans HX.out hu
          have hs := hx.size
          exact ⟨(HE.out.below hx HHI.out.1).each p (List.mem_of_getElem? hp), (HF.out.below hx HHI.out.2).each q (List.mem_of_getElem? hq), Nat.le_trans HHI.out.1 hs, Nat.le_trans HHI.out.2 hs⟩
        have HP := Lib.hid (And.intro hp hq)
        obtain ⟨z, hz⟩ : ∃ z : Bool, (z = true ↔ p.1 = q.1) := by
          by_cases e : p.1 = q.1
          · exact ⟨true, by simp [e]⟩
          · exact ⟨false, by simp [e]⟩
        have HZ := Lib.hid hz
        have n1 : (0 : Int) ≤ (i : Int) := by omega
        have n2 : (i : Int) < (L.length : Int) := by omega
        have n3 : (i : Int) < (M.length : Int) := by omega
        clear hp hq hz
        go_upto_region 6 with (fail)
        refine flow (by kernel_rfl) [Is (.slice (some ⟨b, o, none⟩) L.length c), Is (.int .i64 (i : Int)), Is (.pointer (some ⟨b, o + i * 4, none⟩)), Is (.agg #[.slice p.2.kA p.1.key.length p.2.kc, .int .i64 p.1.seq, .int .i64 p.1.kind, .slice p.2.vA p.1.val.length p.2.vc]), Is (.slice (some ⟨b2, o2, none⟩) M.length c2), Is (.int .i64 (i : Int)), Is (.pointer (some ⟨b2, o2 + i * 4, none⟩)), Is (.agg #[.slice q.2.kA q.1.key.length q.2.kc, .int .i64 q.1.seq, .int .i64 q.1.kind, .slice q.2.vA q.1.val.length q.2.vc]), Is (.bool z), Is (.bool (!z))] (by kernel_rfl) (by kernel_rfl) ?mono (fun f1 => ?obl) ?fin
        case mono =>
          simp only [List.forall_mem_cons, List.not_mem_nil, false_imp_iff, implies_true, and_true]
          exact ⟨.is _, .is _, .is _, .is _, .is _, .is _, .is _, .is _, .is _, .is _⟩
        case fin =>
          intro g1 u hu hg
          simp only [puts, Act.put, zq1, zq2, zq3]
          have h9 : g1 9 = .bool (!z) := hg 9 (by decide)
          rw [h9]
          have HXU : Hid (Ext w u) := Ext.trans HX.out (Ext.trans (Ext.drew wr) hu)
          clear h9 hg hu c0 c1 c2' c3 d0 d1 d2 d3
          have hL := HL.out.1
          cases z with
          | false =>
            go_wp2_with fail
            go_ret
            refine ⟨false, ⟨fun h => (by cases h), fun h => ?_⟩, rfl, HXU.out⟩
            have h1 := congrArg (fun l => l[i]?) h
            simp only [List.getElem?_map, HP.out.1, HP.out.2, Option.map_some, Option.some.injEq] at h1
            exact (HZ.out.2 h1)
          | true =>
            go_wp2_with fail
            go_roundw
            case rel => exact ⟨i + 1, by go_num, by omega, Lib.hid (by
              have e1 : i < (L.map Prod.fst).length := by rw [List.length_map]; omega
              have e2 : i < (M.map Prod.fst).length := by rw [List.length_map]; omega
              rw [List.take_succ_eq_append_getElem e1, List.take_succ_eq_append_getElem e2, HR.out]
              have h1 := (List.getElem?_eq_some_iff.1 HP.out.1).2
              have h2 := (List.getElem?_eq_some_iff.1 HP.out.2).2
              simp only [List.getElem_map, h1, h2, HZ.out.1 rfl]), HXU⟩
            case measure => simp [intOf]; omega
        case obl =>
          refine ⟨fun u hu hd => ?_, ?_⟩
          · go_simp
            exact ⟨Ext.refl _, rfl⟩
          refine ⟨fun u hu hd => ?_, ?_⟩
          · simp only [Act.put, zq1, zq2, zq3]
            go_simp
            exact ⟨Ext.refl _, rfl⟩
          refine ⟨fun u hu hd => ?_, ?_⟩
          · simp only [Act.put, zq1, zq2, zq3]
            have e0 : f1 0 = .slice (some ⟨b, o, none⟩) L.length c := hd 0 (by kernel_rfl)
            have e1 : f1 1 = .int .i64 (i : Int) := hd 1 (by kernel_rfl)
            go_simp
            exact ⟨Ext.refl _, rfl⟩
          refine ⟨fun u hu hd => ?_, ?_⟩
          · simp only [Act.put, zq1, zq2, zq3]
            have e2 : f1 2 = .pointer (some ⟨b, o + i * 4, none⟩) := hd 2 (by kernel_rfl)
            have hu2 := Ext.trans (Ext.drew wr) hu
            have q0 := ext_cell hu2 c0
            have q1 := ext_cell hu2 c1
            have q2 := ext_cell hu2 c2'
            have q3 := ext_cell hu2 c3
            go_simp
            exact ⟨Ext.refl _, rfl⟩
          refine ⟨fun u hu hd => ?_, ?_⟩
          · simp only [Act.put, zq1, zq2, zq3]
            go_simp
            exact ⟨Ext.refl _, rfl⟩
          refine ⟨fun u hu hd => ?_, ?_⟩
          · simp only [Act.put, zq1, zq2, zq3]
            go_simp
            exact ⟨Ext.refl _, rfl⟩
          refine ⟨fun u hu hd => ?_, ?_⟩
          · simp only [Act.put, zq1, zq2, zq3]
            have e4 : f1 4 = .slice (some ⟨b2, o2, none⟩) M.length c2 := hd 4 (by kernel_rfl)
            have e5 : f1 5 = .int .i64 (i : Int) := hd 5 (by kernel_rfl)
            go_simp
            exact ⟨Ext.refl _, rfl⟩
          refine ⟨fun u hu hd => ?_, ?_⟩
          · simp only [Act.put, zq1, zq2, zq3]
            have e6 : f1 6 = .pointer (some ⟨b2, o2 + i * 4, none⟩) := hd 6 (by kernel_rfl)
            have hu2 := Ext.trans (Ext.drew wr) hu
            have q0 := ext_cell hu2 d0
            have q1 := ext_cell hu2 d1
            have q2 := ext_cell hu2 d2
            have q3 := ext_cell hu2 d3
            go_simp
            exact ⟨Ext.refl _, rfl⟩
          refine ⟨fun u hu hd => ?_, ?_⟩
          · simp only [Act.put, zq1, zq2, zq3]
            have e3 : f1 3 = .agg #[.slice p.2.kA p.1.key.length p.2.kc, .int .i64 p.1.seq, .int .i64 p.1.kind, .slice p.2.vA p.1.val.length p.2.vc] := hd 3 (by kernel_rfl)
            have e7 : f1 7 = .agg #[.slice q.2.kA q.1.key.length q.2.kc, .int .i64 q.1.seq, .int .i64 q.1.kind, .slice q.2.vA q.1.val.length q.2.vc] := hd 7 (by kernel_rfl)
            have hu2 := Ext.trans (Ext.drew wr) hu
            obtain ⟨m1, m2, m3, m4⟩ := HWW.out u hu2
            go_simp
            refine (rsame_any m1 m2 m3 m4).mono ?_
            rintro x w9 ⟨z', hz', rfl, hx9⟩
            have : z' = z := by rw [Bool.eq_iff_iff, hz', HZ.out]
            subst this
            exact ⟨_, rfl, hx9, rfl⟩
          refine ⟨fun u hu hd => ?_, ?_⟩
          · simp only [Act.put, zq1, zq2, zq3]
            have e8 : f1 8 = .bool z := hd 8 (by kernel_rfl)
            go_simp
            exact ⟨Ext.refl _, rfl⟩
          trivial
      · have d : decide ((i : Int) < (L.length : Int)) = false := decide_eq_false (by omega)
        have dn : decide (i < L.length) = false := decide_eq_false hlt
        have HM : Hid (L.map Prod.fst = M.map Prod.fst) := by
          have h := HR.out
          rw [List.take_of_length_le (by rw [List.length_map]; omega), List.take_of_length_le (by rw [List.length_map, ← HN.out]; omega)] at h
          exact h
        clear hlt hm
        go_wp2_with fail
        go_ret
        exact ⟨true, ⟨fun _ => HM.out, fun _ => rfl⟩, rfl, HX.out⟩
  · have e1 : ((L.length : Int) != (M.length : Int)) = true := by simp; omega
    have e1n : (L.length != M.length) = true := by simpa using hne
    have HN := Lib.hid hne
    clear hne
    go_enter Tryz.func13, Tryz.ntmps13
    go_wp2_with fail
    go_ret
    exact ⟨false, ⟨fun h => (by cases h), fun h => absurd (by have := congrArg List.length h; simpa using this) HN.out⟩, rfl, Ext.refl _⟩
end Go.Proofs.YthhgjeeangepaaaGreat
namespace Go.Proofs.YthhgjeeangepaaaGreat
def be4 (n : Nat) : List Nat := [n / 16777216 % 256, n / 65536 % 256, n / 256 % 256, n % 256]
def num4 (l : List Nat) : Nat := l.foldl (fun n c => n * 256 + c) 0
theorem be4_length (n : Nat) : (be4 n).length = 4 := rfl
theorem be4_lt (n : Nat) : ∀ c ∈ be4 n, c < 256 := by
  intro c hc
  simp only [be4, List.mem_cons, List.not_mem_nil, or_false] at hc
  rcases hc with rfl | rfl | rfl | rfl <;> omega
theorem num4_be4 {n : Nat} (h : n < 4294967296) : num4 (be4 n) = n := by
  simp only [num4, be4, List.foldl]; omega
theorem list4 {l : List Nat} (h : l.length = 4) : ∃ a b c d, l = [a, b, c, d] := by
  match l, h with
  | [a, b, c, d], _ => exact ⟨a, b, c, d, rfl⟩
theorem num4_lt {l : List Nat} (h : l.length = 4) (hb : ∀ c ∈ l, c < 256) : num4 l < 4294967296 := by
  obtain ⟨a, b, c, d, rfl⟩ := list4 h
  have ha := hb a (by simp)
  have hb' := hb b (by simp)
  have hc := hb c (by simp)
  have hd := hb d (by simp)
  simp only [num4, List.foldl]; omega
def shr : List Nat → List Nat → Nat
  | a :: l, b :: r => if a = b then shr l r + 1 else 0
  | _, _ => 0
theorem shr_nil (b : List Nat) : shr [] b = 0 := by cases b <;> rfl
theorem shr_le_l : ∀ (a b : List Nat), shr a b ≤ a.length
  | [], b => by rw [shr_nil]; exact Nat.zero_le _
  | _ :: _, [] => Nat.zero_le _
  | x :: l, y :: r => by
    unfold shr
    split
    · have := shr_le_l l r; simp only [List.length_cons]; omega
    · omega
theorem shr_le_r : ∀ (a b : List Nat), shr a b ≤ b.length
  | [], b => by rw [shr_nil]; exact Nat.zero_le _
  | _ :: _, [] => Nat.zero_le _
  | x :: l, y :: r => by
    unfold shr
    split
    · have := shr_le_r l r; simp only [List.length_cons]; omega
    · omega
theorem shr_take : ∀ (a b : List Nat), a.take (shr a b) = b.take (shr a b)
  | [], b => by rw [shr_nil]; rfl
  | _ :: _, [] => rfl
  | x :: l, y :: r => by
    unfold shr
    split
    · rename_i h
      rw [List.take_succ_cons, List.take_succ_cons, h, shr_take l r]
    · rfl
theorem shr_is : ∀ {a b : List Nat} {n : Nat}, n ≤ a.length → n ≤ b.length → a.take n = b.take n → (∀ x y, a[n]? = some x → b[n]? = some y → x ≠ y) → shr a b = n
  | [], b, n, h1, _, _, _ => by rw [shr_nil]; simp at h1; omega
  | _ :: _, [], n, _, h2, _, _ => by simp at h2; subst h2; rfl
  | x :: l, y :: r, n, h1, h2, h3, h4 => by
    unfold shr
    cases n with
    | zero =>
      have := h4 x y rfl rfl
      rw [if_neg this]
    | succ n =>
      rw [List.take_succ_cons, List.take_succ_cons] at h3
      injection h3 with h3 h5
      rw [if_pos h3, shr_is (n := n) (by simpa using h1) (by simpa using h2) h5 (fun u v hu hv => h4 u v (by simpa using hu) (by simpa using hv))]
def kform (ah : List Nat) (e : Ent) : List Nat :=
  form (shr ah e.key) ++ (bytesForm (e.key.drop (shr ah e.key)) ++ (form e.seq.toNat ++ (form e.kind.toNat ++ (if e.kind = 1 then bytesForm e.val else []))))
theorem kform_pos (ah : List Nat) (e : Ent) : 0 < (kform ah e).length := by
  have := form_pos (shr ah e.key)
  unfold kform
  rw [List.length_append]; omega
theorem kform_len {ah : List Nat} {e : Ent} (h : e.may = true) : (kform ah e).length ≤ 65700 := by
  obtain ⟨u1, u2, u3, u4⟩ := Ent.may_u64 h
  obtain ⟨h1, h2, h3, h4, h5⟩ := mayN_iff.1 h
  have hs := shr_le_r ah e.key
  have a0 := form_len64 (n := shr ah e.key) ⟨by omega⟩
  have hd : (e.key.drop (shr ah e.key)).length ≤ 32 := by rw [List.length_drop]; omega
  have a1 := (bytesForm_len (l := e.key.drop (shr ah e.key)) ⟨by omega⟩).1
  have a2 := form_len64 u2
  have a3 := form_len64 u3
  have a4 := (bytesForm_len u4).1
  unfold kform
  split <;> simp only [List.length_append, List.length_nil] <;> rcases h5 with ⟨h5, h6⟩ | ⟨h5, h6⟩ <;> omega
theorem kform_lt {ah : List Nat} {e : Ent} (hk : ∀ x ∈ e.key, x < 256) (hv : ∀ x ∈ e.val, x < 256) : ∀ x ∈ kform ah e, x < 256 := by
  intro x hx
  unfold kform bytesForm at hx
  simp only [List.mem_append] at hx
  rcases hx with hx | (hx | hx) | hx | hx | hx
  · exact form_bytes _ x hx
  · exact form_bytes _ x hx
  · exact hk x (List.mem_of_mem_drop hx)
  · exact form_bytes _ x hx
  · exact form_bytes _ x hx
  · split at hx
    · rcases List.mem_append.1 hx with hx | hx
      · exact form_bytes _ x hx
      · exact hv x hx
    · cases hx
def ahOf (L : List Ent) (i : Nat) : List Nat := if i % 4 = 0 then [] else ((L[i - 1]?).map Ent.key).getD []
def pieceOf (L : List Ent) (i : Nat) : List Nat := ((L[i]?).map (kform (ahOf L i))).getD []
def upto (L : List Ent) (k : Nat) : List Nat := (List.range k).flatMap (pieceOf L)
def fromK (L : List Ent) (k : Nat) : List Nat := (List.range (L.length - k)).flatMap fun i => pieceOf L (k + i)
def ats (L : List Ent) (k : Nat) : List Nat := ((List.range k).filter fun i => i % 4 = 0).map fun i => (upto L i).length
def wr (L : List Ent) : List Nat := upto L L.length ++ ((ats L L.length).flatMap be4 ++ be4 (ats L L.length).length)
def MayB (L : List Ent) : Prop := 1 ≤ L.length ∧ L.length ≤ 1024 ∧ Rise L ∧ ∀ e ∈ L, e.may = true
theorem upto_zero (L : List Ent) : upto L 0 = [] := rfl
theorem upto_succ (L : List Ent) (k : Nat) : upto L (k + 1) = upto L k ++ pieceOf L k := by
  unfold upto
  rw [List.range_succ, List.flatMap_append]; simp
theorem piece_at {L : List Ent} {k : Nat} {e : Ent} (h : L[k]? = some e) : pieceOf L k = kform (ahOf L k) e := by unfold pieceOf; rw [h]; rfl
theorem fromK_at {L : List Ent} {k : Nat} (h : k < L.length) : fromK L k = pieceOf L k ++ fromK L (k + 1) := by
  unfold fromK
  have e1 : L.length - k = (L.length - (k + 1)) + 1 := by omega
  rw [e1, List.range_succ_eq_map, List.flatMap_cons, List.flatMap_map]
  congr 1
  refine congrArg (fun f => List.flatMap f _) ?_
  funext i
  show pieceOf L (k + (i + 1)) = _
  congr 1; omega
theorem fromK_end (L : List Ent) {k : Nat} (h : L.length ≤ k) : fromK L k = [] := by
  unfold fromK
  rw [show L.length - k = 0 by omega]; rfl
theorem fromK_zero (L : List Ent) : fromK L 0 = upto L L.length := by
  unfold fromK upto
  rw [Nat.sub_zero]
  refine congrArg (fun f => List.flatMap f _) ?_
  funext i
  rw [Nat.zero_add]
theorem ats_zero (L : List Ent) : ats L 0 = [] := rfl
theorem ats_hit (L : List Ent) {k : Nat} (h : k % 4 = 0) : ats L (k + 1) = ats L k ++ [(upto L k).length] := by
  unfold ats
  rw [List.range_succ, List.filter_append, List.map_append]
  simp [h]
theorem ats_miss (L : List Ent) {k : Nat} (h : k % 4 ≠ 0) : ats L (k + 1) = ats L k := by
  unfold ats
  rw [List.range_succ, List.filter_append, List.map_append]
  simp [h]
theorem ats_len (L : List Ent) (k : Nat) : (ats L k).length = (k + 3) / 4 := by
  induction k with
  | zero => rfl
  | succ k ih =>
    by_cases h : k % 4 = 0
    · rw [ats_hit L h, List.length_append, ih, List.length_singleton]; omega
    · rw [ats_miss L h, ih]; omega
theorem ats_get (L : List Ent) (k j : Nat) (h : 4 * j < k) : (ats L k)[j]? = some (upto L (4 * j)).length := by
  induction k with
  | zero => omega
  | succ k ih =>
    have hl := ats_len L k
    by_cases hk : k % 4 = 0
    · rw [ats_hit L hk]
      by_cases h1 : 4 * j < k
      · rw [List.getElem?_append_left (by omega)]; exact ih h1
      · have : k = 4 * j := by omega
        subst this
        rw [List.getElem?_append_right (by omega), hl, show j - (4 * j + 3) / 4 = 0 by omega]; rfl
    · rw [ats_miss L hk]; exact ih (by omega)
theorem upto_le {L : List Ent} (hm : ∀ e ∈ L, e.may = true) (k : Nat) : (upto L k).length ≤ 65700 * k := by
  induction k with
  | zero => simp [upto_zero]
  | succ k ih =>
    rw [upto_succ, List.length_append]
    have : (pieceOf L k).length ≤ 65700 := by
      cases h : L[k]? with
      | none => unfold pieceOf; rw [h]; simp
      | some e => rw [piece_at h]; exact kform_len (hm e (List.mem_of_getElem? h))
    omega
theorem ats_lt {L : List Ent} (hm : ∀ e ∈ L, e.may = true) (hl : L.length ≤ 1024) : ∀ x ∈ ats L L.length, x < 4294967296 := by
  intro x hx
  unfold ats at hx
  simp only [List.mem_map, List.mem_filter, List.mem_range] at hx
  obtain ⟨i, ⟨hi, _⟩, rfl⟩ := hx
  have := upto_le hm i
  omega
theorem flat4_len (l : List Nat) : (l.flatMap be4).length = 4 * l.length := by
  induction l with
  | nil => rfl
  | cons a l ih => rw [List.flatMap_cons, List.length_append, ih, be4_length, List.length_cons]; omega
theorem wr_len (L : List Ent) : (wr L).length = (upto L L.length).length + 4 * (ats L L.length).length + 4 := by
  unfold wr
  rw [List.length_append, List.length_append, flat4_len, be4_length]; omega
theorem upto_lt {L : List Ent} (hb : ∀ e ∈ L, (∀ x ∈ e.key, x < 256) ∧ ∀ x ∈ e.val, x < 256) (k : Nat) : ∀ x ∈ upto L k, x < 256 := by
  induction k with
  | zero => intro x hx; cases hx
  | succ k ih =>
    intro x hx
    rw [upto_succ] at hx
    rcases List.mem_append.1 hx with hx | hx
    · exact ih x hx
    · cases h : L[k]? with
      | none => unfold pieceOf at hx; rw [h] at hx; cases hx
      | some e => rw [piece_at h] at hx; exact kform_lt (hb e (List.mem_of_getElem? h)).1 (hb e (List.mem_of_getElem? h)).2 x hx
def Stands (ah l : List Nat) (e : Ent) (rest : List Nat) : Prop :=
  e.may = true ∧ ∃ n, n ≤ ah.length ∧ n ≤ e.key.length ∧ ah.take n = e.key.take n ∧
    l = form n ++ (bytesForm (e.key.drop n) ++ (form e.seq.toNat ++ (form e.kind.toNat ++ ((if e.kind = 1 then bytesForm e.val else []) ++ rest))))
theorem stands_kform {ah : List Nat} {e : Ent} (h : e.may = true) (rest : List Nat) : Stands ah (kform ah e ++ rest) e rest := by
  refine ⟨h, shr ah e.key, shr_le_l _ _, shr_le_r _ _, shr_take _ _, ?_⟩
  unfold kform
  simp only [List.append_assoc]
def BodyIs (L : List Ent) (bd : List Nat) : Prop := MayB L ∧ upto L L.length = bd
structure Ahead (bd : List Nat) (k : Nat) (ah l : List Nat) : Prop where
  is : ∀ L, BodyIs L bd → k ≤ L.length ∧ l = fromK L k ∧ (0 < k → ∃ p, L[k - 1]? = some p ∧ ah = p.key) ∧ (k = 0 → ah = [])
theorem Ahead.start (bd : List Nat) : Ahead bd 0 [] bd := ⟨fun L h => ⟨Nat.zero_le _, by rw [fromK_zero]; exact h.2.symm, fun h => absurd h (by omega), fun _ => rfl⟩⟩
theorem Ahead.stands {bd : List Nat} {k : Nat} {ah l : List Nat} (h : Ahead bd k ah l) {L : List Ent} (hL : BodyIs L bd) (hl : l ≠ []) : ∃ e, L[k]? = some e ∧ Stands ah l e (fromK L (k + 1)) := by
  obtain ⟨h1, h2, h3, h4⟩ := h.is L hL
  have hk : k < L.length := by
    rcases Nat.lt_or_ge k L.length with h | h
    · exact h
    · exact absurd (h2.trans (fromK_end L h)) hl
  refine ⟨L[k], List.getElem?_eq_getElem hk, ?_⟩
  rw [h2, fromK_at hk, piece_at (List.getElem?_eq_getElem hk)]
  have hm : L[k].may = true := hL.1.2.2.2 _ (List.getElem_mem hk)
  by_cases h0 : k % 4 = 0
  · unfold ahOf
    rw [if_pos h0]
    refine ⟨hm, 0, Nat.zero_le _, Nat.zero_le _, rfl, ?_⟩
    unfold kform
    rw [shr_nil]
    simp only [List.append_assoc]
  · have hk0 : 0 < k := by omega
    obtain ⟨p, hp, ha⟩ := h3 hk0
    unfold ahOf
    rw [if_neg h0, hp, ha]
    exact stands_kform hm _
theorem Ahead.ends {bd : List Nat} {k : Nat} {ah : List Nat} (h : Ahead bd k ah []) {L : List Ent} (hL : BodyIs L bd) : L.length = k := by
  obtain ⟨h1, h2, h3, h4⟩ := h.is L hL
  rcases Nat.lt_or_ge k L.length with hk | hk
  · rw [fromK_at hk, piece_at (List.getElem?_eq_getElem hk)] at h2
    have h5 := congrArg List.length h2
    rw [List.length_append, List.length_nil] at h5
    have := kform_pos (ahOf L k) L[k]
    omega
  · omega
theorem Ahead.next {bd : List Nat} {k : Nat} {ah l rest : List Nat} {e : Ent} (h : Ahead bd k ah l) (hl : l ≠ []) (hn : ∀ e' rest', Stands ah l e' rest' → e' = e ∧ rest' = rest) :
    Ahead bd (k + 1) e.key rest ∧ ∀ L, BodyIs L bd → L[k]? = some e := by
  have hh : ∀ L, BodyIs L bd → L[k]? = some e ∧ rest = fromK L (k + 1) := fun L hL => by
    obtain ⟨e', he', hs⟩ := h.stands hL hl
    obtain ⟨rfl, e2⟩ := hn _ _ hs
    exact ⟨he', e2.symm⟩
  refine ⟨⟨fun L hL => ⟨?_, (hh L hL).2, fun _ => ⟨e, by simpa using (hh L hL).1, rfl⟩, fun h => absurd h (by omega)⟩⟩, fun L hL => (hh L hL).1⟩
  have := (List.getElem?_eq_some_iff.1 (hh L hL).1).1
  omega
theorem Stands.unique {ah l : List Nat} {e e' : Ent} {rest rest' : List Nat} (h : Stands ah l e rest) (h' : Stands ah l e' rest') : e = e' ∧ rest = rest' := by
  obtain ⟨hm, n, a1, a2, a3, a4⟩ := h
  obtain ⟨hm', n', b1, b2, b3, b4⟩ := h'
  obtain ⟨u1, u2, u3, u4⟩ := Ent.may_u64 hm
  obtain ⟨v1, v2, v3, v4⟩ := Ent.may_u64 hm'
  have hh := a4.symm.trans b4
  have un : U64 n := ⟨Nat.lt_of_le_of_lt a2 u1.lt⟩
  have un' : U64 n' := ⟨Nat.lt_of_le_of_lt b2 v1.lt⟩
  obtain ⟨rfl, hh⟩ := form_cut un un' hh
  have ud : U64 (e.key.drop n).length := ⟨by rw [List.length_drop]; have := u1.lt; omega⟩
  have ud' : U64 (e'.key.drop n).length := ⟨by rw [List.length_drop]; have := v1.lt; omega⟩
  obtain ⟨e1, hh⟩ := bytesForm_cut ud ud' hh
  obtain ⟨e2, hh⟩ := form_cut u2 v2 hh
  obtain ⟨e3, hh⟩ := form_cut u3 v3 hh
  obtain ⟨c1, c2, c3, c4, c5⟩ := mayN_iff.1 hm
  obtain ⟨d1, d2, d3, d4, d5⟩ := mayN_iff.1 hm'
  have k0 : e.kind = e'.kind := by rcases c5 with ⟨a, _⟩ | ⟨a, _⟩ <;> rcases d5 with ⟨b, _⟩ | ⟨b, _⟩ <;> omega
  have s0 : e.seq = e'.seq := by omega
  have key0 : e.key = e'.key := by
    rw [← List.take_append_drop n e.key, ← List.take_append_drop n e'.key, e1, ← a3, ← b3]
  rcases c5 with ⟨a, _⟩ | ⟨a, an⟩
  · rw [if_pos a, if_pos (k0.symm.trans a)] at hh
    obtain ⟨e4, e5⟩ := bytesForm_cut u4 v4 hh
    refine ⟨?_, e5⟩
    cases e; cases e'; simp_all
  · have hk2 : ¬ e.kind = 1 := by omega
    have hk2' : ¬ e'.kind = 1 := by omega
    rw [if_neg hk2, if_neg hk2'] at hh
    have v0 : e.val = e'.val := by
      rcases d5 with ⟨b, _⟩ | ⟨b, bn⟩
      · omega
      · rw [List.eq_nil_of_length_eq_zero an, List.eq_nil_of_length_eq_zero bn]
    refine ⟨?_, by simpa using hh⟩
    cases e; cases e'; simp_all
theorem body_unique_at {bd : List Nat} {L M : List Ent} (h : BodyIs L bd) (k : BodyIs M bd) : ∀ n, n ≤ L.length → n ≤ M.length ∧ L.take n = M.take n ∧ fromK L n = fromK M n := by
  intro n
  induction n with
  | zero => intro _; exact ⟨Nat.zero_le _, rfl, by rw [fromK_zero, fromK_zero, h.2, k.2]⟩
  | succ n ih =>
    intro hn
    obtain ⟨h1, h2, h3⟩ := ih (by omega)
    have hA : Ahead bd n (if n = 0 then [] else ((L[n - 1]?).map Ent.key).getD []) (fromK L n) → True := fun _ => trivial
    have hk : n < L.length := by omega
    have hm : n < M.length := by
      rcases Nat.lt_or_ge n M.length with hx | hx
      · exact hx
      · rw [fromK_end M hx, fromK_at hk, piece_at (List.getElem?_eq_getElem hk)] at h3
        have h5 := congrArg List.length h3
        rw [List.length_append, List.length_nil] at h5
        have := kform_pos (ahOf L n) L[n]
        omega
    have hah : ahOf L n = ahOf M n := by
      unfold ahOf
      split
      · rfl
      · have e1 : L[n - 1]? = (L.take n)[n - 1]? := by rw [List.getElem?_take, if_pos (by omega)]
        have e2 : M[n - 1]? = (M.take n)[n - 1]? := by rw [List.getElem?_take, if_pos (by omega)]
        rw [e1, e2, h2]
    have h4 := h3
    rw [fromK_at hk, fromK_at hm, piece_at (List.getElem?_eq_getElem hk), piece_at (List.getElem?_eq_getElem hm), hah] at h4
    have s1 := stands_kform (ah := ahOf M n) (h.1.2.2.2 _ (List.getElem_mem hk)) (fromK L (n + 1))
    have s2 := stands_kform (ah := ahOf M n) (k.1.2.2.2 _ (List.getElem_mem hm)) (fromK M (n + 1))
    rw [h4] at s1
    obtain ⟨e1, e2⟩ := s1.unique s2
    refine ⟨hm, ?_, e2⟩
    rw [List.take_add_one, List.take_add_one, h2, List.getElem?_eq_getElem hk, List.getElem?_eq_getElem hm, e1]
theorem body_unique {bd : List Nat} {L M : List Ent} (h : BodyIs L bd) (k : BodyIs M bd) : L = M := by
  obtain ⟨h1, h2, _⟩ := body_unique_at h k L.length (Nat.le_refl _)
  obtain ⟨k1, _, _⟩ := body_unique_at k h M.length (Nat.le_refl _)
  have e : L.length = M.length := by omega
  rw [List.take_length, e, List.take_length] at h2
  exact h2
def IsB (b : List Nat) (L : List Ent) : Prop := MayB L ∧ wr L = b
def bodyOf (b : List Nat) : List Nat := b.take (b.length - 4 - 4 * num4 (b.drop (b.length - 4)))
theorem IsB.last {b : List Nat} {L : List Ent} (h : IsB b L) : 4 ≤ b.length ∧ b.drop (b.length - 4) = be4 (ats L L.length).length ∧ num4 (b.drop (b.length - 4)) = (L.length + 3) / 4 ∧ b.length = (upto L L.length).length + 4 * ((L.length + 3) / 4) + 4 := by
  have hl := wr_len L
  rw [h.2] at hl
  rw [ats_len] at hl
  have hd : b.drop (b.length - 4) = be4 (ats L L.length).length := by
    rw [← h.2, wr_len]
    unfold wr
    rw [← List.append_assoc, List.drop_append_of_le_length (by rw [List.length_append, flat4_len]; omega)]
    rw [List.drop_eq_nil_of_le (by rw [List.length_append, flat4_len]; omega)]; rfl
  refine ⟨by omega, hd, ?_, hl⟩
  rw [hd, ats_len]
  have := h.1.2.1
  exact num4_be4 (by omega)
theorem IsB.body {b : List Nat} {L : List Ent} (h : IsB b L) : BodyIs L (bodyOf b) := by
  obtain ⟨h1, h2, h3, h4⟩ := h.last
  refine ⟨h.1, ?_⟩
  unfold bodyOf
  rw [h3, show b.length - 4 - 4 * ((L.length + 3) / 4) = (upto L L.length).length by omega, ← h.2]
  unfold wr
  rw [List.take_append_of_le_length (Nat.le_refl _), List.take_length]
theorem IsB.unique {b : List Nat} {L M : List Ent} (h : IsB b L) (k : IsB b M) : L = M := body_unique h.body k.body
end Go.Proofs.YthhgjeeangepaaaGreat
namespace Go.Proofs.YthhgjeeangepaaaGreat
open Go.ChangeShapes Go.WideShapes Go.ChangeAt Go.RowKit
theorem shr_go {a b : List Nat} {n : Nat} (hn : a.take n = b.take n) (h1 : n < a.length) (h2 : n < b.length) (h : a[n] = b[n]) : a.take (n + 1) = b.take (n + 1) := by
  rw [List.take_succ_eq_append_getElem h1, List.take_succ_eq_append_getElem h2, hn, h]
theorem wrap_succ {n : Nat} (h : n < 1000000000000) : wrap64 ((n : Int) + 1) = ((n + 1 : Nat) : Int) := by unfold wrap64; omega
set_option maxRecDepth 100000 in
set_option maxHeartbeats 4000000 in
theorem shared_any {w : World} {lo hi lo2 hi2 : Nat} {u v : Value} {a b : List Nat} (hu : Bs w lo hi u a) (hv : Bs w lo2 hi2 v b) (hhi : hi ≤ w.heap.size) (hhi2 : hi2 ≤ w.heap.size) (ha : a.length ≤ 1000000000000) (hb : b.length ≤ 1000000000000) :
    Calls Tryz.prog 157 #[u, v] w fun e w' => e = .returned (.int .i64 (shr a b : Int)) ∧ Ext w w' := by
  obtain ⟨A, c, rfl, _, _, _, hA⟩ := hu
  obtain ⟨B, c2, rfl, _, _, _, hB⟩ := hv
  have HA := Lib.hid hA
  have HB := Lib.hid hB
  have HH := Lib.hid (And.intro hhi hhi2)
  have HL := Lib.hid (And.intro ha hb)
  clear hA hB hhi hhi2 ha hb
  go_enter Tryz.func157, Tryz.ntmps157
  go_wp2_with fail
  go_loopw [5] (fun x wr => ∃ n : Nat, n ≤ a.length ∧ n ≤ b.length ∧ x = .int .i64 (n : Int) ∧ Hid (a.take n = b.take n) ∧ Hid (Ext w wr)) (fun x _ => a.length - (intOf x).toNat)
  case atStart => exact ⟨0, Nat.zero_le _, Nat.zero_le _, rfl, rfl, Ext.refl _⟩
  case round =>
    obtain ⟨n, hn1, hn2, rfl, HT, HX⟩ := hrel
    obtain ⟨m, hm⟩ : ∃ m : Int, m = min (a.length : Int) (b.length : Int) := ⟨_, rfl⟩
    by_cases hlt : n < a.length ∧ n < b.length
    · obtain ⟨h1, h2⟩ := hlt
      obtain ⟨ab, ao, rfl, _, _, ca⟩ := (show By wr _ _ _ _ from Sl.below HA.out HX.out HH.out.1).at_ h1
      obtain ⟨bb, bo, rfl, _, _, cb⟩ := (show By wr _ _ _ _ from Sl.below HB.out HX.out HH.out.2).at_ h2
      obtain ⟨x, hx⟩ : ∃ x, x = a[n] := ⟨_, rfl⟩
      obtain ⟨y, hy⟩ : ∃ y, y = b[n] := ⟨_, rfl⟩
      rw [← hx] at ca
      rw [← hy] at cb
      have d1 : decide ((n : Int) < m) = true := by rw [decide_eq_true_eq, hm]; omega
      have n1 : (0 : Int) ≤ (n : Int) := by omega
      have n2 : (n : Int) < (a.length : Int) := by omega
      have n3 : (n : Int) < (b.length : Int) := by omega
      have HM := Lib.hid hm
      have HXY : Hid (a[n]? = some x ∧ b[n]? = some y) := ⟨by rw [hx]; exact List.getElem?_eq_getElem h1, by rw [hy]; exact List.getElem?_eq_getElem h2⟩
      have H12 := Lib.hid (And.intro h1 h2)
      have HN := Lib.hid (And.intro hn1 hn2)
      clear hm hx hy h1 h2 hn1 hn2
      go_upto_region 2 with (fail)
      by_cases hxy : x = y
      · have dxy : ((x : Int) == (y : Int)) = true := by simp [hxy]
        have HE := Lib.hid hxy
        clear hxy
        refine flow (by kernel_rfl) [Is (.int .i64 (n : Int)), Is (.slice (some ⟨ab, ao, none⟩) a.length c), Is (.int .i64 (a.length : Int)), Is (.slice (some ⟨bb, bo, none⟩) b.length c2), Is (.int .i64 (b.length : Int)), Is (.int .i64 m), Is (.bool true), Is (.bool true), Is (.slice (some ⟨ab, ao, none⟩) a.length c), Is (.int .i64 (n : Int)), Is (.pointer (some ⟨ab, ao + n, none⟩)), Is (.int .u8 (x : Int)), Is (.slice (some ⟨bb, bo, none⟩) b.length c2), Is (.int .i64 (n : Int)), Is (.pointer (some ⟨bb, bo + n, none⟩)), Is (.int .u8 (y : Int)), Is (.bool true), Is (.bool true)] (by kernel_rfl) (by kernel_rfl) ?mono (fun f1 => ?obl) ?fin
        case mono =>
          simp only [List.forall_mem_cons, List.not_mem_nil, false_imp_iff, implies_true, and_true]
          exact ⟨.is _, .is _, .is _, .is _, .is _, .is _, .is _, .is _, .is _, .is _, .is _, .is _, .is _, .is _, .is _, .is _, .is _, .is _⟩
        case fin =>
          intro g1 u hu hg
          simp only [puts, Act.put, zq1, zq2, zq3]
          have hxu := Ext.trans (Ext.drew wr) hu
          have HXU : Hid (Ext w u) := Ext.trans HX.out hxu
          have e17 : g1 17 = .bool true := hg 17 (by decide)
          rw [e17]
          clear hxu hu hg e17
          go_wp2_with fail
          go_roundw
          case rel =>
            have h1 := H12.out.1
            have h2 := H12.out.2
            exact ⟨n + 1, by omega, by omega, by rw [wrap_succ (Nat.lt_of_lt_of_le H12.out.1 HL.out.1)], shr_go HT.out h1 h2 (by have p := HXY.out.1; have q := HXY.out.2; rw [List.getElem?_eq_getElem h1] at p; rw [List.getElem?_eq_getElem h2] at q; injection p with p; injection q with q; rw [p, q]; exact HE.out), HXU⟩
          case measure => have := H12.out; rw [wrap_succ (Nat.lt_of_lt_of_le H12.out.1 HL.out.1)]; simp [intOf]; omega
        case obl =>
          refine ⟨fun u hu hd => ?_, ?_⟩
          · go_simp
            exact ⟨Ext.refl _, rfl⟩
          refine ⟨fun u hu hd => ?_, ?_⟩
          · simp only [Act.put, zq1, zq2, zq3]
            go_simp
            exact ⟨Ext.refl _, rfl⟩
          refine ⟨fun u hu hd => ?_, ?_⟩
          · simp only [Act.put, zq1, zq2, zq3]
            have e1 : f1 1 = .slice (some ⟨ab, ao, none⟩) a.length c := hd 1 (by kernel_rfl)
            go_simp
            exact ⟨Ext.refl _, rfl⟩
          refine ⟨fun u hu hd => ?_, ?_⟩
          · simp only [Act.put, zq1, zq2, zq3]
            go_simp
            exact ⟨Ext.refl _, rfl⟩
          refine ⟨fun u hu hd => ?_, ?_⟩
          · simp only [Act.put, zq1, zq2, zq3]
            have e3 : f1 3 = .slice (some ⟨bb, bo, none⟩) b.length c2 := hd 3 (by kernel_rfl)
            go_simp
            exact ⟨Ext.refl _, rfl⟩
          refine ⟨fun u hu hd => ?_, ?_⟩
          · simp only [Act.put, zq1, zq2, zq3]
            have e2 : f1 2 = .int .i64 (a.length : Int) := hd 2 (by kernel_rfl)
            have e4 : f1 4 = .int .i64 (b.length : Int) := hd 4 (by kernel_rfl)
            rw [HM.out]
            go_simp
            exact ⟨Ext.refl _, rfl⟩
          refine ⟨fun u hu hd => ?_, ?_⟩
          · simp only [Act.put, zq1, zq2, zq3]
            have e0 : f1 0 = .int .i64 (n : Int) := hd 0 (by kernel_rfl)
            have e5 : f1 5 = .int .i64 m := hd 5 (by kernel_rfl)
            go_simp
            exact ⟨Ext.refl _, rfl⟩
          refine ⟨fun u hu hd => ?_, ?_⟩
          · simp only [Act.put, zq1, zq2, zq3]
            have e6 : f1 6 = .bool true := hd 6 (by kernel_rfl)
            go_simp
            exact ⟨Ext.refl _, rfl⟩
          refine ⟨fun u hu hd => ?_, ?_⟩
          · simp only [Act.put, zq1, zq2, zq3]
            have e7 : f1 7 = .bool true := hd 7 (by kernel_rfl)
            go_simp
            exact ⟨Ext.refl _, rfl⟩
          refine ⟨fun u hu hd => ?_, ?_⟩
          · simp only [Act.put, zq1, zq2, zq3]
            have e7 : f1 7 = .bool true := hd 7 (by kernel_rfl)
            go_simp
            exact ⟨Ext.refl _, rfl⟩
          refine ⟨fun u hu hd => ?_, ?_⟩
          · simp only [Act.put, zq1, zq2, zq3]
            have e7 : f1 7 = .bool true := hd 7 (by kernel_rfl)
            have e8 : f1 8 = .slice (some ⟨ab, ao, none⟩) a.length c := hd 8 (by kernel_rfl)
            have e9 : f1 9 = .int .i64 (n : Int) := hd 9 (by kernel_rfl)
            go_simp
            exact ⟨Ext.refl _, rfl⟩
          refine ⟨fun u hu hd => ?_, ?_⟩
          · simp only [Act.put, zq1, zq2, zq3]
            have e7 : f1 7 = .bool true := hd 7 (by kernel_rfl)
            have e10 : f1 10 = .pointer (some ⟨ab, ao + n, none⟩) := hd 10 (by kernel_rfl)
            have hu2 := Ext.trans (Ext.drew wr) hu
            have q0 := ext_cell hu2 ca
            go_simp
            exact ⟨Ext.refl _, rfl⟩
          refine ⟨fun u hu hd => ?_, ?_⟩
          · simp only [Act.put, zq1, zq2, zq3]
            have e7 : f1 7 = .bool true := hd 7 (by kernel_rfl)
            go_simp
            exact ⟨Ext.refl _, rfl⟩
          refine ⟨fun u hu hd => ?_, ?_⟩
          · simp only [Act.put, zq1, zq2, zq3]
            have e7 : f1 7 = .bool true := hd 7 (by kernel_rfl)
            go_simp
            exact ⟨Ext.refl _, rfl⟩
          refine ⟨fun u hu hd => ?_, ?_⟩
          · simp only [Act.put, zq1, zq2, zq3]
            have e7 : f1 7 = .bool true := hd 7 (by kernel_rfl)
            have e12 : f1 12 = .slice (some ⟨bb, bo, none⟩) b.length c2 := hd 12 (by kernel_rfl)
            have e13 : f1 13 = .int .i64 (n : Int) := hd 13 (by kernel_rfl)
            go_simp
            exact ⟨Ext.refl _, rfl⟩
          refine ⟨fun u hu hd => ?_, ?_⟩
          · simp only [Act.put, zq1, zq2, zq3]
            have e7 : f1 7 = .bool true := hd 7 (by kernel_rfl)
            have e14 : f1 14 = .pointer (some ⟨bb, bo + n, none⟩) := hd 14 (by kernel_rfl)
            have hu2 := Ext.trans (Ext.drew wr) hu
            have q0 := ext_cell hu2 cb
            go_simp
            exact ⟨Ext.refl _, rfl⟩
          refine ⟨fun u hu hd => ?_, ?_⟩
          · simp only [Act.put, zq1, zq2, zq3]
            have e7 : f1 7 = .bool true := hd 7 (by kernel_rfl)
            have e11 : f1 11 = .int .u8 (x : Int) := hd 11 (by kernel_rfl)
            have e15 : f1 15 = .int .u8 (y : Int) := hd 15 (by kernel_rfl)
            go_simp
            exact ⟨Ext.refl _, rfl⟩
          refine ⟨fun u hu hd => ?_, ?_⟩
          · simp only [Act.put, zq1, zq2, zq3]
            have e7 : f1 7 = .bool true := hd 7 (by kernel_rfl)
            have e16 : f1 16 = .bool true := hd 16 (by kernel_rfl)
            go_simp
            exact ⟨Ext.refl _, rfl⟩
          trivial
      · have dxy : ((x : Int) == (y : Int)) = false := by simp; omega
        have HE := Lib.hid hxy
        clear hxy
        refine flow (by kernel_rfl) [Is (.int .i64 (n : Int)), Is (.slice (some ⟨ab, ao, none⟩) a.length c), Is (.int .i64 (a.length : Int)), Is (.slice (some ⟨bb, bo, none⟩) b.length c2), Is (.int .i64 (b.length : Int)), Is (.int .i64 m), Is (.bool true), Is (.bool true), Is (.slice (some ⟨ab, ao, none⟩) a.length c), Is (.int .i64 (n : Int)), Is (.pointer (some ⟨ab, ao + n, none⟩)), Is (.int .u8 (x : Int)), Is (.slice (some ⟨bb, bo, none⟩) b.length c2), Is (.int .i64 (n : Int)), Is (.pointer (some ⟨bb, bo + n, none⟩)), Is (.int .u8 (y : Int)), Is (.bool false), Is (.bool false)] (by kernel_rfl) (by kernel_rfl) ?mono (fun f1 => ?obl) ?fin
        case mono =>
          simp only [List.forall_mem_cons, List.not_mem_nil, false_imp_iff, implies_true, and_true]
          exact ⟨.is _, .is _, .is _, .is _, .is _, .is _, .is _, .is _, .is _, .is _, .is _, .is _, .is _, .is _, .is _, .is _, .is _, .is _⟩
        case fin =>
          intro g1 u hu hg
          simp only [puts, Act.put, zq1, zq2, zq3]
          have hxu := Ext.trans (Ext.drew wr) hu
          have HXU : Hid (Ext w u) := Ext.trans HX.out hxu
          have e17 : g1 17 = .bool false := hg 17 (by decide)
          rw [e17]
          clear hxu hu hg e17
          go_wp2_with fail
          go_ret
          have hs : shr a b = n := shr_is HN.out.1 HN.out.2 HT.out (fun p q hp hq => by
            rw [HXY.out.1] at hp
            rw [HXY.out.2] at hq
            injection hp with hp; injection hq with hq
            rw [← hp, ← hq]; exact HE.out)
          rw [hs]
          exact ⟨rfl, HXU.out⟩
        case obl =>
          refine ⟨fun u hu hd => ?_, ?_⟩
          · go_simp
            exact ⟨Ext.refl _, rfl⟩
          refine ⟨fun u hu hd => ?_, ?_⟩
          · simp only [Act.put, zq1, zq2, zq3]
            go_simp
            exact ⟨Ext.refl _, rfl⟩
          refine ⟨fun u hu hd => ?_, ?_⟩
          · simp only [Act.put, zq1, zq2, zq3]
            have e1 : f1 1 = .slice (some ⟨ab, ao, none⟩) a.length c := hd 1 (by kernel_rfl)
            go_simp
            exact ⟨Ext.refl _, rfl⟩
          refine ⟨fun u hu hd => ?_, ?_⟩
          · simp only [Act.put, zq1, zq2, zq3]
            go_simp
            exact ⟨Ext.refl _, rfl⟩
          refine ⟨fun u hu hd => ?_, ?_⟩
          · simp only [Act.put, zq1, zq2, zq3]
            have e3 : f1 3 = .slice (some ⟨bb, bo, none⟩) b.length c2 := hd 3 (by kernel_rfl)
            go_simp
            exact ⟨Ext.refl _, rfl⟩
          refine ⟨fun u hu hd => ?_, ?_⟩
          · simp only [Act.put, zq1, zq2, zq3]
            have e2 : f1 2 = .int .i64 (a.length : Int) := hd 2 (by kernel_rfl)
            have e4 : f1 4 = .int .i64 (b.length : Int) := hd 4 (by kernel_rfl)
            rw [HM.out]
            go_simp
            exact ⟨Ext.refl _, rfl⟩
          refine ⟨fun u hu hd => ?_, ?_⟩
          · simp only [Act.put, zq1, zq2, zq3]
            have e0 : f1 0 = .int .i64 (n : Int) := hd 0 (by kernel_rfl)
            have e5 : f1 5 = .int .i64 m := hd 5 (by kernel_rfl)
            go_simp
            exact ⟨Ext.refl _, rfl⟩
          refine ⟨fun u hu hd => ?_, ?_⟩
          · simp only [Act.put, zq1, zq2, zq3]
            have e6 : f1 6 = .bool true := hd 6 (by kernel_rfl)
            go_simp
            exact ⟨Ext.refl _, rfl⟩
          refine ⟨fun u hu hd => ?_, ?_⟩
          · simp only [Act.put, zq1, zq2, zq3]
            have e7 : f1 7 = .bool true := hd 7 (by kernel_rfl)
            go_simp
            exact ⟨Ext.refl _, rfl⟩
          refine ⟨fun u hu hd => ?_, ?_⟩
          · simp only [Act.put, zq1, zq2, zq3]
            have e7 : f1 7 = .bool true := hd 7 (by kernel_rfl)
            go_simp
            exact ⟨Ext.refl _, rfl⟩
          refine ⟨fun u hu hd => ?_, ?_⟩
          · simp only [Act.put, zq1, zq2, zq3]
            have e7 : f1 7 = .bool true := hd 7 (by kernel_rfl)
            have e8 : f1 8 = .slice (some ⟨ab, ao, none⟩) a.length c := hd 8 (by kernel_rfl)
            have e9 : f1 9 = .int .i64 (n : Int) := hd 9 (by kernel_rfl)
            go_simp
            exact ⟨Ext.refl _, rfl⟩
          refine ⟨fun u hu hd => ?_, ?_⟩
          · simp only [Act.put, zq1, zq2, zq3]
            have e7 : f1 7 = .bool true := hd 7 (by kernel_rfl)
            have e10 : f1 10 = .pointer (some ⟨ab, ao + n, none⟩) := hd 10 (by kernel_rfl)
            have hu2 := Ext.trans (Ext.drew wr) hu
            have q0 := ext_cell hu2 ca
            go_simp
            exact ⟨Ext.refl _, rfl⟩
          refine ⟨fun u hu hd => ?_, ?_⟩
          · simp only [Act.put, zq1, zq2, zq3]
            have e7 : f1 7 = .bool true := hd 7 (by kernel_rfl)
            go_simp
            exact ⟨Ext.refl _, rfl⟩
          refine ⟨fun u hu hd => ?_, ?_⟩
          · simp only [Act.put, zq1, zq2, zq3]
            have e7 : f1 7 = .bool true := hd 7 (by kernel_rfl)
            go_simp
            exact ⟨Ext.refl _, rfl⟩
          refine ⟨fun u hu hd => ?_, ?_⟩
          · simp only [Act.put, zq1, zq2, zq3]
            have e7 : f1 7 = .bool true := hd 7 (by kernel_rfl)
            have e12 : f1 12 = .slice (some ⟨bb, bo, none⟩) b.length c2 := hd 12 (by kernel_rfl)
            have e13 : f1 13 = .int .i64 (n : Int) := hd 13 (by kernel_rfl)
            go_simp
            exact ⟨Ext.refl _, rfl⟩
          refine ⟨fun u hu hd => ?_, ?_⟩
          · simp only [Act.put, zq1, zq2, zq3]
            have e7 : f1 7 = .bool true := hd 7 (by kernel_rfl)
            have e14 : f1 14 = .pointer (some ⟨bb, bo + n, none⟩) := hd 14 (by kernel_rfl)
            have hu2 := Ext.trans (Ext.drew wr) hu
            have q0 := ext_cell hu2 cb
            go_simp
            exact ⟨Ext.refl _, rfl⟩
          refine ⟨fun u hu hd => ?_, ?_⟩
          · simp only [Act.put, zq1, zq2, zq3]
            have e7 : f1 7 = .bool true := hd 7 (by kernel_rfl)
            have e11 : f1 11 = .int .u8 (x : Int) := hd 11 (by kernel_rfl)
            have e15 : f1 15 = .int .u8 (y : Int) := hd 15 (by kernel_rfl)
            go_simp
            exact ⟨Ext.refl _, rfl⟩
          refine ⟨fun u hu hd => ?_, ?_⟩
          · simp only [Act.put, zq1, zq2, zq3]
            have e7 : f1 7 = .bool true := hd 7 (by kernel_rfl)
            have e16 : f1 16 = .bool false := hd 16 (by kernel_rfl)
            go_simp
            exact ⟨Ext.refl _, rfl⟩
          trivial
    · have d1 : decide ((n : Int) < m) = false := by rw [decide_eq_false_iff_not, hm]; omega
      have HM := Lib.hid hm
      have HLT := Lib.hid hlt
      have HN := Lib.hid (And.intro hn1 hn2)
      clear hm hlt hn1 hn2
      go_upto_region 2 with (fail)
      refine flow (by kernel_rfl) [Is (.int .i64 (n : Int)), Is (.slice A a.length c), Is (.int .i64 (a.length : Int)), Is (.slice B b.length c2), Is (.int .i64 (b.length : Int)), Is (.int .i64 m), Is (.bool false), Is (.bool false), Is undef, Is undef, Is undef, Is undef, Is undef, Is undef, Is undef, Is undef, Is undef, Is (.bool false)] (by kernel_rfl) (by kernel_rfl) ?mono (fun f1 => ?obl) ?fin
      case mono =>
        simp only [List.forall_mem_cons, List.not_mem_nil, false_imp_iff, implies_true, and_true]
        exact ⟨.is _, .is _, .is _, .is _, .is _, .is _, .is _, .is _, .is _, .is _, .is _, .is _, .is _, .is _, .is _, .is _, .is _, .is _⟩
      case fin =>
        intro g1 u hu hg
        simp only [puts, Act.put, zq1, zq2, zq3]
        have hxu := Ext.trans (Ext.drew wr) hu
        have HXU : Hid (Ext w u) := Ext.trans HX.out hxu
        have e17 : g1 17 = .bool false := hg 17 (by decide)
        rw [e17]
        clear hxu hu hg e17
        go_wp2_with fail
        go_ret
        have hs : shr a b = n := shr_is HN.out.1 HN.out.2 HT.out (fun p q hp hq => by
          have h1 := (List.getElem?_eq_some_iff.1 hp).1
          have h2 := (List.getElem?_eq_some_iff.1 hq).1
          exact absurd ⟨h1, h2⟩ HLT.out)
        rw [hs]
        exact ⟨rfl, HXU.out⟩
      case obl =>
        refine ⟨fun u hu hd => ?_, ?_⟩
        · go_simp
          exact ⟨Ext.refl _, rfl⟩
        refine ⟨fun u hu hd => ?_, ?_⟩
        · simp only [Act.put, zq1, zq2, zq3]
          go_simp
          exact ⟨Ext.refl _, rfl⟩
        refine ⟨fun u hu hd => ?_, ?_⟩
        · simp only [Act.put, zq1, zq2, zq3]
          have e1 : f1 1 = .slice A a.length c := hd 1 (by kernel_rfl)
          go_simp
          exact ⟨Ext.refl _, rfl⟩
        refine ⟨fun u hu hd => ?_, ?_⟩
        · simp only [Act.put, zq1, zq2, zq3]
          go_simp
          exact ⟨Ext.refl _, rfl⟩
        refine ⟨fun u hu hd => ?_, ?_⟩
        · simp only [Act.put, zq1, zq2, zq3]
          have e3 : f1 3 = .slice B b.length c2 := hd 3 (by kernel_rfl)
          go_simp
          exact ⟨Ext.refl _, rfl⟩
        refine ⟨fun u hu hd => ?_, ?_⟩
        · simp only [Act.put, zq1, zq2, zq3]
          have e2 : f1 2 = .int .i64 (a.length : Int) := hd 2 (by kernel_rfl)
          have e4 : f1 4 = .int .i64 (b.length : Int) := hd 4 (by kernel_rfl)
          rw [HM.out]
          go_simp
          exact ⟨Ext.refl _, rfl⟩
        refine ⟨fun u hu hd => ?_, ?_⟩
        · simp only [Act.put, zq1, zq2, zq3]
          have e0 : f1 0 = .int .i64 (n : Int) := hd 0 (by kernel_rfl)
          have e5 : f1 5 = .int .i64 m := hd 5 (by kernel_rfl)
          go_simp
          exact ⟨Ext.refl _, rfl⟩
        refine ⟨fun u hu hd => ?_, ?_⟩
        · simp only [Act.put, zq1, zq2, zq3]
          have e6 : f1 6 = .bool false := hd 6 (by kernel_rfl)
          go_simp
          exact ⟨Ext.refl _, rfl⟩
        refine ⟨fun u hu hd => ?_, ?_⟩
        · simp only [Act.put, zq1, zq2, zq3]
          have e7 : f1 7 = .bool false := hd 7 (by kernel_rfl)
          go_simp
          rfl
        refine ⟨fun u hu hd => ?_, ?_⟩
        · simp only [Act.put, zq1, zq2, zq3]
          have e7 : f1 7 = .bool false := hd 7 (by kernel_rfl)
          go_simp
          rfl
        refine ⟨fun u hu hd => ?_, ?_⟩
        · simp only [Act.put, zq1, zq2, zq3]
          have e7 : f1 7 = .bool false := hd 7 (by kernel_rfl)
          go_simp
          rfl
        refine ⟨fun u hu hd => ?_, ?_⟩
        · simp only [Act.put, zq1, zq2, zq3]
          have e7 : f1 7 = .bool false := hd 7 (by kernel_rfl)
          go_simp
          rfl
        refine ⟨fun u hu hd => ?_, ?_⟩
        · simp only [Act.put, zq1, zq2, zq3]
          have e7 : f1 7 = .bool false := hd 7 (by kernel_rfl)
          go_simp
          rfl
        refine ⟨fun u hu hd => ?_, ?_⟩
        · simp only [Act.put, zq1, zq2, zq3]
          have e7 : f1 7 = .bool false := hd 7 (by kernel_rfl)
          go_simp
          rfl
        refine ⟨fun u hu hd => ?_, ?_⟩
        · simp only [Act.put, zq1, zq2, zq3]
          have e7 : f1 7 = .bool false := hd 7 (by kernel_rfl)
          go_simp
          rfl
        refine ⟨fun u hu hd => ?_, ?_⟩
        · simp only [Act.put, zq1, zq2, zq3]
          have e7 : f1 7 = .bool false := hd 7 (by kernel_rfl)
          go_simp
          rfl
        refine ⟨fun u hu hd => ?_, ?_⟩
        · simp only [Act.put, zq1, zq2, zq3]
          have e7 : f1 7 = .bool false := hd 7 (by kernel_rfl)
          go_simp
          rfl
        refine ⟨fun u hu hd => ?_, ?_⟩
        · simp only [Act.put, zq1, zq2, zq3]
          have e7 : f1 7 = .bool false := hd 7 (by kernel_rfl)
          go_simp
          exact ⟨Ext.refl _, rfl⟩
        trivial
end Go.Proofs.YthhgjeeangepaaaGreat
namespace Go.Proofs.YthhgjeeangepaaaGreat
open Go.RowKit
structure StepK (K : Nat → Prop) (w w' : World) : Prop where
  stay : ∀ k, K k → k < w.heap.size → w'.heap[k]? = w.heap[k]?
  os : w'.os = w.os
  tape : w'.tape = w.tape
  output : w'.output = w.output
  size : w.heap.size ≤ w'.heap.size
theorem StepK.refl (K : Nat → Prop) (w : World) : StepK K w w := ⟨fun _ _ _ => rfl, rfl, rfl, rfl, Nat.le_refl _⟩
theorem StepK.trans {K : Nat → Prop} {w w' w'' : World} (h : StepK K w w') (k : StepK K w' w'') : StepK K w w'' := ⟨fun i h1 h2 => (k.stay i h1 (Nat.lt_of_lt_of_le h2 h.size)).trans (h.stay i h1 h2), k.os.trans h.os, k.tape.trans h.tape, k.output.trans h.output, Nat.le_trans h.size k.size⟩
theorem StepK.of_chg {S K : Nat → Prop} {w w' : World} (h : Chg S w w') (hS : ∀ k, k < w.heap.size → K k → ¬ S k) : StepK K w w' := ⟨fun k h1 h2 => h.block k h2 (hS k h2 h1), h.os, h.tape, h.output, h.size⟩
theorem StepK.mono {K K' : Nat → Prop} {w w' : World} (h : StepK K w w') (hk : ∀ i, K' i → K i) : StepK K' w w' := ⟨fun i h1 h2 => h.stay i (hk i h1) h2, h.os, h.tape, h.output, h.size⟩
def IterP (P : Program) {α : Type} (gf : Nat) (lb : Array Value) (encs : α → Array Value) (Ok : (Nat → Prop) → (Nat → Prop) → Nat → α → World → Prop) (Done : Nat → Prop) (Pan : Nat → List PanicEntry → Prop) (C : World → Prop) (w : World) : Prop :=
  ∀ (m l : Nat) (J : (Nat → Prop) → (Nat → Prop) → Nat → World → Prop) (Jx : World → Prop) (W : World), Ext w W →
    (∀ D K k A, J D K k A → C A) →
    (∀ D K k A D' K' A', J D K k A → Chg D A A' → (∀ i, D' i → D i ∨ A.heap.size ≤ i) → (∀ i, K' i → K i ∨ A.heap.size ≤ i) → J D' K' k A') →
    (∀ A D K, Ext W A → (∀ i, D i → W.heap.size ≤ i) → (∀ i, K i → W.heap.size ≤ i) → J D K 0 A) →
    (∀ D K k x A, (∀ i, D i → W.heap.size ≤ i ∧ i < A.heap.size) → (∀ i, K i → W.heap.size ≤ i ∧ i < A.heap.size) → J D K k A → Ok D K k x A →
      YieldAt Fence.wide m P l (encs x) A fun e A' => StepK K A A' ∧ ((e = .returned (.bool true) ∧ J D K (k + 1) A') ∨ (e = .returned (.bool false) ∧ Jx A'))) →
    Calls P gf (#[.func (.yield l) #[] #[]] ++ lb) W fun e A => ((∃ v, e = .returned v) ∧ ((∃ D K k, J D K k A ∧ Done k) ∨ Jx A)) ∨ (∃ ch, e = .panicked ch ∧ ∃ D K k, J D K k A ∧ Pan k ch)
def bodyOwesK (K : Nat → Prop) (I : World → Prop) (Ix : Code → World → Prop) (A : World) : Exit → Act → World → Prop
  | .normal, _, A' => StepK K A A' ∧ I A'
  | .ret, _, A' => StepK K A A' ∧ Ix .ret A'
  | .exit id, _, A' => StepK K A A' ∧ Ix (.exit id) A'
  | .goto t, _, A' => StepK K A A' ∧ Ix (.goto t) A'
  | .panic _, _, _ => False
  | .outgrown, _, _ => False
theorem wpIn_overP {P : Program} {n : Nat} {α : Type} {g : Operand} {ps : Array Tmp} {assign body : Code} {Q : Exit → Act → World → Prop} {a : Act} {w : World}
    {gf : Nat} {lb : Array Value} (hg : a.eval g = .func (.func gf) #[] lb) (eg : ∀ args w, (callFunc gf args).run P w = .ok (.enter gf args) w)
    {encs : α → Array Value} {Ok : (Nat → Prop) → (Nat → Prop) → Nat → α → World → Prop} {Done : Nat → Prop} {Pan : Nat → List PanicEntry → Prop} {C : World → Prop} (hseq : IterP P gf lb encs Ok Done Pan C w) (hps : ∀ x, (encs x).size = ps.size)
    (I : (Nat → Prop) → (Nat → Prop) → Nat → World → Prop) (Ix : Code → World → Prop) (hC : ∀ D K k A, I D K k A → C A)
    (hI : ∀ D K k A D' K' A', I D K k A → Chg D A A' → (∀ i, D' i → D i ∨ A.heap.size ≤ i) → (∀ i, K' i → K i ∨ A.heap.size ≤ i) → I D' K' k A') (hIx : ∀ c A A', Ix c A → Chg (fun i => i = w.heap.size + 1) A A' → Ix c A')
    (h0 : ∀ A D K, Ext w A → (∀ i, D i → w.heap.size ≤ i) → (∀ i, K i → w.heap.size ≤ i) → I D K 0 A)
    (hround : ∀ l D K k x A, l = w.heap.size + 1 → D l → K l → (∀ i, D i → w.heap.size ≤ i ∧ i < A.heap.size) → (∀ i, K i → w.heap.size ≤ i ∧ i < A.heap.size) → I D K k A → Ok D K k x A →
      assign.wpIn (Fence.wide.inRound l) (n - 1 - 1) P (Exit.then (fun a₁ A1 => StepK K A A1 ∧ ∀ A2, Chg (fun i => i = l) A1 A2 → body.wpIn (Fence.wide.inRound l) (n - 1 - 1) P (bodyOwesK K (I D K (k + 1)) Ix A2) a₁ A2) (fun _ _ _ => False))
        { tmps := (ps.zip (encs x)).foldl (fun t (p, v) => t.setIfInBounds p v) a.tmps, defers := [] } A)
    (hOk : ∀ D K D' K' k x A, Ok D K k x A → (∃ o, A.heap[w.heap.size]? = some (.deferred o)) → (∃ o, A.heap[w.heap.size + 1]? = some (.loop o)) → (∀ i, D' i → D i ∨ i = w.heap.size ∨ i = w.heap.size + 1) → (∀ i, K' i → K i ∨ i = w.heap.size ∨ i = w.heap.size + 1) → (∀ i, D i → D' i) → (∀ i, K i → K' i) → Ok D' K' k x A)
    (hdone : ∀ D k W D0 K0, w.heap.size ≤ D → I D0 K0 k W → Done k → W.heap[D]? = some (.deferred (some [])) → Q .normal { a with defers := { target := .collected D, args := #[] } :: a.defers } W)
    (hpan : ∀ D k W D0 K0 ch, w.heap.size ≤ D → I D0 K0 k W → Pan k ch → W.heap[D]? = some (.deferred (some [])) → Q (.panic ch) { a with defers := { target := .collected D, args := #[] } :: a.defers } W)
    (hstop : ∀ D c W, w.heap.size ≤ D → Ix c W → W.heap[D]? = some (.deferred (some [])) → c.wpIn Fence.wide n P Q { a with defers := { target := .collected D, args := #[] } :: a.defers } W) :
    (Code.rangeFunc g ps assign body).wpIn Fence.wide n P Q a w := by
  refine wpIn_rangeFunc ?_
  intro fn hfn
  obtain ⟨rec, hrec⟩ : ∃ rec : LoopState → Option Code → Loop, rec = fun st pe => { state := st, pending := pe, fn, tmps := a.tmps, params := ps, assign, body, defers := w.heap.size } := ⟨_, rfl⟩
  obtain ⟨W1, hW1⟩ : ∃ W1, W1 = (w.alloc (.deferred (some []))).alloc (.loop (rec .ready none)) := ⟨_, rfl⟩
  have hx1 : Ext w W1 := by rw [hW1]; exact ((Below.refl _ w).alloc (Nat.le_refl _) _).alloc (by simp) _
  have hz1 : W1.heap.size = w.heap.size + 2 := by rw [hW1]; simp
  have hL1 : W1.heap[w.heap.size + 1]? = some (.loop (rec .ready none)) := by
    rw [hW1]; have := World.alloc_heap_new (w.alloc (.deferred (some []))) (.loop (rec .ready none)); rwa [World.size_alloc] at this
  have hD1 : W1.heap[w.heap.size]? = some (.deferred (some [])) := by
    rw [hW1]; exact (Below.heap_alloc _ _ _ (by simp)).trans (World.alloc_heap_new w _)
  let up : (Nat → Prop) → Nat → Prop := fun D i => D i ∨ i = w.heap.size ∨ i = w.heap.size + 1
  refine ⟨w.heap.size + 1, [{ target := .collected w.heap.size, args := #[] }], W1, { target := .fn (.func gf) lb, args := #[.func (.yield (w.heap.size + 1)) #[] #[]] }, W1, gf,
    #[.func (.yield (w.heap.size + 1)) #[] #[]] ++ lb, W1, ?_, ?_, (fun _ _ => trivial), ?_, (fun h => (by cases h)), ?_⟩
  · rw [hW1, hrec]; exact run_enterLoop_outer _ _ _ _ _
  · simp only [resolve, hg]
    simp [go_sem]
  · simp [invoke, go_sem, eg]
  · refine callsIn_wide.2 ((hseq (n - 1 - 1) (w.heap.size + 1)
      (fun D K k A => I (up D) (up K) k A ∧ (∀ i, D i → w.heap.size + 2 ≤ i) ∧ A.heap[w.heap.size + 1]? = some (.loop (rec .ready none)) ∧ A.heap[w.heap.size]? = some (.deferred (some [])))
      (fun A => ∃ c, Ix c A ∧ A.heap[w.heap.size + 1]? = some (.loop (rec .done (some c))) ∧ A.heap[w.heap.size]? = some (.deferred (some [])))
      W1 hx1 (fun D K k A h => hC _ _ k A h.1) ?_ ?_ ?_).mono ?_)
    · rintro D K k A D' K' A' ⟨hi, hd0, hl, hd⟩ hc hD' hK'
      have lt1 := (Array.getElem?_eq_some_iff.1 hl).1
      have lt2 := (Array.getElem?_eq_some_iff.1 hd).1
      refine ⟨hI _ _ k A _ _ A' hi (hc.mono fun i _ hb => .inl hb) (fun i h => ?_) (fun i h => ?_), fun i h => ?_, (hc.block _ lt1 (fun hb => by have := hd0 _ hb; omega)).trans hl, (hc.block _ lt2 (fun hb => by have := hd0 _ hb; omega)).trans hd⟩
      · rcases h with h | h
        · rcases hD' i h with h | h
          · exact .inl (.inl h)
          · exact .inr h
        · exact .inl (.inr h)
      · rcases h with h | h
        · rcases hK' i h with h | h
          · exact .inl (.inl h)
          · exact .inr h
        · exact .inl (.inr h)
      · rcases hD' i h with h | h
        · exact hd0 i h
        · omega
    · intro A D K hx hD hK
      refine ⟨h0 A _ _ (hx1.trans hx) (fun i h => ?_) (fun i h => ?_), fun i h => by have := hD i h; omega, (hx.block _ (by omega)).trans hL1, (hx.block _ (by omega)).trans hD1⟩
      · rcases h with h | h | h
        · have := hD i h; omega
        · omega
        · omega
      · rcases h with h | h | h
        · have := hK i h; omega
        · omega
        · omega
    · rintro D K k x A hD hK ⟨hi, hd0, hl, hd⟩ hok
      have hy := run_yield (P := P) (args := encs x) hl (by rw [hrec]; exact hps x)
      rw [hrec] at hy
      refine ⟨fn, _, assign, body, hy, roundIn_of_wpIn hfn ?_⟩
      have hok' : Ok (up D) (up K) k x A := hOk _ _ _ _ k x A hok ⟨_, hd⟩ ⟨_, hl⟩ (fun i h => h) (fun i h => h) (fun i h => .inl h) (fun i h => .inl h)
      have hDu : ∀ i, up D i → w.heap.size ≤ i ∧ i < A.heap.size := fun i h => by
        rcases h with h | h | h
        · have := hD i h; omega
        · have := (Array.getElem?_eq_some_iff.1 hd).1; omega
        · have := (Array.getElem?_eq_some_iff.1 hl).1; omega
      have hKu : ∀ i, up K i → w.heap.size ≤ i ∧ i < A.heap.size := fun i h => by
        rcases h with h | h | h
        · have := hK i h; omega
        · have := (Array.getElem?_eq_some_iff.1 hd).1; omega
        · have := (Array.getElem?_eq_some_iff.1 hl).1; omega
      refine wpIn_mono (hround (w.heap.size + 1) (up D) (up K) k x A rfl (.inr (.inr rfl)) (.inr (.inr rfl)) hDu hKu hi hok') ?_
      intro e a₁ A1 hp
      cases e with
      | normal =>
        obtain ⟨hst, hb⟩ := hp
        have lt0 := (Array.getElem?_eq_some_iff.1 hl).1
        have lt00 := (Array.getElem?_eq_some_iff.1 hd).1
        have hl1 := (hst.stay (w.heap.size + 1) (.inr (.inr rfl)) lt0).trans hl
        have hd1 := (hst.stay w.heap.size (.inr (.inl rfl)) lt00).trans hd
        have lt1 := (Array.getElem?_eq_some_iff.1 hl1).1
        refine ⟨_, run_beginRound hl1 (by rw [hrec]), ?_⟩
        have hc2 := putObj_chg A1 (w.heap.size + 1) (.loop { rec .ready none with state := .busy })
        have hl2 : (A1.putObj (w.heap.size + 1) (.loop { rec .ready none with state := .busy })).heap[w.heap.size + 1]? = some (.loop { rec .ready none with state := .busy }) := World.putObj_heap_same lt1
        have hd2 := (hc2.block w.heap.size (by omega) (by omega)).trans hd1
        have fin : ∀ (jump : Option Code) (W3 : World), StepK (up K) (A1.putObj (w.heap.size + 1) (.loop { rec .ready none with state := .busy })) W3 →
            (Instr.endRound (w.heap.size + 1) jump).run P W3 = .ok (.bool jump.isNone) (W3.putObj (w.heap.size + 1) (.loop (rec (if jump.isNone then .ready else .done) jump))) ∧
            (W3.putObj (w.heap.size + 1) (.loop (rec (if jump.isNone then .ready else .done) jump))).heap[w.heap.size + 1]? = some (.loop (rec (if jump.isNone then .ready else .done) jump)) ∧
            (W3.putObj (w.heap.size + 1) (.loop (rec (if jump.isNone then .ready else .done) jump))).heap[w.heap.size]? = some (.deferred (some [])) ∧
            StepK K A (W3.putObj (w.heap.size + 1) (.loop (rec (if jump.isNone then .ready else .done) jump))) := fun jump W3 hs3 => by
          have hl3 := (hs3.stay _ (.inr (.inr rfl)) (Array.getElem?_eq_some_iff.1 hl2).1).trans hl2
          have hd3 := (hs3.stay _ (.inr (.inl rfl)) (Array.getElem?_eq_some_iff.1 hd2).1).trans hd2
          have lt3 := (Array.getElem?_eq_some_iff.1 hl3).1
          have hr := run_endRound (P := P) jump hl3
          rw [hrec] at hr ⊢
          refine ⟨hr, World.putObj_heap_same lt3, (World.putObj_heap_other (by omega)).trans hd3, ?_⟩
          have s1 : StepK K A A1 := hst.mono fun i h => .inl h
          have s2 : StepK K A1 (A1.putObj (w.heap.size + 1) (.loop { rec .ready none with state := .busy })) := ⟨fun i h1 h2 => World.putObj_heap_other (by have := hK i h1; omega), rfl, rfl, rfl, by simp⟩
          have s3 : StepK K (A1.putObj (w.heap.size + 1) (.loop { rec .ready none with state := .busy })) W3 := hs3.mono fun i h => .inl h
          rw [hrec] at s2 s3
          exact ((s1.trans s2).trans s3).trans ⟨fun i h1 h2 => World.putObj_heap_other (by have := hK i h1; omega), rfl, rfl, rfl, by simp⟩
        have hchg : ∀ (W3 : World) (o : Obj), Chg (up D) W3 (W3.putObj (w.heap.size + 1) o) := fun W3 o => (putObj_chg W3 _ o).mono fun i _ e => .inr (.inr e)
        refine wpIn_mono (hb _ hc2) ?_
        intro e a3 W3 hp
        cases e with
        | normal =>
          obtain ⟨hs3, hi3⟩ := hp
          obtain ⟨hr, hl4, hd4, hst4⟩ := fin none W3 hs3
          exact ⟨_, _, hr, hst4, .inl ⟨rfl, hI _ _ (k + 1) _ _ _ _ hi3 (hchg _ _) (fun i h => .inl h) (fun i h => .inl h), hd0, hl4, hd4⟩⟩
        | ret =>
          obtain ⟨hs3, hi3⟩ := hp
          obtain ⟨hr, hl4, hd4, hst4⟩ := fin (some .ret) W3 hs3
          exact ⟨_, _, hr, hst4, .inr ⟨rfl, .ret, hIx _ _ _ hi3 (putObj_chg _ _ _), hl4, hd4⟩⟩
        | exit id =>
          obtain ⟨hs3, hi3⟩ := hp
          obtain ⟨hr, hl4, hd4, hst4⟩ := fin (some (.exit id)) W3 hs3
          exact ⟨_, _, hr, hst4, .inr ⟨rfl, .exit id, hIx _ _ _ hi3 (putObj_chg _ _ _), hl4, hd4⟩⟩
        | goto t =>
          obtain ⟨hs3, hi3⟩ := hp
          obtain ⟨hr, hl4, hd4, hst4⟩ := fin (some (.goto t)) W3 hs3
          exact ⟨_, _, hr, hst4, .inr ⟨rfl, .goto t, hIx _ _ _ hi3 (putObj_chg _ _ _), hl4, hd4⟩⟩
        | panic ch => exact hp.elim
        | outgrown => exact hp.elim
      | ret => exact hp.elim
      | exit id => exact hp.elim
      | goto t => exact hp.elim
      | panic ch => exact hp.elim
      | outgrown => exact hp.elim
    · rintro e W2 (⟨⟨v, rfl⟩, (⟨D, K, k, ⟨hi, hd0, hl, hd⟩, hdn⟩ | ⟨c, hi, hl, hd⟩)⟩ | ⟨ch, rfl, D, K, k, ⟨hi, hd0, hl, hd⟩, hpn⟩)
      · have hr := run_endLoop (P := P) hl (by rw [hrec]; simp)
        rw [hrec] at hr
        exact ⟨none, _, hr, hdone _ k _ _ _ (Nat.le_refl _) (hI _ _ k _ _ _ _ hi ((putObj_chg _ _ _).mono fun i _ e => .inr (.inr e)) (fun i h => .inl h) (fun i h => .inl h)) hdn ((World.putObj_heap_other (by omega)).trans hd)⟩
      · have hr := run_endLoop (P := P) hl (by rw [hrec]; simp)
        rw [hrec] at hr
        exact ⟨some c, _, hr, hstop _ c _ (Nat.le_refl _) (hIx c _ _ hi (putObj_chg _ _ _)) ((World.putObj_heap_other (by omega)).trans hd)⟩
      · exact hpan _ k _ _ _ ch (Nat.le_refl _) hi hpn hd
end Go.Proofs.YthhgjeeangepaaaGreat
