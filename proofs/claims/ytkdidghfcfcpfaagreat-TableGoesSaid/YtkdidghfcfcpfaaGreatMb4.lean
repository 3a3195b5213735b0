import Derived.Test.YtkdidghfcfcpfaaGreatMb3
import Derived.Deep.DeepCutAuto
import Derived.Test.YtkdidghfcfcpfaaGreatMb0
namespace Go.Proofs.YtkdidghfcfcpfaaGreat
open Go.ChangeShapes Go.WideShapes Go.ChangeAt Go.RowKit
theorem all_next {α : Type} {f : α → Bool} {L : List α} {i : Nat} {p : α} (h : (L.take i).all f = true) (hp : L[i]? = some p) (hf : f p = true) : (L.take (i + 1)).all f = true := by
 rw [List.take_succ_eq_append_getElem (zLg.1 hp).1, List.all_append, h]
 simp [(zLg.1 hp).2, hf]
theorem all_not {α : Type} {f : α → Bool} {L : List α} {i : Nat} {p : α} (hp : L[i]? = some p) (hf : f p = false) : L.all f = false := by
 rw [Bool.eq_false_iff]
 intro h
 rw [List.all_eq_true] at h
 rw [h p (List.mem_of_getElem? hp)] at hf
 cases hf
set_option maxRecDepth 100000 in
set_option maxHeartbeats 4000000 in
theorem allmay_any {w : World} {lo hi : Nat} {A : Option Addr} {c : Nat} {L : List (Ent × Hd)} (h : Es w lo hi A L) (hhi : hi ≤ w.heap.size) (hlen : L.length ≤ 1000000000000) :
    Calls Tryz.prog 118 #[.slice A L.length c] w fun x w' => x = .returned (.bool (L.all fun p => p.1.may)) ∧ Ext w w' := by
 have HE := zHd h
 have HHI := zHd hhi
 have HL := zHd hlen
 clear h hhi hlen
 go_enter Tryz.func118, Tryz.ntmps118
 go_wp2_with fail
 go_loopw [7] (fun a wr => ∃ i : Nat, a = .int .i64 (i : Int) ∧ i ≤ L.length ∧ Hid ((L.take i).all (fun p => p.1.may) = true) ∧ Hid (Ext w wr)) (fun a _ => L.length - (intOf a).toNat)
 case atStart => exact ⟨0, rfl, by omega, by simp [Hid], zHd (Ext.refl _)⟩
 case round =>
  obtain ⟨i, rfl, hm, HR, HX⟩ := hrel
  by_cases hlt : i < L.length
  · have d : decide ((i : Int) < (L.length : Int)) = true := decide_eq_true (by omega)
    have dn : decide (i < L.length) = true := decide_eq_true hlt
    obtain ⟨b, o, hA⟩ := HE.out.base (by omega)
    subst hA
    obtain ⟨p, hp⟩ : ∃ p, L[i]? = some p := ⟨_, List.getElem?_eq_getElem hlt⟩
    obtain ⟨c0, c1, c2, c3⟩ := (HE.out.below HX.out HHI.out).get hp
    have HP := zHd hp
    have n1 : (0 : Int) ≤ (i : Int) := by omega
    have n2 : (i : Int) < (L.length : Int) := by omega
    have hw2 : wrap64 ((i : Int) + 1) = ((i + 1 : Nat) : Int) := by have := HL.out; unfold wrap64; omega
    clear hp
    go_upto_region 4 with (fail)
    obtain ⟨w4, hw4⟩ : ∃ w4, w4 = wr.alloc (.cells #[.slice p.2.kA p.1.key.length p.2.kc, .int .i64 p.1.seq, .int .i64 p.1.kind, .slice p.2.vA p.1.val.length p.2.vc] 50) := ⟨_, rfl⟩
    rw [← hw4]
    have HX4 : Hid (Ext wr w4) := by rw [hw4]; exact ext_alloc _ _
    have HB4 : Hid (w4.heap[wr.heap.size]? = some (.cells #[.slice p.2.kA p.1.key.length p.2.kc, .int .i64 p.1.seq, .int .i64 p.1.kind, .slice p.2.vA p.1.val.length p.2.vc] 50 (0, 0))) := by rw [hw4]; exact heap_at _ _ rfl
    clear hw4 c0 c1 c2 c3
    have c0 := cell_of HB4.out (k := 0) rfl
    have c1 := cell_of HB4.out (k := 1) rfl
    have c2 := cell_of HB4.out (k := 2) rfl
    have c3 := cell_of HB4.out (k := 3) rfl
    go_wp2_with fail
    refine (may_any _ _ _ _ _ _ _ _ _).mono ?_
    rintro x w9 ⟨rfl, hx9⟩
    have HX9 : Hid (Ext w w9) := zEt HX.out (zEt HX4.out hx9)
    clear hx9 c0 c1 c2 c3
    obtain ⟨z, hz⟩ : ∃ z, z = mayN p.1.key.length p.1.seq p.1.kind p.1.val.length := ⟨_, rfl⟩
    rw [← hz]
    have HZ := zHd hz
    clear hz
    cases z with
    | false =>
     go_wp2_with fail
     go_ret
     exact ⟨by rw [all_not (f := fun p : Ent × Hd => p.1.may) HP.out HZ.out.symm]; rfl, HX9.out⟩
    | true =>
     go_wp2_with fail
     go_roundw
     case rel => exact ⟨i + 1, by rw [hw2], by omega, zHd (all_next (f := fun p : Ent × Hd => p.1.may) HR.out HP.out HZ.out.symm), HX9⟩
     case measure => rw [hw2]; simp [intOf]; omega
  · have d : decide ((i : Int) < (L.length : Int)) = false := decide_eq_false (by omega)
    have dn : decide (i < L.length) = false := decide_eq_false hlt
    have HM : Hid (L.all (fun p => p.1.may) = true) := by have h := HR.out; rwa [List.take_of_length_le (by omega)] at h
    clear hlt hm
    go_wp2_with fail
    go_ret
    exact ⟨by rw [HM.out]; rfl, HX.out⟩
def Rise (l : List Ent) : Prop := ∀ j a b, l[j]? = some a → l[j + 1]? = some b → cmpE a b < 0
theorem RiseAt.all {l : List Ent} {n : Nat} (h : RiseAt l n) : n = l.length ↔ Rise l := by
 obtain ⟨h1, h2, h3⟩ := h
 refine ⟨fun e j a b ha hb => h2 j a b (by have := (zLg.1 hb).1; omega) ha hb, fun hr => ?_⟩
 rcases Nat.lt_or_ge n l.length with h | h
 · obtain ⟨m, a, b, e, ha, hb, hc⟩ := h3 h
   have := hr m a b ha hb
   omega
 · omega
set_option maxRecDepth 100000 in
set_option maxHeartbeats 4000000 in
theorem rises_any {w : World} {lo hi : Nat} {A : Option Addr} {c : Nat} {L : List (Ent × Hd)} (h : Es w lo hi A L) (hhi : hi ≤ w.heap.size) (hlen : L.length ≤ 1000000000000) :
    Calls Tryz.prog 99 #[.slice A L.length c] w fun x w' => ∃ z : Bool, (z = true ↔ Rise (L.map Prod.fst) ∧ (L.all fun p => p.1.may) = true) ∧ x = .returned (.bool z) ∧ Ext w w' := by
 have HR := zHd (rising_any (c := c) h hhi hlen)
 have HA : Hid (∀ u, Ext w u → Calls Tryz.prog 118 #[.slice A L.length c] u fun x w' => x = .returned (.bool (L.all fun p => p.1.may)) ∧ Ext u w') := fun u hu => allmay_any (h.below hu hhi) (zNt hhi hu.size) hlen
 clear h hhi hlen
 obtain ⟨m, hm⟩ : ∃ m, m = L.all fun p => p.1.may := ⟨_, rfl⟩
 rw [← hm] at HA ⊢
 clear hm
 go_enter Tryz.func99, Tryz.ntmps99
 go_wp2_with fail
 refine HR.out.mono ?_
 rintro x w2 ⟨n, hr, rfl, hx2⟩
 have hn := hr.all
 rw [List.length_map] at hn
 have HX2 := zHd hx2
 have HN := zHd hn
 clear hr hx2 hn
 by_cases h0 : n = L.length
 · have e1 : ((n : Int) == (L.length : Int)) = true := by rw [beq_iff_eq]; omega
   have e1n : (n == L.length) = true := by simpa using h0
   have HH := zHd h0
   clear h0
   go_wp2_with fail
   refine (HA.out w2 HX2.out).mono ?_
   rintro x w3 ⟨rfl, hx3⟩
   have HX3 : Hid (Ext w w3) := zEt HX2.out hx3
   clear hx3
   go_wp2_with fail
   go_ret
   exact ⟨m, ⟨fun h => ⟨HN.out.1 HH.out, h⟩, fun h => h.2⟩, rfl, HX3.out⟩
 · have e1 : ((n : Int) == (L.length : Int)) = false := by rw [beq_eq_false_iff_ne]; omega
   have e1n : (n == L.length) = false := by simpa using h0
   have HH := zHd h0
   clear h0
   go_wp2_with fail
   go_ret
   exact ⟨false, ⟨fun h => (by cases h), fun h => absurd (HN.out.2 h.1) HH.out⟩, rfl, HX2.out⟩
def MuchAns (L : List (Ent × Hd)) (z : Bool) : Prop := z = false → L.length ≤ 100000 ∧ ∀ p ∈ L, p.1.key.length + p.1.val.length < 100000
set_option maxRecDepth 100000 in
set_option maxHeartbeats 4000000 in
theorem much_any {w : World} {lo hi : Nat} {A : Option Addr} {c : Nat} {L : List (Ent × Hd)} (h : Es w lo hi A L) (hhi : hi ≤ w.heap.size) (hlen : L.length ≤ 4000000000000) (hln : ∀ p ∈ L, p.1.key.length ≤ 140737488351232 ∧ p.1.val.length ≤ 140737488351232) :
    Calls Tryz.prog 48 #[.slice A L.length c, .int .i64 100000] w fun x w' => ∃ z : Bool, MuchAns L z ∧ x = .returned (.bool z) ∧ Ext w w' := by
 have HE := zHd h
 have HHI := zHd hhi
 have HL := zHd hlen
 have HLN := zHd hln
 clear h hhi hlen hln
 go_enter Tryz.func48, Tryz.ntmps48
 go_wp2_with fail
 go_loopw [5, 6] (fun a b wr => ∃ s i : Nat, a = .int .i64 (s : Int) ∧ b = .int .i64 (i : Int) ∧ i ≤ L.length ∧ s ≤ 500000 ∧ Hid (s ≤ 100000 → i ≤ s ∧ ∀ p ∈ L.take i, p.1.key.length + p.1.val.length < s) ∧ Hid (Ext w wr)) (fun _ b _ => L.length - (intOf b).toNat)
 case atStart => exact ⟨0, 0, rfl, rfl, by omega, by omega, fun _ => ⟨by omega, by simp⟩, zHd (Ext.refl _)⟩
 case round =>
  obtain ⟨s, i, rfl, rfl, hm, hs, HR, HX⟩ := hrel
  by_cases hlt : i < L.length
  · have d : decide ((i : Int) < (L.length : Int)) = true := decide_eq_true (by omega)
    have dn : decide (i < L.length) = true := decide_eq_true hlt
    by_cases hs1 : s ≤ 100000
    · have t : decide ((s : Int) ≤ 100000) = true := decide_eq_true (by omega)
      have tn : decide (s ≤ 100000) = true := decide_eq_true hs1
      obtain ⟨b, o, hA⟩ := HE.out.base (by omega)
      subst hA
      obtain ⟨p, hp⟩ : ∃ p, L[i]? = some p := ⟨_, List.getElem?_eq_getElem hlt⟩
      obtain ⟨c0, c1, c2, c3⟩ := (HE.out.below HX.out HHI.out).get hp
      have HP := zHd hp
      have HLP := zHd (HLN.out p (List.mem_of_getElem? hp))
      have n1 : (0 : Int) ≤ (i : Int) := by omega
      have n2 : (i : Int) < (L.length : Int) := by omega
      obtain ⟨x, hx⟩ : ∃ x, x = min p.1.key.length 100001 := ⟨_, rfl⟩
      obtain ⟨y, hy⟩ : ∃ y, y = min p.1.val.length 100001 := ⟨_, rfl⟩
      have HMX : Hid ((min (p.1.key.length : Int) 100001) = (x : Int)) := by unfold Hid; omega
      have HMY : Hid ((min (p.1.val.length : Int) 100001) = (y : Int)) := by unfold Hid; omega
      have HXY := zHd (And.intro hx hy)
      have HS1 := zHd hs1
      clear hp c1 c2 hx hy
      go_upto_region 5 with (fail)
      refine flow (by kernel_rfl) [Is (.int .i64 (s : Int)), Is (.int .i64 ((s : Int) + 1)), Is (.slice (some ⟨b, o, none⟩) L.length c), Is (.int .i64 (i : Int)), Is (.pointer (some ⟨b, o + i * 4, none⟩)), Is (.pointer (some ⟨b, o + i * 4, none⟩)), Is (.slice p.2.kA p.1.key.length p.2.kc), Is (.int .i64 (p.1.key.length : Int)), Is (.int .i64 (100000 : Int)), Is (.int .i64 (100001 : Int)), Is (.int .i64 (x : Int)), Is (.int .i64 ((s : Int) + 1 + (x : Int))), Is (.slice (some ⟨b, o, none⟩) L.length c), Is (.int .i64 (i : Int)), Is (.pointer (some ⟨b, o + i * 4, none⟩)), Is (.pointer (some ⟨b, o + i * 4 + 3, none⟩)), Is (.slice p.2.vA p.1.val.length p.2.vc), Is (.int .i64 (p.1.val.length : Int)), Is (.int .i64 (100000 : Int)), Is (.int .i64 (100001 : Int)), Is (.int .i64 (y : Int)), Is (.int .i64 ((s : Int) + 1 + (x : Int) + (y : Int))), Is (.int .i64 ((s : Int) + 1 + (x : Int) + (y : Int)))] (by kernel_rfl) (by kernel_rfl) ?mono (fun f1 => ?obl) ?fin
      case mono =>
       simp only [List.forall_mem_cons, List.not_mem_nil, false_imp_iff, implies_true, and_true]
       and_intros <;> exact .is _
      case fin =>
       intro g1 u hu hg
       simp only [puts, Act.put, zq]
       have h22 : g1 22 = _ := hg 22 (by decide)
       rw [h22]
       have HXU : Hid (Ext w u) := zEt HX.out (zEt (Ext.drew wr) hu)
       have hL := HL.out
       clear h22 hg hu c0 c3
       go_wp2_with fail
       go_roundw
       case rel =>
        have hxy := HXY.out
        have hs1 := HS1.out
        refine ⟨s + 1 + x + y, i + 1, by simp, by go_num, by omega, by omega, zHd fun hle => ?_, HXU⟩
        obtain ⟨h1, h2⟩ := HR.out hs1
        refine ⟨by omega, fun q hq => ?_⟩
        rw [List.take_succ_eq_append_getElem hlt, List.mem_append, List.mem_singleton] at hq
        rcases hq with hq | hq
        · have := h2 q hq; omega
        · have hpe : q = p := by rw [hq]; exact (zLg.1 HP.out).2
          subst hpe
          omega
       case measure => simp [intOf]; omega
      case obl =>
       refine ⟨fun u hu hd => ?_, fun u hu hd => ?_, fun u hu hd => ?_, fun u hu hd => ?_, fun u hu hd => ?_, fun u hu hd => ?_, fun u hu hd => ?_, fun u hu hd => ?_, fun u hu hd => ?_, fun u hu hd => ?_, fun u hu hd => ?_, fun u hu hd => ?_, fun u hu hd => ?_, fun u hu hd => ?_, fun u hu hd => ?_, fun u hu hd => ?_, fun u hu hd => ?_, fun u hu hd => ?_, fun u hu hd => ?_, fun u hu hd => ?_, fun u hu hd => ?_, fun u hu hd => ?_, fun u hu hd => ?_, trivial⟩
       all_goals try simp only [Act.put, zq]
       · go_simp
         exact zEr
       · have e0 : f1 0 = _ := hd 0 (by kernel_rfl)
         have q : IntKind.i64.wrap ((s : Int) + 1) = (s : Int) + 1 := by rw [IntKind.wrap_i64]; omega
         go_simp
         exact zEr
       · go_simp
         exact zEr
       · go_simp
         exact zEr
       · have e2 : f1 2 = _ := hd 2 (by kernel_rfl)
         have e3 : f1 3 = _ := hd 3 (by kernel_rfl)
         go_simp
         exact zEr
       · have e4 : f1 4 = _ := hd 4 (by kernel_rfl)
         go_simp
         exact zEr
       · have e5 : f1 5 = _ := hd 5 (by kernel_rfl)
         have hu2 := zEt (Ext.drew wr) hu
         have q0 := ext_cell hu2 c0
         go_simp
         exact zEr
       · have e6 : f1 6 = _ := hd 6 (by kernel_rfl)
         go_simp
         exact zEr
       · go_simp
         exact zEr
       · have e8 : f1 8 = _ := hd 8 (by kernel_rfl)
         go_simp
         exact zEr
       · have e7 : f1 7 = _ := hd 7 (by kernel_rfl)
         have e9 : f1 9 = _ := hd 9 (by kernel_rfl)
         have q := HMX.out
         go_simp
         exact zEr
       · have e1 : f1 1 = _ := hd 1 (by kernel_rfl)
         have e10 : f1 10 = _ := hd 10 (by kernel_rfl)
         have q1 : x ≤ 100001 ∧ y ≤ 100001 := by have := HXY.out; omega
         have q : IntKind.i64.wrap ((s : Int) + 1 + (x : Int)) = (s : Int) + 1 + (x : Int) := by rw [IntKind.wrap_i64]; omega
         go_simp
         exact zEr
       · go_simp
         exact zEr
       · go_simp
         exact zEr
       · have e12 : f1 12 = _ := hd 12 (by kernel_rfl)
         have e13 : f1 13 = _ := hd 13 (by kernel_rfl)
         go_simp
         exact zEr
       · have e14 : f1 14 = _ := hd 14 (by kernel_rfl)
         go_simp
         exact zEr
       · have e15 : f1 15 = _ := hd 15 (by kernel_rfl)
         have hu2 := zEt (Ext.drew wr) hu
         have q0 := ext_cell hu2 c3
         go_simp
         exact zEr
       · have e16 : f1 16 = _ := hd 16 (by kernel_rfl)
         go_simp
         exact zEr
       · go_simp
         exact zEr
       · have e18 : f1 18 = _ := hd 18 (by kernel_rfl)
         go_simp
         exact zEr
       · have e17 : f1 17 = _ := hd 17 (by kernel_rfl)
         have e19 : f1 19 = _ := hd 19 (by kernel_rfl)
         have q := HMY.out
         go_simp
         exact zEr
       · have e11 : f1 11 = _ := hd 11 (by kernel_rfl)
         have e20 : f1 20 = _ := hd 20 (by kernel_rfl)
         have q1 : x ≤ 100001 ∧ y ≤ 100001 := by have := HXY.out; omega
         have q : IntKind.i64.wrap ((s : Int) + 1 + (x : Int) + (y : Int)) = (s : Int) + 1 + (x : Int) + (y : Int) := by rw [IntKind.wrap_i64]; omega
         go_simp
         exact zEr
       · have e21 : f1 21 = _ := hd 21 (by kernel_rfl)
         go_simp
         exact zEr
    · have t : decide ((s : Int) ≤ 100000) = false := decide_eq_false (by omega)
      have tn : decide (s ≤ 100000) = false := decide_eq_false hs1
      have t2 : decide ((100000 : Int) < (s : Int)) = true := decide_eq_true (by omega)
      have t2n : decide (100000 < s) = true := decide_eq_true (by omega)
      clear hs1 hlt hm hs
      go_wp2_with fail
      go_ret
      exact ⟨true, fun h => (by cases h), rfl, HX.out⟩
  · have d : decide ((i : Int) < (L.length : Int)) = false := decide_eq_false (by omega)
    have dn : decide (i < L.length) = false := decide_eq_false hlt
    have HI : Hid (i = L.length) := by unfold Hid; omega
    by_cases hs1 : s ≤ 100000
    · have t2 : decide ((100000 : Int) < (s : Int)) = false := decide_eq_false (by omega)
      have t2n : decide (100000 < s) = false := decide_eq_false (by omega)
      have HS1 := zHd hs1
      clear hs1 hlt hm hs
      go_wp2_with fail
      go_ret
      refine ⟨false, fun _ => ?_, rfl, HX.out⟩
      obtain ⟨h1, h2⟩ := HR.out HS1.out
      have h3 := HI.out
      have h4 := HS1.out
      rw [h3, List.take_length] at h2
      exact ⟨by omega, fun p hp => by have := h2 p hp; omega⟩
    · have t2 : decide ((100000 : Int) < (s : Int)) = true := decide_eq_true (by omega)
      have t2n : decide (100000 < s) = true := decide_eq_true (by omega)
      clear hs1 hlt hm hs
      go_wp2_with fail
      go_ret
      exact ⟨true, fun h => (by cases h), rfl, HX.out⟩
end Go.Proofs.YtkdidghfcfcpfaaGreat
namespace Go.Proofs.YtkdidghfcfcpfaaGreat
def be4 (n : Nat) : List Nat := [n / 16777216 % 256, n / 65536 % 256, n / 256 % 256, n % 256]
def num4 (l : List Nat) : Nat := l.foldl (fun n c => n * 256 + c) 0
theorem be4_length (n : Nat) : (be4 n).length = 4 := rfl
theorem be4_lt (n : Nat) : ∀ c ∈ be4 n, c < 256 := by
 intro c hc
 simp only [be4, List.mem_cons, List.not_mem_nil, or_false] at hc
 rcases hc with rfl | rfl | rfl | rfl <;> omega
theorem num4_be4 {n : Nat} (h : n < 4294967296) : num4 (be4 n) = n := by
 simp only [num4, be4, List.foldl]; omega
theorem list4 {l : List Nat} (h : l.length = 4) : ∃ a b c d, l = [a, b, c, d] := by
 match l, h with
 | [a, b, c, d], _ => exact ⟨a, b, c, d, rfl⟩
theorem num4_lt {l : List Nat} (h : l.length = 4) (hb : ∀ c ∈ l, c < 256) : num4 l < 4294967296 := by
 obtain ⟨a, b, c, d, rfl⟩ := list4 h
 have ha := hb a (by simp)
 have hb' := hb b (by simp)
 have hc := hb c (by simp)
 have hd := hb d (by simp)
 simp only [num4, List.foldl]; omega
def shr : List Nat → List Nat → Nat
 | a :: l, b :: r => if a = b then shr l r + 1 else 0
 | _, _ => 0
theorem shr_nil (b : List Nat) : shr [] b = 0 := by cases b <;> rfl
theorem shr_le_l : ∀ (a b : List Nat), shr a b ≤ a.length
 | [], b => by rw [shr_nil]; exact Nat.zero_le _
 | _ :: _, [] => Nat.zero_le _
 | x :: l, y :: r => by
  unfold shr
  split
  · have := shr_le_l l r; simp only [List.length_cons]; omega
  · omega
theorem shr_le_r : ∀ (a b : List Nat), shr a b ≤ b.length
 | [], b => by rw [shr_nil]; exact Nat.zero_le _
 | _ :: _, [] => Nat.zero_le _
 | x :: l, y :: r => by
  unfold shr
  split
  · have := shr_le_r l r; simp only [List.length_cons]; omega
  · omega
theorem shr_take : ∀ (a b : List Nat), a.take (shr a b) = b.take (shr a b)
 | [], b => by rw [shr_nil]; rfl
 | _ :: _, [] => rfl
 | x :: l, y :: r => by
  unfold shr
  split
  · rename_i h
    rw [List.take_succ_cons, List.take_succ_cons, h, shr_take l r]
  · rfl
theorem shr_is : ∀ {a b : List Nat} {n : Nat}, n ≤ a.length → n ≤ b.length → a.take n = b.take n → (∀ x y, a[n]? = some x → b[n]? = some y → x ≠ y) → shr a b = n
 | [], b, n, h1, _, _, _ => by rw [shr_nil]; simp at h1; omega
 | _ :: _, [], n, _, h2, _, _ => by simp at h2; subst h2; rfl
 | x :: l, y :: r, n, h1, h2, h3, h4 => by
  unfold shr
  cases n with
  | zero =>
   have := h4 x y rfl rfl
   rw [if_neg this]
  | succ n =>
   rw [List.take_succ_cons, List.take_succ_cons] at h3
   injection h3 with h3 h5
   rw [if_pos h3, shr_is (n := n) (by simpa using h1) (by simpa using h2) h5 (fun u v hu hv => h4 u v (by simpa using hu) (by simpa using hv))]
def kform (ah : List Nat) (e : Ent) : List Nat :=
 form (shr ah e.key) ++ (bytesForm (e.key.drop (shr ah e.key)) ++ (form e.seq.toNat ++ (form e.kind.toNat ++ (if e.kind = 1 then bytesForm e.val else []))))
theorem kform_pos (ah : List Nat) (e : Ent) : 0 < (kform ah e).length := by
 have := form_pos (shr ah e.key)
 unfold kform
 rw [List.length_append]; omega
theorem kform_len {ah : List Nat} {e : Ent} (h : e.may = true) : (kform ah e).length ≤ 65700 := by
 obtain ⟨u1, u2, u3, u4⟩ := Ent.may_u64 h
 obtain ⟨h1, h2, h3, h4, h5⟩ := mayN_iff.1 h
 have hs := shr_le_r ah e.key
 have a0 := form_len64 (n := shr ah e.key) ⟨by omega⟩
 have hd : (e.key.drop (shr ah e.key)).length ≤ 32 := by rw [List.length_drop]; omega
 have a1 := (bytesForm_len (l := e.key.drop (shr ah e.key)) ⟨by omega⟩).1
 have a2 := form_len64 u2
 have a3 := form_len64 u3
 have a4 := (bytesForm_len u4).1
 unfold kform
 split <;> simp only [List.length_append, List.length_nil] <;> rcases h5 with ⟨h5, h6⟩ | ⟨h5, h6⟩ <;> omega
theorem kform_lt {ah : List Nat} {e : Ent} (hk : ∀ x ∈ e.key, x < 256) (hv : ∀ x ∈ e.val, x < 256) : ∀ x ∈ kform ah e, x < 256 := by
 intro x hx
 unfold kform bytesForm at hx
 simp only [List.mem_append] at hx
 rcases hx with hx | (hx | hx) | hx | hx | hx
 · exact form_bytes _ x hx
 · exact form_bytes _ x hx
 · exact hk x (List.mem_of_mem_drop hx)
 · exact form_bytes _ x hx
 · exact form_bytes _ x hx
 · split at hx
   · rcases List.mem_append.1 hx with hx | hx
     · exact form_bytes _ x hx
     · exact hv x hx
   · cases hx
def ahOf (L : List Ent) (i : Nat) : List Nat := if i % 4 = 0 then [] else ((L[i - 1]?).map Ent.key).getD []
def pieceOf (L : List Ent) (i : Nat) : List Nat := ((L[i]?).map (kform (ahOf L i))).getD []
def upto (L : List Ent) (k : Nat) : List Nat := (List.range k).flatMap (pieceOf L)
def fromK (L : List Ent) (k : Nat) : List Nat := (List.range (L.length - k)).flatMap fun i => pieceOf L (k + i)
def ats (L : List Ent) (k : Nat) : List Nat := ((List.range k).filter fun i => i % 4 = 0).map fun i => (upto L i).length
def wr (L : List Ent) : List Nat := upto L L.length ++ ((ats L L.length).flatMap be4 ++ be4 (ats L L.length).length)
def MayB (L : List Ent) : Prop := 1 ≤ L.length ∧ L.length ≤ 1024 ∧ Rise L ∧ ∀ e ∈ L, e.may = true
theorem upto_zero (L : List Ent) : upto L 0 = [] := rfl
theorem upto_succ (L : List Ent) (k : Nat) : upto L (k + 1) = upto L k ++ pieceOf L k := by
 unfold upto
 rw [List.range_succ, List.flatMap_append]; simp
theorem piece_at {L : List Ent} {k : Nat} {e : Ent} (h : L[k]? = some e) : pieceOf L k = kform (ahOf L k) e := by unfold pieceOf; rw [h]; rfl
theorem fromK_at {L : List Ent} {k : Nat} (h : k < L.length) : fromK L k = pieceOf L k ++ fromK L (k + 1) := by
 unfold fromK
 have e1 : L.length - k = (L.length - (k + 1)) + 1 := by omega
 rw [e1, List.range_succ_eq_map, List.flatMap_cons, List.flatMap_map]
 congr 1
 refine congrArg (fun f => List.flatMap f _) ?_
 funext i
 show pieceOf L (k + (i + 1)) = _
 congr 1; omega
theorem fromK_end (L : List Ent) {k : Nat} (h : L.length ≤ k) : fromK L k = [] := by
 unfold fromK
 rw [show L.length - k = 0 by omega]; rfl
theorem fromK_zero (L : List Ent) : fromK L 0 = upto L L.length := by
 unfold fromK upto
 rw [Nat.sub_zero]
 refine congrArg (fun f => List.flatMap f _) ?_
 funext i
 rw [Nat.zero_add]
theorem ats_zero (L : List Ent) : ats L 0 = [] := rfl
theorem ats_hit (L : List Ent) {k : Nat} (h : k % 4 = 0) : ats L (k + 1) = ats L k ++ [(upto L k).length] := by
 unfold ats
 rw [List.range_succ, List.filter_append, List.map_append]
 simp [h]
theorem ats_miss (L : List Ent) {k : Nat} (h : k % 4 ≠ 0) : ats L (k + 1) = ats L k := by
 unfold ats
 rw [List.range_succ, List.filter_append, List.map_append]
 simp [h]
theorem ats_len (L : List Ent) (k : Nat) : (ats L k).length = (k + 3) / 4 := by
 induction k with
 | zero => rfl
 | succ k ih =>
  by_cases h : k % 4 = 0
  · rw [ats_hit L h, List.length_append, ih, List.length_singleton]; omega
  · rw [ats_miss L h, ih]; omega
theorem ats_get (L : List Ent) (k j : Nat) (h : 4 * j < k) : (ats L k)[j]? = some (upto L (4 * j)).length := by
 induction k with
 | zero => omega
 | succ k ih =>
  have hl := ats_len L k
  by_cases hk : k % 4 = 0
  · rw [ats_hit L hk]
    by_cases h1 : 4 * j < k
    · rw [List.getElem?_append_left (by omega)]; exact ih h1
    · have : k = 4 * j := by omega
      subst this
      rw [List.getElem?_append_right (by omega), hl, show j - (4 * j + 3) / 4 = 0 by omega]; rfl
  · rw [ats_miss L hk]; exact ih (by omega)
theorem upto_le {L : List Ent} (hm : ∀ e ∈ L, e.may = true) (k : Nat) : (upto L k).length ≤ 65700 * k := by
 induction k with
 | zero => simp [upto_zero]
 | succ k ih =>
  rw [upto_succ, List.length_append]
  have : (pieceOf L k).length ≤ 65700 := by
   cases h : L[k]? with
   | none => unfold pieceOf; rw [h]; simp
   | some e => rw [piece_at h]; exact kform_len (hm e (List.mem_of_getElem? h))
  omega
theorem ats_lt {L : List Ent} (hm : ∀ e ∈ L, e.may = true) (hl : L.length ≤ 1024) : ∀ x ∈ ats L L.length, x < 4294967296 := by
 intro x hx
 unfold ats at hx
 simp only [List.mem_map, List.mem_filter, List.mem_range] at hx
 obtain ⟨i, ⟨hi, _⟩, rfl⟩ := hx
 have := upto_le hm i
 omega
theorem flat4_len (l : List Nat) : (l.flatMap be4).length = 4 * l.length := by
 induction l with
 | nil => rfl
 | cons a l ih => rw [List.flatMap_cons, List.length_append, ih, be4_length, List.length_cons]; omega
theorem wr_len (L : List Ent) : (wr L).length = (upto L L.length).length + 4 * (ats L L.length).length + 4 := by
 unfold wr
 rw [List.length_append, List.length_append, flat4_len, be4_length]; omega
theorem upto_lt {L : List Ent} (hb : ∀ e ∈ L, (∀ x ∈ e.key, x < 256) ∧ ∀ x ∈ e.val, x < 256) (k : Nat) : ∀ x ∈ upto L k, x < 256 := by
 induction k with
 | zero => intro x hx; cases hx
 | succ k ih =>
  intro x hx
  rw [upto_succ] at hx
  rcases List.mem_append.1 hx with hx | hx
  · exact ih x hx
  · cases h : L[k]? with
    | none => unfold pieceOf at hx; rw [h] at hx; cases hx
    | some e => rw [piece_at h] at hx; exact kform_lt (hb e (List.mem_of_getElem? h)).1 (hb e (List.mem_of_getElem? h)).2 x hx
def Stands (ah l : List Nat) (e : Ent) (rest : List Nat) : Prop :=
 e.may = true ∧ ∃ n, n ≤ ah.length ∧ n ≤ e.key.length ∧ ah.take n = e.key.take n ∧
  l = form n ++ (bytesForm (e.key.drop n) ++ (form e.seq.toNat ++ (form e.kind.toNat ++ ((if e.kind = 1 then bytesForm e.val else []) ++ rest))))
theorem stands_kform {ah : List Nat} {e : Ent} (h : e.may = true) (rest : List Nat) : Stands ah (kform ah e ++ rest) e rest := by
 refine ⟨h, shr ah e.key, shr_le_l _ _, shr_le_r _ _, shr_take _ _, ?_⟩
 unfold kform
 simp only [List.append_assoc]
def BodyIs (L : List Ent) (bd : List Nat) : Prop := MayB L ∧ upto L L.length = bd
structure Ahead (bd : List Nat) (k : Nat) (ah l : List Nat) : Prop where
 is : ∀ L, BodyIs L bd → k ≤ L.length ∧ l = fromK L k ∧ (0 < k → ∃ p, L[k - 1]? = some p ∧ ah = p.key) ∧ (k = 0 → ah = [])
theorem Ahead.start (bd : List Nat) : Ahead bd 0 [] bd := ⟨fun L h => ⟨Nat.zero_le _, by rw [fromK_zero]; exact h.2.symm, fun h => absurd h (by omega), fun _ => rfl⟩⟩
theorem Ahead.stands {bd : List Nat} {k : Nat} {ah l : List Nat} (h : Ahead bd k ah l) {L : List Ent} (hL : BodyIs L bd) (hl : l ≠ []) : ∃ e, L[k]? = some e ∧ Stands ah l e (fromK L (k + 1)) := by
 obtain ⟨h1, h2, h3, h4⟩ := h.is L hL
 have hk : k < L.length := by
  rcases Nat.lt_or_ge k L.length with h | h
  · exact h
  · exact absurd (h2.trans (fromK_end L h)) hl
 refine ⟨L[k], List.getElem?_eq_getElem hk, ?_⟩
 rw [h2, fromK_at hk, piece_at (List.getElem?_eq_getElem hk)]
 have hm : L[k].may = true := hL.1.2.2.2 _ (List.getElem_mem hk)
 by_cases h0 : k % 4 = 0
 · unfold ahOf
   rw [if_pos h0]
   refine ⟨hm, 0, Nat.zero_le _, Nat.zero_le _, rfl, ?_⟩
   unfold kform
   rw [shr_nil]
   simp only [List.append_assoc]
 · have hk0 : 0 < k := by omega
   obtain ⟨p, hp, ha⟩ := h3 hk0
   unfold ahOf
   rw [if_neg h0, hp, ha]
   exact stands_kform hm _
theorem Ahead.ends {bd : List Nat} {k : Nat} {ah : List Nat} (h : Ahead bd k ah []) {L : List Ent} (hL : BodyIs L bd) : L.length = k := by
 obtain ⟨h1, h2, h3, h4⟩ := h.is L hL
 rcases Nat.lt_or_ge k L.length with hk | hk
 · rw [fromK_at hk, piece_at (List.getElem?_eq_getElem hk)] at h2
   have h5 := congrArg List.length h2
   rw [List.length_append, List.length_nil] at h5
   have := kform_pos (ahOf L k) L[k]
   omega
 · omega
theorem Ahead.next {bd : List Nat} {k : Nat} {ah l rest : List Nat} {e : Ent} (h : Ahead bd k ah l) (hl : l ≠ []) (hn : ∀ e' rest', Stands ah l e' rest' → e' = e ∧ rest' = rest) :
    Ahead bd (k + 1) e.key rest ∧ ∀ L, BodyIs L bd → L[k]? = some e := by
 have hh : ∀ L, BodyIs L bd → L[k]? = some e ∧ rest = fromK L (k + 1) := fun L hL => by
  obtain ⟨e', he', hs⟩ := h.stands hL hl
  obtain ⟨rfl, e2⟩ := hn _ _ hs
  exact ⟨he', e2.symm⟩
 refine ⟨⟨fun L hL => ⟨?_, (hh L hL).2, fun _ => ⟨e, by simpa using (hh L hL).1, rfl⟩, fun h => absurd h (by omega)⟩⟩, fun L hL => (hh L hL).1⟩
 have := (zLg.1 (hh L hL).1).1
 omega
theorem Stands.unique {ah l : List Nat} {e e' : Ent} {rest rest' : List Nat} (h : Stands ah l e rest) (h' : Stands ah l e' rest') : e = e' ∧ rest = rest' := by
 obtain ⟨hm, n, a1, a2, a3, a4⟩ := h
 obtain ⟨hm', n', b1, b2, b3, b4⟩ := h'
 obtain ⟨u1, u2, u3, u4⟩ := Ent.may_u64 hm
 obtain ⟨v1, v2, v3, v4⟩ := Ent.may_u64 hm'
 have hh := a4.symm.trans b4
 have un : U64 n := ⟨Nat.lt_of_le_of_lt a2 u1.lt⟩
 have un' : U64 n' := ⟨Nat.lt_of_le_of_lt b2 v1.lt⟩
 obtain ⟨rfl, hh⟩ := form_cut un un' hh
 have ud : U64 (e.key.drop n).length := ⟨by rw [List.length_drop]; have := u1.lt; omega⟩
 have ud' : U64 (e'.key.drop n).length := ⟨by rw [List.length_drop]; have := v1.lt; omega⟩
 obtain ⟨e1, hh⟩ := bytesForm_cut ud ud' hh
 obtain ⟨e2, hh⟩ := form_cut u2 v2 hh
 obtain ⟨e3, hh⟩ := form_cut u3 v3 hh
 obtain ⟨c1, c2, c3, c4, c5⟩ := mayN_iff.1 hm
 obtain ⟨d1, d2, d3, d4, d5⟩ := mayN_iff.1 hm'
 have k0 : e.kind = e'.kind := by rcases c5 with ⟨a, _⟩ | ⟨a, _⟩ <;> rcases d5 with ⟨b, _⟩ | ⟨b, _⟩ <;> omega
 have s0 : e.seq = e'.seq := by omega
 have key0 : e.key = e'.key := by
  rw [← List.take_append_drop n e.key, ← List.take_append_drop n e'.key, e1, ← a3, ← b3]
 rcases c5 with ⟨a, _⟩ | ⟨a, an⟩
 · rw [if_pos a, if_pos (k0.symm.trans a)] at hh
   obtain ⟨e4, e5⟩ := bytesForm_cut u4 v4 hh
   refine ⟨?_, e5⟩
   cases e; cases e'; simp_all
 · have hk2 : ¬ e.kind = 1 := by omega
   have hk2' : ¬ e'.kind = 1 := by omega
   rw [if_neg hk2, if_neg hk2'] at hh
   have v0 : e.val = e'.val := by
    rcases d5 with ⟨b, _⟩ | ⟨b, bn⟩
    · omega
    · rw [List.eq_nil_of_length_eq_zero an, List.eq_nil_of_length_eq_zero bn]
   refine ⟨?_, by simpa using hh⟩
   cases e; cases e'; simp_all
theorem body_unique_at {bd : List Nat} {L M : List Ent} (h : BodyIs L bd) (k : BodyIs M bd) : ∀ n, n ≤ L.length → n ≤ M.length ∧ L.take n = M.take n ∧ fromK L n = fromK M n := by
 intro n
 induction n with
 | zero => intro _; exact ⟨Nat.zero_le _, rfl, by rw [fromK_zero, fromK_zero, h.2, k.2]⟩
 | succ n ih =>
  intro hn
  obtain ⟨h1, h2, h3⟩ := ih (by omega)
  have hA : Ahead bd n (if n = 0 then [] else ((L[n - 1]?).map Ent.key).getD []) (fromK L n) → True := fun _ => trivial
  have hk : n < L.length := by omega
  have hm : n < M.length := by
   rcases Nat.lt_or_ge n M.length with hx | hx
   · exact hx
   · rw [fromK_end M hx, fromK_at hk, piece_at (List.getElem?_eq_getElem hk)] at h3
     have h5 := congrArg List.length h3
     rw [List.length_append, List.length_nil] at h5
     have := kform_pos (ahOf L n) L[n]
     omega
  have hah : ahOf L n = ahOf M n := by
   unfold ahOf
   split
   · rfl
   · have e1 : L[n - 1]? = (L.take n)[n - 1]? := by rw [List.getElem?_take, if_pos (by omega)]
     have e2 : M[n - 1]? = (M.take n)[n - 1]? := by rw [List.getElem?_take, if_pos (by omega)]
     rw [e1, e2, h2]
  have h4 := h3
  rw [fromK_at hk, fromK_at hm, piece_at (List.getElem?_eq_getElem hk), piece_at (List.getElem?_eq_getElem hm), hah] at h4
  have s1 := stands_kform (ah := ahOf M n) (h.1.2.2.2 _ (List.getElem_mem hk)) (fromK L (n + 1))
  have s2 := stands_kform (ah := ahOf M n) (k.1.2.2.2 _ (List.getElem_mem hm)) (fromK M (n + 1))
  rw [h4] at s1
  obtain ⟨e1, e2⟩ := s1.unique s2
  refine ⟨hm, ?_, e2⟩
  rw [List.take_add_one, List.take_add_one, h2, List.getElem?_eq_getElem hk, List.getElem?_eq_getElem hm, e1]
theorem body_unique {bd : List Nat} {L M : List Ent} (h : BodyIs L bd) (k : BodyIs M bd) : L = M := by
 obtain ⟨h1, h2, _⟩ := body_unique_at h k L.length (zNr _)
 obtain ⟨k1, _, _⟩ := body_unique_at k h M.length (zNr _)
 have e : L.length = M.length := by omega
 rw [List.take_length, e, List.take_length] at h2
 exact h2
def IsB (b : List Nat) (L : List Ent) : Prop := MayB L ∧ wr L = b
def bodyOf (b : List Nat) : List Nat := b.take (b.length - 4 - 4 * num4 (b.drop (b.length - 4)))
theorem IsB.last {b : List Nat} {L : List Ent} (h : IsB b L) : 4 ≤ b.length ∧ b.drop (b.length - 4) = be4 (ats L L.length).length ∧ num4 (b.drop (b.length - 4)) = (L.length + 3) / 4 ∧ b.length = (upto L L.length).length + 4 * ((L.length + 3) / 4) + 4 := by
 have hl := wr_len L
 rw [h.2] at hl
 rw [ats_len] at hl
 have hd : b.drop (b.length - 4) = be4 (ats L L.length).length := by
  rw [← h.2, wr_len]
  unfold wr
  rw [← List.append_assoc, List.drop_append_of_le_length (by rw [List.length_append, flat4_len]; omega)]
  rw [List.drop_eq_nil_of_le (by rw [List.length_append, flat4_len]; omega)]; rfl
 refine ⟨by omega, hd, ?_, hl⟩
 rw [hd, ats_len]
 have := h.1.2.1
 exact num4_be4 (by omega)
theorem IsB.body {b : List Nat} {L : List Ent} (h : IsB b L) : BodyIs L (bodyOf b) := by
 obtain ⟨h1, h2, h3, h4⟩ := h.last
 refine ⟨h.1, ?_⟩
 unfold bodyOf
 rw [h3, show b.length - 4 - 4 * ((L.length + 3) / 4) = (upto L L.length).length by omega, ← h.2]
 unfold wr
 rw [List.take_append_of_le_length (zNr _), List.take_length]
theorem IsB.unique {b : List Nat} {L M : List Ent} (h : IsB b L) (k : IsB b M) : L = M := body_unique h.body k.body
end Go.Proofs.YtkdidghfcfcpfaaGreat
namespace Go.Proofs.YtkdidghfcfcpfaaGreat.Bl
def pol : Nat := 2197175160
def sh (s : Nat) : Nat := (s / 2) ^^^ (s % 2 * pol)
def shn : Nat → Nat → Nat
 | 0, s => s
 | n + 1, s => shn n (sh s)
theorem shn_add (a b s : Nat) : shn (a + b) s = shn b (shn a s) := by
 induction a generalizing s with
 | zero => rw [Nat.zero_add]; rfl
 | succ a ih => rw [show a + 1 + b = (a + b) + 1 by omega]; exact ih _
theorem shn_succ' (n s : Nat) : shn (n + 1) s = sh (shn n s) := shn_add n 1 s
theorem xor_mod2 (a b : Nat) : (a ^^^ b) % 2 = (a % 2) ^^^ (b % 2) := by
 have h := Nat.xor_mod_two_pow (a := a) (b := b) (n := 1)
 simpa using h
theorem xor_div2 (a b : Nat) : (a ^^^ b) / 2 = (a / 2) ^^^ (b / 2) := by
 have h := Nat.xor_div_two_pow (a := a) (b := b) (n := 1)
 simpa using h
theorem bit_mul (a b p : Nat) : ((a % 2) ^^^ (b % 2)) * p = (a % 2 * p) ^^^ (b % 2 * p) := by
 rcases Nat.mod_two_eq_zero_or_one a with h | h <;> rcases Nat.mod_two_eq_zero_or_one b with k | k <;> simp [h, k]
theorem xor_swap (a b c d : Nat) : (a ^^^ b) ^^^ (c ^^^ d) = (a ^^^ c) ^^^ (b ^^^ d) := by
 rw [Nat.xor_assoc, ← Nat.xor_assoc b c d, Nat.xor_comm b c, Nat.xor_assoc c b d, ← Nat.xor_assoc]
theorem sh_xor (a b : Nat) : sh (a ^^^ b) = sh a ^^^ sh b := by
 unfold sh
 rw [xor_div2, xor_mod2, bit_mul, xor_swap]
theorem shn_xor (n a b : Nat) : shn n (a ^^^ b) = shn n a ^^^ shn n b := by
 induction n generalizing a b with
 | zero => rfl
 | succ n ih => unfold shn; rw [sh_xor, ih]
theorem xor_lt {a b : Nat} (h : a < 4294967296) (k : b < 4294967296) : a ^^^ b < 4294967296 := Nat.xor_lt_two_pow (n := 32) h k
theorem sh_lt {s : Nat} (h : s < 4294967296) : sh s < 4294967296 := by
 unfold sh
 refine xor_lt (by omega) ?_
 have : s % 2 < 2 := Nat.mod_lt _ (by omega)
 unfold pol
 omega
theorem shn_lt {n s : Nat} (h : s < 4294967296) : shn n s < 4294967296 := by
 induction n generalizing s with
 | zero => exact h
 | succ n ih => exact ih (sh_lt h)
def reg : Nat → List Nat → Nat
 | s, [] => s
 | s, c :: l => reg (shn 8 (s ^^^ c)) l
theorem reg_append (s : Nat) (l r : List Nat) : reg s (l ++ r) = reg (reg s l) r := by
 induction l generalizing s with
 | nil => rfl
 | cons c l ih => exact ih _
theorem reg_snoc (s : Nat) (l : List Nat) (c : Nat) : reg s (l ++ [c]) = shn 8 (reg s l ^^^ c) := by rw [reg_append]; rfl
theorem reg_lt {s : Nat} {l : List Nat} (h : s < 4294967296) (hl : ∀ c ∈ l, c < 256) : reg s l < 4294967296 := by
 induction l generalizing s with
 | nil => exact h
 | cons c l ih => exact ih (shn_lt (xor_lt h (by have := hl c (by simp); omega))) (fun x hx => hl x (by simp [hx]))
def ones : Nat := 4294967295
theorem ones_lt : ones < 4294967296 := by unfold ones; omega
def more (sum : Nat) (l : List Nat) : Nat := reg (sum ^^^ ones) l ^^^ ones
def crc (l : List Nat) : Nat := reg ones l ^^^ ones
theorem crc_lt {l : List Nat} (hl : ∀ c ∈ l, c < 256) : crc l < 4294967296 := xor_lt (reg_lt ones_lt hl) ones_lt
theorem more_lt {s : Nat} {l : List Nat} (h : s < 4294967296) (hl : ∀ c ∈ l, c < 256) : more s l < 4294967296 := xor_lt (reg_lt (xor_lt h ones_lt) hl) ones_lt
theorem more_zero (l : List Nat) : more 0 l = crc l := by unfold more crc; rw [Nat.zero_xor]
theorem shn4 (r : Nat) : shn 4 r = (r / 16) ^^^ shn 4 (r % 16) := by
 have h : r = (r / 16 * 16) ^^^ (r % 16) := by
  apply Nat.eq_of_testBit_eq
  intro i
  rw [Nat.testBit_xor, show r / 16 * 16 = (r / 2 ^ 4) <<< 4 by rw [Nat.shiftLeft_eq], Nat.testBit_shiftLeft, show r % 16 = r % 2 ^ 4 from rfl, Nat.testBit_mod_two_pow]
  by_cases hi : 4 ≤ i
  · have e2 : (r / 2 ^ 4).testBit (i - 4) = r.testBit i := by rw [Nat.testBit_div_two_pow]; congr 1; omega
    rw [e2]
    simp [hi, show ¬ i < 4 by omega]
  · simp [hi, show i < 4 by omega]
 have e2 : ∀ q, sh (2 * q) = q := by
  intro q; unfold sh
  rw [show 2 * q / 2 = q by omega, show 2 * q % 2 = 0 by omega, Nat.zero_mul, Nat.xor_zero]
 have e4 : shn 4 (r / 16 * 16) = r / 16 := by
  simp only [shn]
  rw [show r / 16 * 16 = 2 * (2 * (2 * (2 * (r / 16)))) by omega, e2, e2, e2, e2]
 conv => lhs; rw [h, shn_xor, e4]
theorem shn4_lt16 {n : Nat} (h : n < 16) : shn 4 n < 4294967296 := shn_lt (by omega)
end Go.Proofs.YtkdidghfcfcpfaaGreat.Bl
namespace Go.Proofs.YtkdidghfcfcpfaaGreat.Bl
def bsize (n : Nat) : Nat := (n / 8 + 1) * 8
theorem bsize_pos (n : Nat) : 8 ≤ bsize n := by unfold bsize; omega
theorem bsize_mod (n : Nat) : bsize n % 8 = 0 := by unfold bsize; omega
theorem bsize_le {n : Nat} (h : n ≤ 65536) : bsize n ≤ 65544 := by unfold bsize; omega
def way (l : List Nat) : Nat := crc (l ++ [1]) ||| 1
def kb (l : List Nat) (m i : Nat) : Nat := (crc l + i * way l) % 4294967296 % m
def kbs (l : List Nat) (m : Nat) : List Nat := [kb l m 0, kb l m 1, kb l m 2, kb l m 3, kb l m 4]
theorem kbs_length (l : List Nat) (m : Nat) : (kbs l m).length = 5 := rfl
theorem kbs_get (l : List Nat) (m i : Nat) (h : i < (kbs l m).length) : (kbs l m)[i] = kb l m i := by
 have h' : i < 5 := h
 match i, h' with
 | 0, _ => rfl
 | 1, _ => rfl
 | 2, _ => rfl
 | 3, _ => rfl
 | 4, _ => rfl
theorem kb_lt {l : List Nat} {m i : Nat} (h : 0 < m) : kb l m i < m := Nat.mod_lt _ h
theorem kbs_lt {l : List Nat} {m j : Nat} (h : 0 < m) (hj : j ∈ kbs l m) : j < m := by
 unfold kbs at hj
 simp only [List.mem_cons, List.not_mem_nil, or_false] at hj
 rcases hj with rfl | rfl | rfl | rfl | rfl <;> exact kb_lt h
theorem or_lt {a b : Nat} (h : a < 4294967296) (k : b < 4294967296) : a ||| b < 4294967296 := Nat.or_lt_two_pow (n := 32) h k
def bitOf (F : List Nat) (j : Nat) : Bool := F.getD (j / 8) 0 / 2 ^ (j % 8) % 2 == 1
def setB (F : List Nat) (j : Nat) : List Nat := F.set (j / 8) (F.getD (j / 8) 0 ||| 2 ^ (j % 8))
def addK (F l : List Nat) : List Nat := (kbs l (8 * F.length)).foldl setB F
def mk (ls : List (List Nat)) : List Nat := ls.foldl addK (List.replicate (bsize ls.length) 0)
def okF (n : Nat) : Bool := decide (n ≠ 0 ∧ n % 8 = 0 ∧ n ≤ 131072)
def mayB (F l : List Nat) : Bool := (kbs l (8 * F.length)).all (bitOf F)
theorem setB_length (F : List Nat) (j : Nat) : (setB F j).length = F.length := by simp [setB]
theorem setBs_length (js F : List Nat) : (js.foldl setB F).length = F.length := by
 induction js generalizing F with
 | nil => rfl
 | cons j js ih => rw [List.foldl_cons, ih, setB_length]
theorem addK_length (F l : List Nat) : (addK F l).length = F.length := setBs_length _ _
theorem addKs_length (ls : List (List Nat)) (F : List Nat) : (ls.foldl addK F).length = F.length := by
 induction ls generalizing F with
 | nil => rfl
 | cons l ls ih => rw [List.foldl_cons, ih, addK_length]
theorem mk_length (ls : List (List Nat)) : (mk ls).length = bsize ls.length := by unfold mk; rw [addKs_length, List.length_replicate]
theorem byte_or : ∀ x, x < 256 → ∀ k, k < 8 → x ||| 2 ^ k < 256 := by decide +kernel
theorem byte_set : ∀ x, x < 256 → ∀ k, k < 8 → (x ||| 2 ^ k) = if x / 2 ^ k % 2 = 1 then x else x + 2 ^ k := by decide +kernel
theorem byte_and : ∀ x, x < 256 → ∀ k, k < 8 → (x &&& 2 ^ k == 0) = !(x / 2 ^ k % 2 == 1) := by decide +kernel
theorem getD_lt {F : List Nat} (h : ∀ x ∈ F, x < 256) (i : Nat) : F.getD i 0 < 256 := by
 rcases Nat.lt_or_ge i F.length with hi | hi
 · rw [List.getD_eq_getElem?_getD, List.getElem?_eq_getElem hi]; exact h _ (List.getElem_mem hi)
 · rw [List.getD_eq_getElem?_getD, List.getElem?_eq_none hi]; decide
theorem setB_lt {F : List Nat} (h : ∀ x ∈ F, x < 256) (j : Nat) : ∀ x ∈ setB F j, x < 256 := by
 intro x hx
 unfold setB at hx
 rcases List.mem_or_eq_of_mem_set hx with hx | rfl
 · exact h x hx
 · exact byte_or _ (getD_lt h _) _ (Nat.mod_lt _ (by decide))
theorem setBs_lt {js F : List Nat} (h : ∀ x ∈ F, x < 256) : ∀ x ∈ js.foldl setB F, x < 256 := by
 induction js generalizing F with
 | nil => exact h
 | cons j js ih => exact ih (setB_lt h j)
theorem addK_lt {F : List Nat} (h : ∀ x ∈ F, x < 256) (l : List Nat) : ∀ x ∈ addK F l, x < 256 := setBs_lt h
theorem addKs_lt {ls : List (List Nat)} {F : List Nat} (h : ∀ x ∈ F, x < 256) : ∀ x ∈ ls.foldl addK F, x < 256 := by
 induction ls generalizing F with
 | nil => exact h
 | cons l ls ih => exact ih (addK_lt h l)
theorem zeros_lt (n : Nat) : ∀ x ∈ List.replicate n 0, x < 256 := fun x hx => by rw [List.mem_replicate] at hx; omega
theorem mk_lt (ls : List (List Nat)) : ∀ x ∈ mk ls, x < 256 := addKs_lt (zeros_lt _)
theorem testBit_bit (x k : Nat) : (x / 2 ^ k % 2 == 1) = x.testBit k := by
 rw [Nat.testBit_eq_decide_div_mod_eq]
 rfl
theorem bitOf_test (F : List Nat) (j : Nat) : bitOf F j = (F.getD (j / 8) 0).testBit (j % 8) := testBit_bit _ _
theorem bitOf_setB (F : List Nat) (i j : Nat) (hi : i < 8 * F.length) : bitOf (setB F i) j = (bitOf F j || decide (i = j)) := by
 rw [bitOf_test, bitOf_test]
 unfold setB
 have hb : i / 8 < F.length := by omega
 by_cases h : i / 8 = j / 8
 · rw [← h]
   rw [List.getD_eq_getElem?_getD, List.getElem?_set_self hb, Option.getD_some, Nat.testBit_or, Nat.testBit_two_pow]
   congr 1
   rw [decide_eq_decide]
   omega
 · rw [List.getD_eq_getElem?_getD, List.getElem?_set_ne h, ← List.getD_eq_getElem?_getD]
   have : ¬ i = j := fun e => h (by rw [e])
   simp [this]
theorem bitOf_setBs (js F : List Nat) (j : Nat) (hj : ∀ i ∈ js, i < 8 * F.length) : bitOf (js.foldl setB F) j = (bitOf F j || js.contains j) := by
 induction js generalizing F with
 | nil => simp
 | cons i js ih =>
  rw [List.foldl_cons, ih (setB F i) (fun k hk => by rw [setB_length]; exact hj k (by simp [hk])), bitOf_setB F i j (hj i (by simp)), Bool.or_assoc]
  congr 1
  rw [List.contains_cons]
  by_cases h : i = j
  · simp [h]
  · simp [h, Ne.symm h]
theorem bitOf_addK (F l : List Nat) (j : Nat) (h : 0 < F.length) : bitOf (addK F l) j = (bitOf F j || (kbs l (8 * F.length)).contains j) :=
 bitOf_setBs _ _ _ fun _ hi => kbs_lt (by omega) hi
theorem bitOf_addKs (ls : List (List Nat)) (F : List Nat) (j : Nat) (h : 0 < F.length) : bitOf (ls.foldl addK F) j = (bitOf F j || ls.any fun l => (kbs l (8 * F.length)).contains j) := by
 induction ls generalizing F with
 | nil => simp
 | cons l ls ih => rw [List.foldl_cons, ih (addK F l) (by rw [addK_length]; exact h), bitOf_addK F l j h, addK_length, List.any_cons, Bool.or_assoc]
theorem may_added {ls : List (List Nat)} {F l : List Nat} (h : 0 < F.length) (hl : l ∈ ls) : mayB (ls.foldl addK F) l = true := by
 unfold mayB
 rw [List.all_eq_true, addKs_length]
 intro j hj
 rw [bitOf_addKs ls F j h, Bool.or_eq_true]
 right
 rw [List.any_eq_true]
 exact ⟨l, hl, by simpa using hj⟩
theorem may_mk {ls : List (List Nat)} {l : List Nat} (hl : l ∈ ls) : mayB (mk ls) l = true :=
 may_added (by rw [List.length_replicate]; have := bsize_pos ls.length; omega) hl
def pop (b : Nat) : Nat := (List.range 8).countP fun k => b / 2 ^ k % 2 == 1
def cnt (F : List Nat) : Nat := (F.map pop).sum
theorem crc_more (l : List Nat) : more (crc l) [1] = crc (l ++ [1]) := by
 unfold crc more
 rw [reg_append, Nat.xor_assoc, Nat.xor_self, Nat.xor_zero]
end Go.Proofs.YtkdidghfcfcpfaaGreat.Bl
namespace Go.Proofs.YtkdidghfcfcpfaaGreat
open Bl (crc mk)
def Piece (p : List Ent) : Prop := p ≠ [] ∧ ∀ m, 1 ≤ m → m < p.length → (wr (p.take (m + 1))).length ≤ 512
def Link (p : List Ent) (e : Ent) : Prop := 512 < (wr (p ++ [e])).length
def Cuts : List (List Ent) → Prop
 | [] => True
 | p :: C => Piece p ∧ (∀ q C', C = q :: C' → ∃ e q', q = e :: q' ∧ Link p e) ∧ Cuts C
theorem piece_short {p p' : List Ent} {e : Ent} {F : List Ent} (hl : Link p e) (h' : Piece p') (hp : p ≠ []) (hlt : p.length < p'.length) (he : ∃ F', p' ++ F' = p ++ e :: F) : False := by
 obtain ⟨F', he⟩ := he
 have h1 := h'.2 p.length (by cases p with | nil => exact absurd rfl hp | cons a l => simp) hlt
 have e1 : p'.take (p.length + 1) = p ++ [e] := by
  have h2 := congrArg (List.take (p.length + 1)) he
  rw [List.take_append_of_le_length (by omega)] at h2
  rw [h2, List.take_append, List.take_of_length_le (by omega), show p.length + 1 - p.length = 1 by omega]; rfl
 rw [e1] at h1
 unfold Link at hl
 omega
theorem cut_unique : ∀ {C C' : List (List Ent)}, Cuts C → Cuts C' → C.flatten = C'.flatten → C = C'
 | [], [], _, _, _ => rfl
 | [], p :: C', _, h', e => by
  have := h'.1.1
  cases p with
  | nil => exact absurd rfl this
  | cons a l => simp at e
 | p :: C, [], h, _, e => by
  have := h.1.1
  cases p with
  | nil => exact absurd rfl this
  | cons a l => simp at e
 | p :: C, p' :: C', h, h', e => by
  have side : ∀ {p p' : List Ent} {C C' : List (List Ent)}, Cuts (p :: C) → Cuts (p' :: C') → p ++ C.flatten = p' ++ C'.flatten → p.length < p'.length → False := by
   intro p p' C C' h h' e hlt
   cases C with
   | nil =>
    have := congrArg List.length e
    simp at this; omega
   | cons q C2 =>
    obtain ⟨a, q', rfl, hl⟩ := h.2.1 q C2 rfl
    exact piece_short hl h'.1 h.1.1 hlt ⟨C'.flatten, by rw [← e]; simp [List.flatten_cons]; rfl⟩
  simp only [List.flatten_cons] at e
  have hn : p.length = p'.length := by
   rcases Nat.lt_trichotomy p.length p'.length with h1 | h1 | h1
   · exact (side h h' e h1).elim
   · exact h1
   · exact (side h' h e.symm h1).elim
  obtain ⟨e1, e2⟩ := List.append_inj e hn
  rw [e1, cut_unique h.2.2 h'.2.2 e2]
theorem cuts_snoc : ∀ {C : List (List Ent)} {q : List Ent}, Cuts C → Piece q → (∀ p, C.getLast? = some p → ∃ e q', q = e :: q' ∧ Link p e) → Cuts (C ++ [q])
 | [], q, _, hq, _ => ⟨hq, fun _ _ h => (by cases h), trivial⟩
 | p :: C, q, h, hq, hl => by
  refine ⟨h.1, fun r C' e => ?_, ?_⟩
  · cases C with
    | nil =>
     injection e with e1 _
     subst e1
     exact hl p rfl
    | cons r' C2 =>
     injection e with e1 _
     subst e1
     exact h.2.1 r' C2 rfl
  · refine cuts_snoc h.2.2 hq fun r hr => hl r ?_
    cases C with
    | nil => cases hr
    | cons r' C2 => rw [List.getLast?_cons_cons]; exact hr
theorem cuts_piece : ∀ {C : List (List Ent)}, Cuts C → ∀ p ∈ C, Piece p
 | [], _, _, hp => by cases hp
 | p :: C, h, q, hq => by
  rcases List.mem_cons.1 hq with rfl | hq
  · exact h.1
  · exact cuts_piece h.2.2 q hq
theorem tcuts_len : ∀ {C : List (List Ent)}, Cuts C → C.length ≤ C.flatten.length
 | [], _ => zNr _
 | p :: C, h => by
  have h1 := tcuts_len h.2.2
  have h2 : 0 < p.length := List.length_pos_iff.2 h.1.1
  simp only [List.flatten_cons, List.length_append, List.length_cons]; omega
def MayT (L : List Ent) : Prop := 1 ≤ L.length ∧ L.length ≤ 4096 ∧ Rise L ∧ ∀ e ∈ L, e.may = true
def idx1 (p : List Ent) (at_ n : Nat) : List Nat := ((p.getLast?).map fun e => bytesForm e.key ++ (form e.seq.toNat ++ (form at_ ++ form n))).getD []
def idxs : Nat → List (List Ent) → List Nat
 | _, [] => []
 | a, p :: C => idx1 p a (wr p).length ++ idxs (a + (wr p).length) C
def blks (C : List (List Ent)) : List Nat := C.flatMap wr
def index (C : List (List Ent)) : List Nat := form C.length ++ idxs 0 C
def keyAt (L : List Ent) (i : Nat) : List (List Nat) := ((L[i]?).map fun e => if i = 0 ∨ (L[i - 1]?).map Ent.key ≠ some e.key then [e.key] else []).getD []
def keysTo (L : List Ent) (k : Nat) : List (List Nat) := (List.range k).flatMap (keyAt L)
def keysT (L : List Ent) : List (List Nat) := keysTo L L.length
def ahd (C : List (List Ent)) (L : List Ent) : List Nat := blks C ++ (index C ++ mk (keysT L))
def foot24 (C : List (List Ent)) (L : List Ent) : List Nat := be4 (blks C).length ++ (be4 (index C).length ++ (be4 ((blks C).length + (index C).length) ++ (be4 (mk (keysT L)).length ++ (be4 L.length ++ be4 (crc (ahd C L))))))
def tb (C : List (List Ent)) (L : List Ent) : List Nat := ahd C L ++ (foot24 C L ++ be4 (crc (foot24 C L)))
def IsT (b : List Nat) (L : List Ent) : Prop := MayT L ∧ ∃ C, C.flatten = L ∧ Cuts C ∧ tb C L = b
theorem foot24_len (C : List (List Ent)) (L : List Ent) : (foot24 C L).length = 24 := by unfold foot24; simp [be4_length]
theorem tb_len (C : List (List Ent)) (L : List Ent) : (tb C L).length = (ahd C L).length + 28 := by unfold tb; rw [List.length_append, List.length_append, foot24_len, be4_length]
theorem keysTo_succ (L : List Ent) (k : Nat) : keysTo L (k + 1) = keysTo L k ++ keyAt L k := by
 unfold keysTo; rw [List.range_succ, List.flatMap_append]; simp
theorem keyAt_mem {L : List Ent} {i : Nat} {k : List Nat} (h : k ∈ keyAt L i) : ∃ e ∈ L, e.key = k := by
 unfold keyAt at h
 cases he : L[i]? with
 | none => rw [he] at h; cases h
 | some e =>
  rw [he] at h
  simp only [Option.map_some, Option.getD_some] at h
  split at h
  · rw [List.mem_singleton] at h; exact ⟨e, List.mem_of_getElem? he, h.symm⟩
  · cases h
theorem keysTo_mem {L : List Ent} {n : Nat} {k : List Nat} (h : k ∈ keysTo L n) : ∃ e ∈ L, e.key = k := by
 unfold keysTo at h
 obtain ⟨i, _, hi⟩ := List.mem_flatMap.1 h
 exact keyAt_mem hi
theorem keyAt_len (L : List Ent) (i : Nat) : (keyAt L i).length ≤ 1 := by
 unfold keyAt
 cases L[i]? with
 | none => simp
 | some e => simp only [Option.map_some, Option.getD_some]; split <;> simp
theorem keysTo_len (L : List Ent) (k : Nat) : (keysTo L k).length ≤ k := by
 induction k with
 | zero => exact zNr _
 | succ k ih => rw [keysTo_succ, List.length_append]; have := keyAt_len L k; omega
theorem keysTo_has {L : List Ent} : ∀ {i n : Nat} {e : Ent}, L[i]? = some e → i < n → e.key ∈ keysTo L n := by
 intro i
 induction i with
 | zero =>
  intro n e he hn
  exact List.mem_flatMap.2 ⟨0, List.mem_range.2 hn, by
   unfold keyAt
   rw [he]
   simp only [Option.map_some, Option.getD_some]
   rw [if_pos (Or.inl trivial)]
   exact List.mem_singleton.2 rfl⟩
 | succ i ih =>
  intro n e he hn
  by_cases h : (L[i]?).map Ent.key = some e.key
  · cases hi : L[i]? with
    | none => rw [hi] at h; cases h
    | some e' =>
     rw [hi] at h
     injection h with h
     rw [← h]
     exact ih hi (by omega)
  · exact List.mem_flatMap.2 ⟨i + 1, List.mem_range.2 hn, by
      unfold keyAt
      rw [he]
      simp only [Option.map_some, Option.getD_some, Nat.add_sub_cancel]
      rw [if_pos (.inr h)]
      exact List.mem_singleton.2 rfl⟩
theorem wr_pos (p : List Ent) : 4 ≤ (wr p).length := by rw [wr_len]; omega
theorem wr_most {p : List Ent} (hm : ∀ e ∈ p, e.may = true) : (wr p).length ≤ 65701 * p.length + 8 := by
 have h1 := upto_le hm p.length
 have h2 := ats_len p p.length
 rw [wr_len]; omega
theorem blks_most : ∀ {C : List (List Ent)}, Cuts C → (∀ e ∈ C.flatten, e.may = true) → (blks C).length ≤ 65709 * C.flatten.length
 | [], _, _ => zNr _
 | p :: C, h, hm => by
  have h1 := blks_most h.2.2 (fun e he => hm e (by rw [List.flatten_cons]; exact List.mem_append_right _ he))
  have h2 := wr_most (p := p) (fun e he => hm e (by rw [List.flatten_cons]; exact List.mem_append_left _ he))
  have h3 : 0 < p.length := List.length_pos_iff.2 h.1.1
  unfold blks at h1 ⊢
  simp only [List.flatMap_cons, List.flatten_cons, List.length_append]
  omega
theorem idx1_most {p : List Ent} {a n : Nat} (hm : ∀ e ∈ p, e.may = true) (ha : a < 1000000000000) (hn : n < 1000000000000) : (idx1 p a n).length ≤ 72 := by
 unfold idx1
 cases h : p.getLast? with
 | none => simp
 | some e =>
  obtain ⟨u1, u2, u3, u4⟩ := Ent.may_u64 (hm e (List.mem_of_getLast? h))
  obtain ⟨h1, h2, h3, h4, h5⟩ := mayN_iff.1 (hm e (List.mem_of_getLast? h))
  have a1 := (bytesForm_len u1).1
  have a2 := form_len64 u2
  have a3 := form_len64 (n := a) ⟨by omega⟩
  have a4 := form_len64 (n := n) ⟨by omega⟩
  simp only [Option.map_some, Option.getD_some, List.length_append]
  omega
theorem idxs_most : ∀ {C : List (List Ent)} {a : Nat}, Cuts C → (∀ e ∈ C.flatten, e.may = true) → a + (blks C).length < 1000000000000 → (idxs a C).length ≤ 72 * C.length
 | [], _, _, _, _ => zNr _
 | p :: C, a, h, hm, hb => by
  unfold blks at hb
  simp only [List.flatMap_cons, List.length_append] at hb
  have h1 := idxs_most (a := a + (wr p).length) h.2.2 (fun e he => hm e (by rw [List.flatten_cons]; exact List.mem_append_right _ he)) (by unfold blks; omega)
  have h2 := idx1_most (p := p) (a := a) (n := (wr p).length) (fun e he => hm e (by rw [List.flatten_cons]; exact List.mem_append_left _ he)) (by omega) (by omega)
  unfold idxs
  simp only [List.length_append, List.length_cons]
  omega
structure Few (C : List (List Ent)) (L : List Ent) : Prop where
 b : (blks C).length ≤ 269144064
 c : C.length ≤ 4096
 i : (index C).length ≤ 294922
 f : (mk (keysT L)).length ≤ 65544
 a : (ahd C L).length ≤ 300000000
theorem few {C : List (List Ent)} {L : List Ent} (h : MayT L) (hc : Cuts C) (hf : C.flatten = L) : Few C L := by
 have h1 := blks_most hc (fun e he => h.2.2.2 e (hf ▸ he))
 have h2 := tcuts_len hc
 rw [hf] at h1 h2
 have h3 := h.2.1
 have h4 := idxs_most (a := 0) hc (fun e he => h.2.2.2 e (hf ▸ he)) (by omega)
 have h5 := form_len64 (n := C.length) ⟨by omega⟩
 have h6 : (mk (keysT L)).length ≤ 65544 := by
  rw [Bl.mk_length]
  exact Bl.bsize_le (zNt (keysTo_len L L.length) (by omega))
 have h7 : (index C).length ≤ 294922 := by unfold index; rw [List.length_append]; omega
 exact ⟨by omega, by omega, h7, h6, by unfold ahd; rw [List.length_append, List.length_append]; omega⟩
theorem kform_zero {ah : List Nat} {e : Ent} {r r' : List Nat} (h : e.may = true) (he : kform ah e ++ r = 0 :: 0 :: r') : False := by
 obtain ⟨h1, h2, h3, h4, h5⟩ := mayN_iff.1 h
 have hs := shr_le_r ah e.key
 unfold kform at he
 rw [form_lo (show shr ah e.key < 128 by omega)] at he
 simp only [List.append_assoc, List.cons_append, List.nil_append] at he
 injection he with e1 e2
 unfold bytesForm at e2
 rw [e1, List.drop_zero, form_lo (show e.key.length < 128 by omega)] at e2
 simp only [List.cons_append, List.nil_append] at e2
 injection e2 with e3 _
 omega
def tailB (L : List Ent) : List Nat := (ats L L.length).flatMap be4 ++ be4 (ats L L.length).length
theorem tailB_zero {L : List Ent} (h : 1 ≤ L.length) : ∃ r, tailB L = 0 :: 0 :: r := by
 have h1 := ats_get L L.length 0 (by omega)
 unfold tailB
 cases ha : ats L L.length with
 | nil => rw [ha] at h1; cases h1
 | cons a l =>
  rw [ha] at h1
  have h2 : a = 0 := by simpa [upto_zero] using h1
  subst h2
  exact ⟨_, rfl⟩
theorem wr_split (L : List Ent) : wr L = fromK L 0 ++ tailB L := by rw [fromK_zero]; rfl
theorem cut_at {L M : List Ent} {R R' : List Nat} (h : MayB L) (k : MayB M) (he : wr L ++ R = wr M ++ R') : ∀ n, n ≤ L.length → n ≤ M.length ∧ L.take n = M.take n ∧ fromK L n ++ (tailB L ++ R) = fromK M n ++ (tailB M ++ R') := by
 intro n
 induction n with
 | zero =>
  intro _
  refine ⟨Nat.zero_le _, rfl, ?_⟩
  rw [wr_split, wr_split, List.append_assoc, List.append_assoc] at he
  exact he
 | succ n ih =>
  intro hn
  obtain ⟨h1, h2, h3⟩ := ih (by omega)
  have hk : n < L.length := by omega
  have hah : ahOf L n = ahOf M n := by
   unfold ahOf
   split
   · rfl
   · have e1 : L[n - 1]? = (L.take n)[n - 1]? := by rw [List.getElem?_take, if_pos (by omega)]
     have e2 : M[n - 1]? = (M.take n)[n - 1]? := by rw [List.getElem?_take, if_pos (by omega)]
     rw [e1, e2, h2]
  have hm : n < M.length := by
   rcases Nat.lt_or_ge n M.length with hx | hx
   · exact hx
   · exfalso
     obtain ⟨r, hr⟩ := tailB_zero k.1
     rw [fromK_end M hx, fromK_at hk, piece_at (List.getElem?_eq_getElem hk), List.nil_append, hr, List.append_assoc] at h3
     exact kform_zero (h.2.2.2 _ (List.getElem_mem hk)) h3
  have h4 := h3
  rw [fromK_at hk, fromK_at hm, piece_at (List.getElem?_eq_getElem hk), piece_at (List.getElem?_eq_getElem hm), hah, List.append_assoc, List.append_assoc] at h4
  have s1 := stands_kform (ah := ahOf M n) (h.2.2.2 _ (List.getElem_mem hk)) (fromK L (n + 1) ++ (tailB L ++ R))
  have s2 := stands_kform (ah := ahOf M n) (k.2.2.2 _ (List.getElem_mem hm)) (fromK M (n + 1) ++ (tailB M ++ R'))
  rw [h4] at s1
  obtain ⟨e1, e2⟩ := s1.unique s2
  refine ⟨hm, ?_, e2⟩
  rw [List.take_add_one, List.take_add_one, h2, List.getElem?_eq_getElem hk, List.getElem?_eq_getElem hm, e1]
theorem wr_cut {L M : List Ent} {R R' : List Nat} (h : MayB L) (k : MayB M) (he : wr L ++ R = wr M ++ R') : L = M ∧ R = R' := by
 obtain ⟨h1, h2, _⟩ := cut_at h k he L.length (zNr _)
 obtain ⟨k1, _, _⟩ := cut_at k h he.symm M.length (zNr _)
 have e : L.length = M.length := by omega
 rw [List.take_length, e, List.take_length] at h2
 subst h2
 exact ⟨rfl, List.append_cancel_left he⟩
theorem kform_four {ah : List Nat} {e : Ent} (h : e.may = true) : 4 ≤ (kform ah e).length := by
 obtain ⟨u1, u2, u3, u4⟩ := Ent.may_u64 h
 have := form_pos (shr ah e.key)
 have := form_pos e.seq.toNat
 have := form_pos e.kind.toNat
 have h2 : 0 < (bytesForm (e.key.drop (shr ah e.key))).length := by
  have := form_pos (e.key.drop (shr ah e.key)).length
  unfold bytesForm; rw [List.length_append]; omega
 unfold kform
 simp only [List.length_append]
 omega
theorem upto_four {L : List Ent} (hm : ∀ e ∈ L, e.may = true) (k : Nat) (hk : k ≤ L.length) : 4 * k ≤ (upto L k).length := by
 induction k with
 | zero => exact Nat.zero_le _
 | succ k ih =>
  have := ih (by omega)
  rw [upto_succ, List.length_append, piece_at (List.getElem?_eq_getElem (show k < L.length by omega))]
  have := kform_four (ah := ahOf L k) (hm _ (List.getElem_mem (show k < L.length by omega)))
  omega
theorem piece_few {p : List Ent} (h : Piece p) (hm : ∀ e ∈ p, e.may = true) : p.length ≤ 128 := by
 rcases Nat.lt_or_ge 1 p.length with h1 | h1
 · have h2 := h.2 (p.length - 1) (by omega) (by omega)
   rw [show p.length - 1 + 1 = p.length by omega, List.take_length, wr_len] at h2
   have := upto_four hm p.length (zNr _)
   omega
 · omega
theorem rise_part {L A B D : List Ent} (h : Rise L) (he : L = A ++ (B ++ D)) : Rise B := by
 subst he
 intro j a b ha hb
 have hj : j < B.length := (zLg.1 ha).1
 have hj1 : j + 1 < B.length := (zLg.1 hb).1
 refine h (A.length + j) a b ?_ ?_
 · rw [List.getElem?_append_right (by omega), show A.length + j - A.length = j by omega, List.getElem?_append_left hj]; exact ha
 · rw [List.getElem?_append_right (by omega), show A.length + j + 1 - A.length = j + 1 by omega, List.getElem?_append_left hj1]; exact hb
theorem pieces_mayB {C : List (List Ent)} (hr : Rise C.flatten) (hm : ∀ e ∈ C.flatten, e.may = true) (hc : Cuts C) : ∀ p ∈ C, MayB p := by
 intro p hp
 obtain ⟨A, B, rfl⟩ := List.append_of_mem hp
 have hmp : ∀ e ∈ p, e.may = true := fun e he => hm e (List.mem_flatten.2 ⟨p, hp, he⟩)
 have h1 := cuts_piece hc p hp
 have h2 := piece_few h1 hmp
 have h3 : 0 < p.length := List.length_pos_iff.2 h1.1
 refine ⟨by omega, by omega, ?_, hmp⟩
 exact rise_part (A := A.flatten) (D := B.flatten) hr (by simp)
theorem wr_head {p : List Ent} (h : MayB p) : ∃ r, wr p = 0 :: r := by
 have hl := h.1
 rw [wr_split, fromK_at (by omega), piece_at (List.getElem?_eq_getElem (by omega))]
 unfold kform
 have : ahOf p 0 = [] := rfl
 rw [this, shr_nil, form_lo (by omega)]
 exact ⟨_, rfl⟩
theorem blks_cut : ∀ {C C' : List (List Ent)} {a a' : Nat} {R R' : List Nat}, (∀ p ∈ C, MayB p) → (∀ p ∈ C', MayB p) → a ≠ 0 → a' ≠ 0 → blks C ++ a :: R = blks C' ++ a' :: R' → C = C' ∧ a :: R = a' :: R'
 | [], [], _, _, _, _, _, _, _, _, h => ⟨rfl, h⟩
 | [], p :: C', _, _, _, _, _, h', ha, _, h => by
  obtain ⟨r, hr⟩ := wr_head (h' p (List.mem_cons_self ..))
  unfold blks at h
  rw [List.flatMap_cons, hr] at h
  injection h with h _
  exact absurd h ha
 | p :: C, [], _, _, _, _, h', _, _, ha, h => by
  obtain ⟨r, hr⟩ := wr_head (h' p (List.mem_cons_self ..))
  unfold blks at h
  rw [List.flatMap_cons, hr] at h
  injection h with h _
  exact absurd h.symm ha
 | p :: C, p' :: C', _, _, _, _, h1, h2, ha, ha', h => by
  unfold blks at h
  rw [List.flatMap_cons, List.flatMap_cons, List.append_assoc, List.append_assoc] at h
  obtain ⟨rfl, h4⟩ := wr_cut (h1 p (List.mem_cons_self ..)) (h2 p' (List.mem_cons_self ..)) h
  obtain ⟨rfl, h3⟩ := blks_cut (fun q hq => h1 q (List.mem_cons_of_mem _ hq)) (fun q hq => h2 q (List.mem_cons_of_mem _ hq)) ha ha' h4
  exact ⟨rfl, h3⟩
theorem form_head {n : Nat} (h : n ≠ 0) : ∃ a r, form n = a :: r ∧ a ≠ 0 := by
 by_cases hn : n < 128
 · exact ⟨n, [], form_lo hn, h⟩
 · exact ⟨_, _, form_hi hn, by omega⟩
theorem tb_cut {C C' : List (List Ent)} {L L' : List Ent} {more : List Nat} (h : MayT L) (h' : MayT L') (hc : Cuts C) (hc' : Cuts C') (hf : C.flatten = L) (hf' : C'.flatten = L') (he : tb C L ++ more = tb C' L') : C = C' ∧ L = L' ∧ more = [] := by
 have hn : C.length ≠ 0 := fun e => by
  have := List.eq_nil_of_length_eq_zero e
  subst this; subst hf
  have := h.1; simp at this
 have hn' : C'.length ≠ 0 := fun e => by
  have := List.eq_nil_of_length_eq_zero e
  subst this; subst hf'
  have := h'.1; simp at this
 obtain ⟨a, r, ha, ha0⟩ := form_head hn
 obtain ⟨a', r', ha', ha0'⟩ := form_head hn'
 have hm := pieces_mayB (hf ▸ h.2.2.1) (hf ▸ h.2.2.2) hc
 have hm' := pieces_mayB (hf' ▸ h'.2.2.1) (hf' ▸ h'.2.2.2) hc'
 have he2 := he
 unfold tb ahd index at he2
 rw [ha, ha'] at he2
 simp only [List.append_assoc, List.cons_append] at he2
 obtain ⟨e1, _⟩ := blks_cut hm hm' ha0 ha0' he2
 subst e1
 have e2 : L = L' := hf.symm.trans hf'
 subst e2
 refine ⟨rfl, rfl, ?_⟩
 have := congrArg List.length he
 rw [List.length_append] at this
 exact List.eq_nil_of_length_eq_zero (by omega)
theorem IsT.unique {b : List Nat} {L M : List Ent} (h : IsT b L) (k : IsT b M) : L = M := by
 obtain ⟨h1, C, h2, h3, h4⟩ := h
 obtain ⟨k1, D, k2, k3, k4⟩ := k
 exact (tb_cut (more := []) h1 k1 h3 k3 h2 k2 (by rw [List.append_nil, h4, k4])).2.1
end Go.Proofs.YtkdidghfcfcpfaaGreat
