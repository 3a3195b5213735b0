import Derived.Test.YtkdidghfcfcpfaaGreatMb4
import Derived.Test.YtkdidghfcfcpfaaGreatMb3
import Derived.Test.YtkdidghfcfcpfaaGreatMb2
import Derived.WalkLawsBesides
import Derived.Test.YtkdidghfcfcpfaaGreatMb0
namespace Go.Proofs.YtkdidghfcfcpfaaGreat
open Go.ChangeShapes Go.WideShapes Go.ChangeAt Go.RowKit
theorem shr_go {a b : List Nat} {n : Nat} (hn : a.take n = b.take n) (h1 : n < a.length) (h2 : n < b.length) (h : a[n] = b[n]) : a.take (n + 1) = b.take (n + 1) := by
 rw [List.take_succ_eq_append_getElem h1, List.take_succ_eq_append_getElem h2, hn, h]
theorem wrap_succ {n : Nat} (h : n < 1000000000000) : wrap64 ((n : Int) + 1) = ((n + 1 : Nat) : Int) := by unfold wrap64; omega
set_option maxRecDepth 100000 in
set_option maxHeartbeats 4000000 in
theorem shared_any {w : World} {lo hi lo2 hi2 : Nat} {u v : Value} {a b : List Nat} (hu : Bs w lo hi u a) (hv : Bs w lo2 hi2 v b) (hhi : hi ≤ w.heap.size) (hhi2 : hi2 ≤ w.heap.size) (ha : a.length ≤ 1000000000000) (hb : b.length ≤ 1000000000000) :
    Calls Tryz.prog 160 #[u, v] w fun e w' => e = .returned (.int .i64 (shr a b : Int)) ∧ Ext w w' := by
 obtain ⟨A, c, rfl, _, _, _, hA⟩ := hu
 obtain ⟨B, c2, rfl, _, _, _, hB⟩ := hv
 have HA := zHd hA
 have HB := zHd hB
 have HH := zHd (And.intro hhi hhi2)
 have HL := zHd (And.intro ha hb)
 clear hA hB hhi hhi2 ha hb
 go_enter Tryz.func160, Tryz.ntmps160
 go_wp2_with fail
 go_loopw [5] (fun x wr => ∃ n : Nat, n ≤ a.length ∧ n ≤ b.length ∧ x = .int .i64 (n : Int) ∧ Hid (a.take n = b.take n) ∧ Hid (Ext w wr)) (fun x _ => a.length - (intOf x).toNat)
 case atStart => exact ⟨0, Nat.zero_le _, Nat.zero_le _, rfl, rfl, Ext.refl _⟩
 case round =>
  obtain ⟨n, hn1, hn2, rfl, HT, HX⟩ := hrel
  obtain ⟨m, hm⟩ : ∃ m : Int, m = min (a.length : Int) (b.length : Int) := ⟨_, rfl⟩
  by_cases hlt : n < a.length ∧ n < b.length
  · obtain ⟨h1, h2⟩ := hlt
    obtain ⟨ab, ao, rfl, _, _, ca⟩ := (show By wr _ _ _ _ from Sl.below HA.out HX.out HH.out.1).at_ h1
    obtain ⟨bb, bo, rfl, _, _, cb⟩ := (show By wr _ _ _ _ from Sl.below HB.out HX.out HH.out.2).at_ h2
    obtain ⟨x, hx⟩ : ∃ x, x = a[n] := ⟨_, rfl⟩
    obtain ⟨y, hy⟩ : ∃ y, y = b[n] := ⟨_, rfl⟩
    rw [← hx] at ca
    rw [← hy] at cb
    have d1 : decide ((n : Int) < m) = true := by rw [decide_eq_true_eq, hm]; omega
    have n1 : (0 : Int) ≤ (n : Int) := by omega
    have n2 : (n : Int) < (a.length : Int) := by omega
    have n3 : (n : Int) < (b.length : Int) := by omega
    have HM := zHd hm
    have HXY : Hid (a[n]? = some x ∧ b[n]? = some y) := ⟨by rw [hx]; exact List.getElem?_eq_getElem h1, by rw [hy]; exact List.getElem?_eq_getElem h2⟩
    have H12 := zHd (And.intro h1 h2)
    have HN := zHd (And.intro hn1 hn2)
    clear hm hx hy h1 h2 hn1 hn2
    go_upto_region 2 with (fail)
    by_cases hxy : x = y
    · have dxy : ((x : Int) == (y : Int)) = true := by simp [hxy]
      have HE := zHd hxy
      clear hxy
      refine flow (by kernel_rfl) [Is (.int .i64 (n : Int)), Is (.slice (some ⟨ab, ao, none⟩) a.length c), Is (.int .i64 (a.length : Int)), Is (.slice (some ⟨bb, bo, none⟩) b.length c2), Is (.int .i64 (b.length : Int)), Is (.int .i64 m), Is (.bool true), Is (.bool true), Is (.slice (some ⟨ab, ao, none⟩) a.length c), Is (.int .i64 (n : Int)), Is (.pointer (some ⟨ab, ao + n, none⟩)), Is (.int .u8 (x : Int)), Is (.slice (some ⟨bb, bo, none⟩) b.length c2), Is (.int .i64 (n : Int)), Is (.pointer (some ⟨bb, bo + n, none⟩)), Is (.int .u8 (y : Int)), Is (.bool true), Is (.bool true)] (by kernel_rfl) (by kernel_rfl) ?mono (fun f1 => ?obl) ?fin
      case mono =>
       simp only [List.forall_mem_cons, List.not_mem_nil, false_imp_iff, implies_true, and_true]
       and_intros <;> exact .is _
      case fin =>
       intro g1 u hu hg
       simp only [puts, Act.put, zq]
       have hxu := zEt (Ext.drew wr) hu
       have HXU : Hid (Ext w u) := zEt HX.out hxu
       have e17 : g1 17 = _ := hg 17 (by decide)
       rw [e17]
       clear hxu hu hg e17
       go_wp2_with fail
       go_roundw
       case rel =>
        have h1 := H12.out.1
        have h2 := H12.out.2
        exact ⟨n + 1, by omega, by omega, by rw [wrap_succ (Nat.lt_of_lt_of_le H12.out.1 HL.out.1)], shr_go HT.out h1 h2 (by have p := HXY.out.1; have q := HXY.out.2; rw [List.getElem?_eq_getElem h1] at p; rw [List.getElem?_eq_getElem h2] at q; injection p with p; injection q with q; rw [p, q]; exact HE.out), HXU⟩
       case measure => have := H12.out; rw [wrap_succ (Nat.lt_of_lt_of_le H12.out.1 HL.out.1)]; simp [intOf]; omega
      case obl =>
       refine ⟨fun u hu hd => ?_, fun u hu hd => ?_, fun u hu hd => ?_, fun u hu hd => ?_, fun u hu hd => ?_, fun u hu hd => ?_, fun u hu hd => ?_, fun u hu hd => ?_, fun u hu hd => ?_, fun u hu hd => ?_, fun u hu hd => ?_, fun u hu hd => ?_, fun u hu hd => ?_, fun u hu hd => ?_, fun u hu hd => ?_, fun u hu hd => ?_, fun u hu hd => ?_, fun u hu hd => ?_, trivial⟩
       all_goals try simp only [Act.put, zq]
       · go_simp
         exact zEr
       · go_simp
         exact zEr
       · have e1 : f1 1 = _ := hd 1 (by kernel_rfl)
         go_simp
         exact zEr
       · go_simp
         exact zEr
       · have e3 : f1 3 = _ := hd 3 (by kernel_rfl)
         go_simp
         exact zEr
       · have e2 : f1 2 = _ := hd 2 (by kernel_rfl)
         have e4 : f1 4 = _ := hd 4 (by kernel_rfl)
         rw [HM.out]
         go_simp
         exact zEr
       · have e0 : f1 0 = _ := hd 0 (by kernel_rfl)
         have e5 : f1 5 = _ := hd 5 (by kernel_rfl)
         go_simp
         exact zEr
       · have e6 : f1 6 = _ := hd 6 (by kernel_rfl)
         go_simp
         exact zEr
       · have e7 : f1 7 = _ := hd 7 (by kernel_rfl)
         go_simp
         exact zEr
       · have e7 : f1 7 = _ := hd 7 (by kernel_rfl)
         go_simp
         exact zEr
       · have e7 : f1 7 = _ := hd 7 (by kernel_rfl)
         have e8 : f1 8 = _ := hd 8 (by kernel_rfl)
         have e9 : f1 9 = _ := hd 9 (by kernel_rfl)
         go_simp
         exact zEr
       · have e7 : f1 7 = _ := hd 7 (by kernel_rfl)
         have e10 : f1 10 = _ := hd 10 (by kernel_rfl)
         have hu2 := zEt (Ext.drew wr) hu
         have q0 := ext_cell hu2 ca
         go_simp
         exact zEr
       · have e7 : f1 7 = _ := hd 7 (by kernel_rfl)
         go_simp
         exact zEr
       · have e7 : f1 7 = _ := hd 7 (by kernel_rfl)
         go_simp
         exact zEr
       · have e7 : f1 7 = _ := hd 7 (by kernel_rfl)
         have e12 : f1 12 = _ := hd 12 (by kernel_rfl)
         have e13 : f1 13 = _ := hd 13 (by kernel_rfl)
         go_simp
         exact zEr
       · have e7 : f1 7 = _ := hd 7 (by kernel_rfl)
         have e14 : f1 14 = _ := hd 14 (by kernel_rfl)
         have hu2 := zEt (Ext.drew wr) hu
         have q0 := ext_cell hu2 cb
         go_simp
         exact zEr
       · have e7 : f1 7 = _ := hd 7 (by kernel_rfl)
         have e11 : f1 11 = _ := hd 11 (by kernel_rfl)
         have e15 : f1 15 = _ := hd 15 (by kernel_rfl)
         go_simp
         exact zEr
       · have e7 : f1 7 = _ := hd 7 (by kernel_rfl)
         have e16 : f1 16 = _ := hd 16 (by kernel_rfl)
         go_simp
         exact zEr
    · have dxy : ((x : Int) == (y : Int)) = false := by simp; omega
      have HE := zHd hxy
      clear hxy
      refine flow (by kernel_rfl) [Is (.int .i64 (n : Int)), Is (.slice (some ⟨ab, ao, none⟩) a.length c), Is (.int .i64 (a.length : Int)), Is (.slice (some ⟨bb, bo, none⟩) b.length c2), Is (.int .i64 (b.length : Int)), Is (.int .i64 m), Is (.bool true), Is (.bool true), Is (.slice (some ⟨ab, ao, none⟩) a.length c), Is (.int .i64 (n : Int)), Is (.pointer (some ⟨ab, ao + n, none⟩)), Is (.int .u8 (x : Int)), Is (.slice (some ⟨bb, bo, none⟩) b.length c2), Is (.int .i64 (n : Int)), Is (.pointer (some ⟨bb, bo + n, none⟩)), Is (.int .u8 (y : Int)), Is (.bool false), Is (.bool false)] (by kernel_rfl) (by kernel_rfl) ?mono (fun f1 => ?obl) ?fin
      case mono =>
       simp only [List.forall_mem_cons, List.not_mem_nil, false_imp_iff, implies_true, and_true]
       and_intros <;> exact .is _
      case fin =>
       intro g1 u hu hg
       simp only [puts, Act.put, zq]
       have hxu := zEt (Ext.drew wr) hu
       have HXU : Hid (Ext w u) := zEt HX.out hxu
       have e17 : g1 17 = _ := hg 17 (by decide)
       rw [e17]
       clear hxu hu hg e17
       go_wp2_with fail
       go_ret
       have hs : shr a b = n := shr_is HN.out.1 HN.out.2 HT.out (fun p q hp hq => by
        rw [HXY.out.1] at hp
        rw [HXY.out.2] at hq
        injection hp with hp; injection hq with hq
        rw [← hp, ← hq]; exact HE.out)
       rw [hs]
       exact ⟨rfl, HXU.out⟩
      case obl =>
       refine ⟨fun u hu hd => ?_, fun u hu hd => ?_, fun u hu hd => ?_, fun u hu hd => ?_, fun u hu hd => ?_, fun u hu hd => ?_, fun u hu hd => ?_, fun u hu hd => ?_, fun u hu hd => ?_, fun u hu hd => ?_, fun u hu hd => ?_, fun u hu hd => ?_, fun u hu hd => ?_, fun u hu hd => ?_, fun u hu hd => ?_, fun u hu hd => ?_, fun u hu hd => ?_, fun u hu hd => ?_, trivial⟩
       all_goals try simp only [Act.put, zq]
       · go_simp
         exact zEr
       · go_simp
         exact zEr
       · have e1 : f1 1 = _ := hd 1 (by kernel_rfl)
         go_simp
         exact zEr
       · go_simp
         exact zEr
       · have e3 : f1 3 = _ := hd 3 (by kernel_rfl)
         go_simp
         exact zEr
       · have e2 : f1 2 = _ := hd 2 (by kernel_rfl)
         have e4 : f1 4 = _ := hd 4 (by kernel_rfl)
         rw [HM.out]
         go_simp
         exact zEr
       · have e0 : f1 0 = _ := hd 0 (by kernel_rfl)
         have e5 : f1 5 = _ := hd 5 (by kernel_rfl)
         go_simp
         exact zEr
       · have e6 : f1 6 = _ := hd 6 (by kernel_rfl)
         go_simp
         exact zEr
       · have e7 : f1 7 = _ := hd 7 (by kernel_rfl)
         go_simp
         exact zEr
       · have e7 : f1 7 = _ := hd 7 (by kernel_rfl)
         go_simp
         exact zEr
       · have e7 : f1 7 = _ := hd 7 (by kernel_rfl)
         have e8 : f1 8 = _ := hd 8 (by kernel_rfl)
         have e9 : f1 9 = _ := hd 9 (by kernel_rfl)
         go_simp
         exact zEr
       · have e7 : f1 7 = _ := hd 7 (by kernel_rfl)
         have e10 : f1 10 = _ := hd 10 (by kernel_rfl)
         have hu2 := zEt (Ext.drew wr) hu
         have q0 := ext_cell hu2 ca
         go_simp
         exact zEr
       · have e7 : f1 7 = _ := hd 7 (by kernel_rfl)
         go_simp
         exact zEr
       · have e7 : f1 7 = _ := hd 7 (by kernel_rfl)
         go_simp
         exact zEr
       · have e7 : f1 7 = _ := hd 7 (by kernel_rfl)
         have e12 : f1 12 = _ := hd 12 (by kernel_rfl)
         have e13 : f1 13 = _ := hd 13 (by kernel_rfl)
         go_simp
         exact zEr
       · have e7 : f1 7 = _ := hd 7 (by kernel_rfl)
         have e14 : f1 14 = _ := hd 14 (by kernel_rfl)
         have hu2 := zEt (Ext.drew wr) hu
         have q0 := ext_cell hu2 cb
         go_simp
         exact zEr
       · have e7 : f1 7 = _ := hd 7 (by kernel_rfl)
         have e11 : f1 11 = _ := hd 11 (by kernel_rfl)
         have e15 : f1 15 = _ := hd 15 (by kernel_rfl)
         go_simp
         exact zEr
       · have e7 : f1 7 = _ := hd 7 (by kernel_rfl)
         have e16 : f1 16 = _ := hd 16 (by kernel_rfl)
         go_simp
         exact zEr
  · have d1 : decide ((n : Int) < m) = false := by rw [decide_eq_false_iff_not, hm]; omega
    have HM := zHd hm
    have HLT := zHd hlt
    have HN := zHd (And.intro hn1 hn2)
    clear hm hlt hn1 hn2
    go_upto_region 2 with (fail)
    refine flow (by kernel_rfl) [Is (.int .i64 (n : Int)), Is (.slice A a.length c), Is (.int .i64 (a.length : Int)), Is (.slice B b.length c2), Is (.int .i64 (b.length : Int)), Is (.int .i64 m), Is (.bool false), Is (.bool false), Is undef, Is undef, Is undef, Is undef, Is undef, Is undef, Is undef, Is undef, Is undef, Is (.bool false)] (by kernel_rfl) (by kernel_rfl) ?mono (fun f1 => ?obl) ?fin
    case mono =>
     simp only [List.forall_mem_cons, List.not_mem_nil, false_imp_iff, implies_true, and_true]
     and_intros <;> exact .is _
    case fin =>
     intro g1 u hu hg
     simp only [puts, Act.put, zq]
     have hxu := zEt (Ext.drew wr) hu
     have HXU : Hid (Ext w u) := zEt HX.out hxu
     have e17 : g1 17 = _ := hg 17 (by decide)
     rw [e17]
     clear hxu hu hg e17
     go_wp2_with fail
     go_ret
     have hs : shr a b = n := shr_is HN.out.1 HN.out.2 HT.out (fun p q hp hq => by
      have h1 := (zLg.1 hp).1
      have h2 := (zLg.1 hq).1
      exact absurd ⟨h1, h2⟩ HLT.out)
     rw [hs]
     exact ⟨rfl, HXU.out⟩
    case obl =>
     refine ⟨fun u hu hd => ?_, fun u hu hd => ?_, fun u hu hd => ?_, fun u hu hd => ?_, fun u hu hd => ?_, fun u hu hd => ?_, fun u hu hd => ?_, fun u hu hd => ?_, fun u hu hd => ?_, fun u hu hd => ?_, fun u hu hd => ?_, fun u hu hd => ?_, fun u hu hd => ?_, fun u hu hd => ?_, fun u hu hd => ?_, fun u hu hd => ?_, fun u hu hd => ?_, fun u hu hd => ?_, trivial⟩
     all_goals try simp only [Act.put, zq]
     · go_simp
       exact zEr
     · go_simp
       exact zEr
     · have e1 : f1 1 = _ := hd 1 (by kernel_rfl)
       go_simp
       exact zEr
     · go_simp
       exact zEr
     · have e3 : f1 3 = _ := hd 3 (by kernel_rfl)
       go_simp
       exact zEr
     · have e2 : f1 2 = _ := hd 2 (by kernel_rfl)
       have e4 : f1 4 = _ := hd 4 (by kernel_rfl)
       rw [HM.out]
       go_simp
       exact zEr
     · have e0 : f1 0 = _ := hd 0 (by kernel_rfl)
       have e5 : f1 5 = _ := hd 5 (by kernel_rfl)
       go_simp
       exact zEr
     · have e6 : f1 6 = _ := hd 6 (by kernel_rfl)
       go_simp
       exact zEr
     · have e7 : f1 7 = _ := hd 7 (by kernel_rfl)
       go_simp
       rfl
     · have e7 : f1 7 = _ := hd 7 (by kernel_rfl)
       go_simp
       rfl
     · have e7 : f1 7 = _ := hd 7 (by kernel_rfl)
       go_simp
       rfl
     · have e7 : f1 7 = _ := hd 7 (by kernel_rfl)
       go_simp
       rfl
     · have e7 : f1 7 = _ := hd 7 (by kernel_rfl)
       go_simp
       rfl
     · have e7 : f1 7 = _ := hd 7 (by kernel_rfl)
       go_simp
       rfl
     · have e7 : f1 7 = _ := hd 7 (by kernel_rfl)
       go_simp
       rfl
     · have e7 : f1 7 = _ := hd 7 (by kernel_rfl)
       go_simp
       rfl
     · have e7 : f1 7 = _ := hd 7 (by kernel_rfl)
       go_simp
       rfl
     · have e7 : f1 7 = _ := hd 7 (by kernel_rfl)
       go_simp
       exact zEr
end Go.Proofs.YtkdidghfcfcpfaaGreat
namespace Go.Proofs.YtkdidghfcfcpfaaGreat
open Go.RowKit
structure StepK (K : Nat → Prop) (w w' : World) : Prop where
 stay : ∀ k, K k → k < w.heap.size → w'.heap[k]? = w.heap[k]?
 os : w'.os = w.os
 tape : w'.tape = w.tape
 output : w'.output = w.output
 size : w.heap.size ≤ w'.heap.size
theorem StepK.refl (K : Nat → Prop) (w : World) : StepK K w w := ⟨fun _ _ _ => rfl, rfl, rfl, rfl, zNr _⟩
theorem StepK.trans {K : Nat → Prop} {w w' w'' : World} (h : StepK K w w') (k : StepK K w' w'') : StepK K w w'' := ⟨fun i h1 h2 => (k.stay i h1 (Nat.lt_of_lt_of_le h2 h.size)).trans (h.stay i h1 h2), k.os.trans h.os, k.tape.trans h.tape, k.output.trans h.output, zNt h.size k.size⟩
theorem StepK.of_chg {S K : Nat → Prop} {w w' : World} (h : Chg S w w') (hS : ∀ k, k < w.heap.size → K k → ¬ S k) : StepK K w w' := ⟨fun k h1 h2 => h.block k h2 (hS k h2 h1), h.os, h.tape, h.output, h.size⟩
theorem StepK.mono {K K' : Nat → Prop} {w w' : World} (h : StepK K w w') (hk : ∀ i, K' i → K i) : StepK K' w w' := ⟨fun i h1 h2 => h.stay i (hk i h1) h2, h.os, h.tape, h.output, h.size⟩
def IterP (P : Program) {α : Type} (gf : Nat) (lb : Array Value) (encs : α → Array Value) (Ok : (Nat → Prop) → (Nat → Prop) → Nat → α → World → Prop) (Done : Nat → Prop) (Pan : Nat → List PanicEntry → Prop) (C : World → Prop) (w : World) : Prop :=
 ∀ (m l : Nat) (J : (Nat → Prop) → (Nat → Prop) → Nat → World → Prop) (Jx : World → Prop) (W : World), Ext w W →
  (∀ D K k A, J D K k A → C A) →
  (∀ D K k A D' K' A', J D K k A → Chg D A A' → (∀ i, D' i → D i ∨ A.heap.size ≤ i) → (∀ i, K' i → K i ∨ A.heap.size ≤ i) → J D' K' k A') →
  (∀ A D K, Ext W A → (∀ i, D i → W.heap.size ≤ i) → (∀ i, K i → W.heap.size ≤ i) → J D K 0 A) →
  (∀ D K k x A, (∀ i, D i → W.heap.size ≤ i ∧ i < A.heap.size) → (∀ i, K i → W.heap.size ≤ i ∧ i < A.heap.size) → J D K k A → Ok D K k x A →
   YieldAt Fence.wide m P l (encs x) A fun e A' => StepK K A A' ∧ ((e = .returned (.bool true) ∧ J D K (k + 1) A') ∨ (e = .returned (.bool false) ∧ Jx A'))) →
  Calls P gf (#[.func (.yield l) #[] #[]] ++ lb) W fun e A => ((∃ v, e = .returned v) ∧ ((∃ D K k, J D K k A ∧ Done k) ∨ Jx A)) ∨ (∃ ch, e = .panicked ch ∧ ∃ D K k, J D K k A ∧ Pan k ch)
def bodyOwesK (K : Nat → Prop) (I : World → Prop) (Ix : Code → World → Prop) (A : World) : Exit → Act → World → Prop
 | .normal, _, A' => StepK K A A' ∧ I A'
 | .ret, _, A' => StepK K A A' ∧ Ix .ret A'
 | .exit id, _, A' => StepK K A A' ∧ Ix (.exit id) A'
 | .goto t, _, A' => StepK K A A' ∧ Ix (.goto t) A'
 | .panic _, _, _ => False
 | .outgrown, _, _ => False
theorem wpIn_overP {P : Program} {n : Nat} {α : Type} {g : Operand} {ps : Array Tmp} {assign body : Code} {Q : Exit → Act → World → Prop} {a : Act} {w : World}
    {gf : Nat} {lb : Array Value} (hg : a.eval g = .func (.func gf) #[] lb) (eg : ∀ args w, (callFunc gf args).run P w = .ok (.enter gf args) w)
    {encs : α → Array Value} {Ok : (Nat → Prop) → (Nat → Prop) → Nat → α → World → Prop} {Done : Nat → Prop} {Pan : Nat → List PanicEntry → Prop} {C : World → Prop} (hseq : IterP P gf lb encs Ok Done Pan C w) (hps : ∀ x, (encs x).size = ps.size)
    (I : (Nat → Prop) → (Nat → Prop) → Nat → World → Prop) (Ix : Code → World → Prop) (hC : ∀ D K k A, I D K k A → C A)
    (hI : ∀ D K k A D' K' A', I D K k A → Chg D A A' → (∀ i, D' i → D i ∨ A.heap.size ≤ i) → (∀ i, K' i → K i ∨ A.heap.size ≤ i) → I D' K' k A') (hIx : ∀ c A A', Ix c A → Chg (fun i => i = w.heap.size + 1) A A' → Ix c A')
    (h0 : ∀ A D K, Ext w A → (∀ i, D i → w.heap.size ≤ i) → (∀ i, K i → w.heap.size ≤ i) → I D K 0 A)
    (hround : ∀ l D K k x A, l = w.heap.size + 1 → D l → K l → (∀ i, D i → w.heap.size ≤ i ∧ i < A.heap.size) → (∀ i, K i → w.heap.size ≤ i ∧ i < A.heap.size) → I D K k A → Ok D K k x A →
     assign.wpIn (Fence.wide.inRound l) (n - 1 - 1) P (Exit.then (fun a₁ A1 => StepK K A A1 ∧ ∀ A2, Chg (fun i => i = l) A1 A2 → body.wpIn (Fence.wide.inRound l) (n - 1 - 1) P (bodyOwesK K (I D K (k + 1)) Ix A2) a₁ A2) (fun _ _ _ => False))
      { tmps := (ps.zip (encs x)).foldl (fun t (p, v) => t.setIfInBounds p v) a.tmps, defers := [] } A)
    (hOk : ∀ D K D' K' k x A, Ok D K k x A → (∃ o, A.heap[w.heap.size]? = some (.deferred o)) → (∃ o, A.heap[w.heap.size + 1]? = some (.loop o)) → (∀ i, D' i → D i ∨ i = w.heap.size ∨ i = w.heap.size + 1) → (∀ i, K' i → K i ∨ i = w.heap.size ∨ i = w.heap.size + 1) → (∀ i, D i → D' i) → (∀ i, K i → K' i) → Ok D' K' k x A)
    (hdone : ∀ D k W D0 K0, w.heap.size ≤ D → I D0 K0 k W → Done k → W.heap[D]? = some (.deferred (some [])) → Q .normal { a with defers := { target := .collected D, args := #[] } :: a.defers } W)
    (hpan : ∀ D k W D0 K0 ch, w.heap.size ≤ D → I D0 K0 k W → Pan k ch → W.heap[D]? = some (.deferred (some [])) → Q (.panic ch) { a with defers := { target := .collected D, args := #[] } :: a.defers } W)
    (hstop : ∀ D c W, w.heap.size ≤ D → Ix c W → W.heap[D]? = some (.deferred (some [])) → c.wpIn Fence.wide n P Q { a with defers := { target := .collected D, args := #[] } :: a.defers } W) :
    (Code.rangeFunc g ps assign body).wpIn Fence.wide n P Q a w := by
 refine wpIn_rangeFunc ?_
 intro fn hfn
 obtain ⟨rec, hrec⟩ : ∃ rec : LoopState → Option Code → Loop, rec = fun st pe => { state := st, pending := pe, fn, tmps := a.tmps, params := ps, assign, body, defers := w.heap.size } := ⟨_, rfl⟩
 obtain ⟨W1, hW1⟩ : ∃ W1, W1 = (w.alloc (.deferred (some []))).alloc (.loop (rec .ready none)) := ⟨_, rfl⟩
 have hx1 : Ext w W1 := by rw [hW1]; exact ((Below.refl _ w).alloc (zNr _) _).alloc (by simp) _
 have hz1 : W1.heap.size = w.heap.size + 2 := by rw [hW1]; simp
 have hL1 : W1.heap[w.heap.size + 1]? = some (.loop (rec .ready none)) := by
  rw [hW1]; have := World.alloc_heap_new (w.alloc (.deferred (some []))) (.loop (rec .ready none)); rwa [World.size_alloc] at this
 have hD1 : W1.heap[w.heap.size]? = some (.deferred (some [])) := by
  rw [hW1]; exact (Below.heap_alloc _ _ _ (by simp)).trans (World.alloc_heap_new w _)
 let up : (Nat → Prop) → Nat → Prop := fun D i => D i ∨ i = w.heap.size ∨ i = w.heap.size + 1
 refine ⟨w.heap.size + 1, [{ target := .collected w.heap.size, args := #[] }], W1, { target := .fn (.func gf) lb, args := #[.func (.yield (w.heap.size + 1)) #[] #[]] }, W1, gf,
  #[.func (.yield (w.heap.size + 1)) #[] #[]] ++ lb, W1, ?_, ?_, (fun _ _ => trivial), ?_, (fun h => (by cases h)), ?_⟩
 · rw [hW1, hrec]; exact run_enterLoop_outer _ _ _ _ _
 · simp only [resolve, hg]
   simp [go_sem]
 · simp [invoke, go_sem, eg]
 · refine callsIn_wide.2 ((hseq (n - 1 - 1) (w.heap.size + 1)
     (fun D K k A => I (up D) (up K) k A ∧ (∀ i, D i → w.heap.size + 2 ≤ i) ∧ A.heap[w.heap.size + 1]? = some (.loop (rec .ready none)) ∧ A.heap[w.heap.size]? = some (.deferred (some [])))
     (fun A => ∃ c, Ix c A ∧ A.heap[w.heap.size + 1]? = some (.loop (rec .done (some c))) ∧ A.heap[w.heap.size]? = some (.deferred (some [])))
     W1 hx1 (fun D K k A h => hC _ _ k A h.1) ?_ ?_ ?_).mono ?_)
   · rintro D K k A D' K' A' ⟨hi, hd0, hl, hd⟩ hc hD' hK'
     have lt1 := (zAg.1 hl).1
     have lt2 := (zAg.1 hd).1
     refine ⟨hI _ _ k A _ _ A' hi (hc.mono fun i _ hb => .inl hb) (fun i h => ?_) (fun i h => ?_), fun i h => ?_, (hc.block _ lt1 (fun hb => by have := hd0 _ hb; omega)).trans hl, (hc.block _ lt2 (fun hb => by have := hd0 _ hb; omega)).trans hd⟩
     · rcases h with h | h
       · rcases hD' i h with h | h
         · exact .inl (.inl h)
         · exact .inr h
       · exact .inl (.inr h)
     · rcases h with h | h
       · rcases hK' i h with h | h
         · exact .inl (.inl h)
         · exact .inr h
       · exact .inl (.inr h)
     · rcases hD' i h with h | h
       · exact hd0 i h
       · omega
   · intro A D K hx hD hK
     refine ⟨h0 A _ _ (hx1.trans hx) (fun i h => ?_) (fun i h => ?_), fun i h => by have := hD i h; omega, (hx.block _ (by omega)).trans hL1, (hx.block _ (by omega)).trans hD1⟩
     · rcases h with h | h | h
       · have := hD i h; omega
       · omega
       · omega
     · rcases h with h | h | h
       · have := hK i h; omega
       · omega
       · omega
   · rintro D K k x A hD hK ⟨hi, hd0, hl, hd⟩ hok
     have hy := run_yield (P := P) (args := encs x) hl (by rw [hrec]; exact hps x)
     rw [hrec] at hy
     refine ⟨fn, _, assign, body, hy, roundIn_of_wpIn hfn ?_⟩
     have hok' : Ok (up D) (up K) k x A := hOk _ _ _ _ k x A hok ⟨_, hd⟩ ⟨_, hl⟩ (fun i h => h) (fun i h => h) (fun i h => .inl h) (fun i h => .inl h)
     have hDu : ∀ i, up D i → w.heap.size ≤ i ∧ i < A.heap.size := fun i h => by
      rcases h with h | h | h
      · have := hD i h; omega
      · have := (zAg.1 hd).1; omega
      · have := (zAg.1 hl).1; omega
     have hKu : ∀ i, up K i → w.heap.size ≤ i ∧ i < A.heap.size := fun i h => by
      rcases h with h | h | h
      · have := hK i h; omega
      · have := (zAg.1 hd).1; omega
      · have := (zAg.1 hl).1; omega
     refine wpIn_mono (hround (w.heap.size + 1) (up D) (up K) k x A rfl (.inr (.inr rfl)) (.inr (.inr rfl)) hDu hKu hi hok') ?_
     intro e a₁ A1 hp
     cases e with
     | normal =>
      obtain ⟨hst, hb⟩ := hp
      have lt0 := (zAg.1 hl).1
      have lt00 := (zAg.1 hd).1
      have hl1 := (hst.stay (w.heap.size + 1) (.inr (.inr rfl)) lt0).trans hl
      have hd1 := (hst.stay w.heap.size (.inr (.inl rfl)) lt00).trans hd
      have lt1 := (zAg.1 hl1).1
      refine ⟨_, run_beginRound hl1 (by rw [hrec]), ?_⟩
      have hc2 := putObj_chg A1 (w.heap.size + 1) (.loop { rec .ready none with state := .busy })
      have hl2 : (A1.putObj (w.heap.size + 1) (.loop { rec .ready none with state := .busy })).heap[w.heap.size + 1]? = some (.loop { rec .ready none with state := .busy }) := World.putObj_heap_same lt1
      have hd2 := (hc2.block w.heap.size (by omega) (by omega)).trans hd1
      have fin : ∀ (jump : Option Code) (W3 : World), StepK (up K) (A1.putObj (w.heap.size + 1) (.loop { rec .ready none with state := .busy })) W3 →
          (Instr.endRound (w.heap.size + 1) jump).run P W3 = .ok (.bool jump.isNone) (W3.putObj (w.heap.size + 1) (.loop (rec (if jump.isNone then .ready else .done) jump))) ∧
          (W3.putObj (w.heap.size + 1) (.loop (rec (if jump.isNone then .ready else .done) jump))).heap[w.heap.size + 1]? = some (.loop (rec (if jump.isNone then .ready else .done) jump)) ∧
          (W3.putObj (w.heap.size + 1) (.loop (rec (if jump.isNone then .ready else .done) jump))).heap[w.heap.size]? = some (.deferred (some [])) ∧
          StepK K A (W3.putObj (w.heap.size + 1) (.loop (rec (if jump.isNone then .ready else .done) jump))) := fun jump W3 hs3 => by
       have hl3 := (hs3.stay _ (.inr (.inr rfl)) (zAg.1 hl2).1).trans hl2
       have hd3 := (hs3.stay _ (.inr (.inl rfl)) (zAg.1 hd2).1).trans hd2
       have lt3 := (zAg.1 hl3).1
       have hr := run_endRound (P := P) jump hl3
       rw [hrec] at hr ⊢
       refine ⟨hr, World.putObj_heap_same lt3, (World.putObj_heap_other (by omega)).trans hd3, ?_⟩
       have s1 : StepK K A A1 := hst.mono fun i h => .inl h
       have s2 : StepK K A1 (A1.putObj (w.heap.size + 1) (.loop { rec .ready none with state := .busy })) := ⟨fun i h1 h2 => World.putObj_heap_other (by have := hK i h1; omega), rfl, rfl, rfl, by simp⟩
       have s3 : StepK K (A1.putObj (w.heap.size + 1) (.loop { rec .ready none with state := .busy })) W3 := hs3.mono fun i h => .inl h
       rw [hrec] at s2 s3
       exact ((s1.trans s2).trans s3).trans ⟨fun i h1 h2 => World.putObj_heap_other (by have := hK i h1; omega), rfl, rfl, rfl, by simp⟩
      have hchg : ∀ (W3 : World) (o : Obj), Chg (up D) W3 (W3.putObj (w.heap.size + 1) o) := fun W3 o => (putObj_chg W3 _ o).mono fun i _ e => .inr (.inr e)
      refine wpIn_mono (hb _ hc2) ?_
      intro e a3 W3 hp
      cases e with
      | normal =>
       obtain ⟨hs3, hi3⟩ := hp
       obtain ⟨hr, hl4, hd4, hst4⟩ := fin none W3 hs3
       exact ⟨_, _, hr, hst4, .inl ⟨rfl, hI _ _ (k + 1) _ _ _ _ hi3 (hchg _ _) (fun i h => .inl h) (fun i h => .inl h), hd0, hl4, hd4⟩⟩
      | ret =>
       obtain ⟨hs3, hi3⟩ := hp
       obtain ⟨hr, hl4, hd4, hst4⟩ := fin (some .ret) W3 hs3
       exact ⟨_, _, hr, hst4, .inr ⟨rfl, .ret, hIx _ _ _ hi3 (putObj_chg _ _ _), hl4, hd4⟩⟩
      | exit id =>
       obtain ⟨hs3, hi3⟩ := hp
       obtain ⟨hr, hl4, hd4, hst4⟩ := fin (some (.exit id)) W3 hs3
       exact ⟨_, _, hr, hst4, .inr ⟨rfl, .exit id, hIx _ _ _ hi3 (putObj_chg _ _ _), hl4, hd4⟩⟩
      | goto t =>
       obtain ⟨hs3, hi3⟩ := hp
       obtain ⟨hr, hl4, hd4, hst4⟩ := fin (some (.goto t)) W3 hs3
       exact ⟨_, _, hr, hst4, .inr ⟨rfl, .goto t, hIx _ _ _ hi3 (putObj_chg _ _ _), hl4, hd4⟩⟩
      | panic ch => exact hp.elim
      | outgrown => exact hp.elim
     | ret => exact hp.elim
     | exit id => exact hp.elim
     | goto t => exact hp.elim
     | panic ch => exact hp.elim
     | outgrown => exact hp.elim
   · rintro e W2 (⟨⟨v, rfl⟩, (⟨D, K, k, ⟨hi, hd0, hl, hd⟩, hdn⟩ | ⟨c, hi, hl, hd⟩)⟩ | ⟨ch, rfl, D, K, k, ⟨hi, hd0, hl, hd⟩, hpn⟩)
     · have hr := run_endLoop (P := P) hl (by rw [hrec]; simp)
       rw [hrec] at hr
       exact ⟨none, _, hr, hdone _ k _ _ _ (zNr _) (hI _ _ k _ _ _ _ hi ((putObj_chg _ _ _).mono fun i _ e => .inr (.inr e)) (fun i h => .inl h) (fun i h => .inl h)) hdn ((World.putObj_heap_other (by omega)).trans hd)⟩
     · have hr := run_endLoop (P := P) hl (by rw [hrec]; simp)
       rw [hrec] at hr
       exact ⟨some c, _, hr, hstop _ c _ (zNr _) (hIx c _ _ hi (putObj_chg _ _ _)) ((World.putObj_heap_other (by omega)).trans hd)⟩
     · exact hpan _ k _ _ _ ch (zNr _) hi hpn hd
end Go.Proofs.YtkdidghfcfcpfaaGreat
namespace Go.Proofs.YtkdidghfcfcpfaaGreat
open Go.ChangeShapes Go.WideShapes Go.ChangeAt Go.RowKit
def gaveUp : List PanicEntry := [{ v := .iface 25 (.int .i64 4), recovered := false }]
theorem giveUp_any (w : World) : Calls Tryz.prog 136 #[] w fun e w' => e = .panicked gaveUp ∧ w' = w := by
 go_enter Tryz.func136, Tryz.ntmps136
 go_wp2
 exact ⟨rfl, rfl, rfl⟩
def GaveOr (v : Value) (n : Int) (w : World) (e : Ending) (w' : World) : Prop := (n = 0 ∧ e = .returned v ∨ n ≠ 0 ∧ e = .panicked gaveUp) ∧ w' = w
theorem readNum_any (v : Int) (n : Int) (w : World) : Calls Tryz.prog 169 #[.int .u64 v, .int .i64 n] w (GaveOr (.int .u64 v) n w) := by
 by_cases h : n = 0
 · subst h
   go_enter Tryz.func169, Tryz.ntmps169
   go_wp2_with fail
   go_ret
   exact ⟨.inl ⟨rfl, rfl⟩, rfl⟩
 · have d : (n != 0) = true := by simpa using h
   have H := zHd h
   clear h
   go_enter Tryz.func169, Tryz.ntmps169
   go_wp2_with fail
   refine (giveUp_any _).mono ?_
   rintro e w' ⟨rfl, rfl⟩
   exact ⟨rfl, .inr ⟨H.out, rfl⟩, rfl⟩
theorem readBytes_any (A : Option Addr) (k c : Nat) (n : Int) (w : World) : Calls Tryz.prog 170 #[.slice A k c, .int .i64 n] w (GaveOr (.slice A k c) n w) := by
 by_cases h : n = 0
 · subst h
   go_enter Tryz.func170, Tryz.ntmps170
   go_wp2_with fail
   go_ret
   exact ⟨.inl ⟨rfl, rfl⟩, rfl⟩
 · have d : (n != 0) = true := by simpa using h
   have H := zHd h
   clear h
   go_enter Tryz.func170, Tryz.ntmps170
   go_wp2_with fail
   refine (giveUp_any _).mono ?_
   rintro e w' ⟨rfl, rfl⟩
   exact ⟨rfl, .inr ⟨H.out, rfl⟩, rfl⟩
structure Got (B : Nat) (v : Value) (R : List (Ent × Hd)) (w : World) : Prop where
 row : w.ownsRow B 50 4 v R.length (erow R)
 each : ∀ p ∈ R, Mine B p w
theorem Got.nil (B : Nat) (w : World) : Got B (.slice none 0 0) [] w := ⟨World.ownsRow_nil _ _ _ _, fun p hp => by cases hp⟩
theorem Got.base {B B' : Nat} {v : Value} {R : List (Ent × Hd)} {w : World} (h : Got B v R w) (hB : B' ≤ B) : Got B' v R w := ⟨rowN_base h.row hB, fun p hp => (h.each p hp).base hB⟩
theorem Got.kept {B : Nat} {v : Value} {R : List (Ent × Hd)} {w w' : World} (h : Got B v R w) (hk : ∀ g, B ≤ g → g < w.heap.size → w'.heap[g]? = w.heap[g]?) : Got B v R w' := by
 refine ⟨rowN_kept h.row fun g hg => hk g (rowN_lt h.row g hg).1 (rowN_lt h.row g hg).2.1, fun p hp => ?_⟩
 have hm := h.each p hp
 exact ⟨row_kept hm.k fun g hg => hk g (row_lt hm.k g hg).1 (row_lt hm.k g hg).2, row_kept hm.v fun g hg => hk g (row_lt hm.v g hg).1 (row_lt hm.v g hg).2, hm.good⟩
theorem Got.below {B : Nat} {v : Value} {R : List (Ent × Hd)} {w w' : World} (h : Got B v R w) (hx : Ext w w') : Got B v R w' := h.kept fun g _ hg => hx.block g hg
def NextAns (ah l : List Nat) (w : World) (r lo hi : Nat) (x : Ending) (w' : World) : Prop :=
 w.grownBy w' (some r) ∧ ((∃ (e : Ent) (g : Hd) (rest : List Nat), x = .returned (e.at_ g) ∧ Rd w' r lo hi rest ∧ rest.length < l.length ∧ e.key.length ≤ ah.length + 32 ∧ Mine w.heap.size (e, g) w' ∧ (∀ e' rest', Stands ah l e' rest' → e' = e ∧ rest' = rest)) ∨
 (x = .panicked gaveUp ∧ ∀ e' rest', ¬ Stands ah l e' rest'))
theorem Stands.num {ah l rest : List Nat} {e : Ent} (h : Stands ah l e rest) : ∃ n r, Begins l n r ∧ n ≤ ah.length := by
 obtain ⟨hm, n, a1, a2, a3, a4⟩ := h
 exact ⟨n, _, ⟨⟨by have := (Ent.may_u64 hm).1.lt; omega⟩, a4⟩, a1⟩
def Stands1 (n : Nat) (ah l : List Nat) (e : Ent) (rest : List Nat) : Prop :=
 e.may = true ∧ n ≤ e.key.length ∧ ah.take n = e.key.take n ∧ l = bytesForm (e.key.drop n) ++ (form e.seq.toNat ++ (form e.kind.toNat ++ ((if e.kind = 1 then bytesForm e.val else []) ++ rest)))
theorem Stands.one {ah l rest l1 : List Nat} {e : Ent} {n : Nat} (h : Stands ah l e rest) (hb : Begins l n l1) : n ≤ ah.length ∧ Stands1 n ah l1 e rest := by
 obtain ⟨hm, m, a1, a2, a3, a4⟩ := h
 obtain ⟨rfl, rfl⟩ := Begins.unique hb ⟨⟨by have := (Ent.may_u64 hm).1.lt; omega⟩, a4⟩
 exact ⟨a1, hm, a2, a3, rfl⟩
def Stands2 (l : List Nat) (e : Ent) (rest : List Nat) : Prop := e.may = true ∧ l = form e.seq.toNat ++ (form e.kind.toNat ++ ((if e.kind = 1 then bytesForm e.val else []) ++ rest))
theorem Stands1.two {n : Nat} {ah l rest bs l2 : List Nat} {e : Ent} {k : Int} (h : Stands1 n ah l e rest) (ho : OutText 32 l bs k l2) : k = 0 ∧ e.key = ah.take n ++ bs ∧ Stands2 l2 e rest := by
 obtain ⟨hm, a1, a2, a3⟩ := h
 obtain ⟨u1, u2, u3, u4⟩ := Ent.may_u64 hm
 obtain ⟨b1, b2, b3, b4, b5⟩ := mayN_iff.1 hm
 obtain ⟨rfl, rfl, rfl⟩ := ho.same (.inl ⟨rfl, by rw [List.length_drop]; omega, ⟨by rw [List.length_drop]; have := u1.lt; omega⟩, a3⟩)
 exact ⟨rfl, by rw [a2, List.take_append_drop], hm, rfl⟩
def Stands3 (l : List Nat) (e : Ent) (rest : List Nat) : Prop := e.may = true ∧ l = form e.kind.toNat ++ ((if e.kind = 1 then bytesForm e.val else []) ++ rest)
theorem Stands2.three {l rest l2 : List Nat} {e : Ent} {n : Nat} {k : Int} (h : Stands2 l e rest) (ho : OutNum l n k l2) : k = 0 ∧ e.seq = (n : Int) ∧ Stands3 l2 e rest := by
 obtain ⟨hm, rfl⟩ := h
 obtain ⟨u1, u2, u3, u4⟩ := Ent.may_u64 hm
 obtain ⟨b1, b2, b3, b4, b5⟩ := mayN_iff.1 hm
 obtain ⟨rfl, rfl, rfl⟩ := ho.same (.inl ⟨rfl, u2, rfl⟩)
 exact ⟨rfl, by omega, hm, rfl⟩
def Stands4 (l : List Nat) (e : Ent) (rest : List Nat) : Prop := e.may = true ∧ l = (if e.kind = 1 then bytesForm e.val else []) ++ rest
theorem Stands3.four {l rest l2 : List Nat} {e : Ent} {n : Nat} {k : Int} (h : Stands3 l e rest) (ho : OutNum l n k l2) : k = 0 ∧ e.kind = (n : Int) ∧ Stands4 l2 e rest := by
 obtain ⟨hm, rfl⟩ := h
 obtain ⟨u1, u2, u3, u4⟩ := Ent.may_u64 hm
 obtain ⟨b1, b2, b3, b4, b5⟩ := mayN_iff.1 hm
 obtain ⟨rfl, rfl, rfl⟩ := ho.same (.inl ⟨rfl, u3, rfl⟩)
 exact ⟨rfl, by rcases b5 with ⟨b, _⟩ | ⟨b, _⟩ <;> omega, hm, rfl⟩
theorem Stands4.put {l rest l2 bs : List Nat} {e : Ent} {k : Int} (h : Stands4 l e rest) (hk : e.kind = 1) (ho : OutText 65536 l bs k l2) : k = 0 ∧ e.val = bs ∧ rest = l2 := by
 obtain ⟨hm, rfl⟩ := h
 obtain ⟨u1, u2, u3, u4⟩ := Ent.may_u64 hm
 obtain ⟨b1, b2, b3, b4, b5⟩ := mayN_iff.1 hm
 rw [if_pos hk] at ho
 obtain ⟨rfl, rfl, rfl⟩ := ho.same (.inl ⟨rfl, by rcases b5 with ⟨b, _⟩ | ⟨b, _⟩ <;> omega, u4, rfl⟩)
 exact ⟨rfl, rfl, rfl⟩
theorem Stands4.del {l rest : List Nat} {e : Ent} (h : Stands4 l e rest) (hk : e.kind ≠ 1) : e.val = [] ∧ rest = l := by
 obtain ⟨hm, rfl⟩ := h
 obtain ⟨b1, b2, b3, b4, b5⟩ := mayN_iff.1 hm
 rw [if_neg hk]
 refine ⟨?_, rfl⟩
 rcases b5 with ⟨b, _⟩ | ⟨b, bn⟩
 · exact absurd b hk
 · exact List.eq_nil_of_length_eq_zero bn
theorem grown_ext {w w1 w2 : World} {r : Nat} (h : w.grownBy w1 (some r)) (k : Ext w1 w2) : w.grownBy w2 (some r) :=
 h.trans ⟨k.os, k.tape, k.output, k.size, fun i hi _ => k.block i hi⟩
theorem grown_new {w w1 : World} {r g j : Nat} {u : Value} (h : w.grownBy w1 (some r)) (hg : w.heap.size ≤ g) : w.grownBy (w1.setCell ⟨g, j, none⟩ u) (some r) :=
 ⟨h.os, h.tape, h.output, by simpa [World.setCell] using h.size, fun i hi hne => (Below.heap_setCell w1 _ u i (by show i ≠ g; omega)).trans (h.block i hi hne)⟩
theorem Own.wall {B : Nat} {l : List Nat} {v : Value} {w w' : World} (h : Own B l v w) (hk : ∀ b, v.ownBlock = some b → w'.heap[b]? = w.heap[b]?) : Own B l v w' := row_kept h hk
theorem Rd.set {w : World} {r lo hi g j : Nat} {l : List Nat} (h : Rd w r lo hi l) (hg : hi ≤ g) (hr : r ≠ g) (u : Value) : Rd (w.setCell ⟨g, j, none⟩ u) r lo hi l := by
 obtain ⟨v, h1, h2⟩ := h.ex
 exact ⟨⟨v, h1.far hr u, h2.setCell (.inr hg) u⟩, h.apart, by have := h.top; simpa [World.setCell] using this, h.byt⟩
theorem Own.four {B g : Nat} {l : List Nat} {v a b c d : Value} {w : World} (h : Own B l v w) (hg : ∀ k, v.ownBlock = some k → g < k) : Own B l v ((((w.setCell ⟨g, 0, none⟩ a).setCell ⟨g, 1, none⟩ b).setCell ⟨g, 2, none⟩ c).setCell ⟨g, 3, none⟩ d) :=
 h.wall fun k hk => by
  have hne : k ≠ g := by have := hg k hk; omega
  rw [Below.heap_setCell _ _ _ _ (by exact hne), Below.heap_setCell _ _ _ _ (by exact hne), Below.heap_setCell _ _ _ _ (by exact hne), Below.heap_setCell _ _ _ _ (by exact hne)]
theorem wrap_i (n : Nat) : -9223372036854775808 ≤ wrap64 (n : Int) ∧ wrap64 (n : Int) ≤ 9223372036854775807 := by unfold wrap64; omega
theorem wrap_small {n : Nat} (h : n ≤ 9223372036854775807) : wrap64 (n : Int) = n := by unfold wrap64; omega
set_option maxRecDepth 100000 in
set_option maxHeartbeats 4000000 in
theorem next_any {w : World} {r lo hi lo2 hi2 : Nat} {l ah : List Nat} {v : Value} (h : Rd w r lo hi l) (hv : Bs w lo2 hi2 v ah) (hhi2 : hi2 ≤ w.heap.size) (hr2 : r < lo2 ∨ hi2 ≤ r) (hah : ∀ x ∈ ah, x < 256) (hal : ah.length ≤ 1000000000000) (hl : l.length ≤ 1000000000000) :
    Calls Tryz.prog 157 #[.pointer (some ⟨r, 0, none⟩), v] w (NextAns ah l w r lo hi) := by
 obtain ⟨w0, hw0⟩ : ∃ w0, w0 = w.alloc (.cells #[.slice none 0 0, .int .i64 0, .int .i64 0, .slice none 0 0] 50) := ⟨_, rfl⟩
 have HX0 : Hid (Ext w w0) := by rw [hw0]; exact ext_alloc _ _
 have HZ0 : Hid (w0.heap.size = w.heap.size + 1) := by rw [hw0]; simp [Hid]
 have HR4 : Hid (w0.heap[w.heap.size]? = some (.cells #[.slice none 0 0, .int .i64 0, .int .i64 0, .slice none 0 0] 50 (0, 0))) := by rw [hw0]; exact heap_at _ _ rfl
 have HV := zHd (hv.below HX0.out hhi2)
 have HRD := zHd (h.below HX0.out h.top h.lt)
 have HTOP := zHd h.top
 have HRW := zHd h.lt
 have HH := zHd (And.intro hhi2 hr2)
 have HAH := zHd hah
 have HL := zHd (And.intro hal hl)
 have HBYT := zHd h.byt
 obtain ⟨A, c, rfl, hc1, hc2, _, _⟩ := hv
 have hu : IntKind.u64.wrap (ah.length : Int) = (ah.length : Int) := by rw [IntKind.wrap_u64]; omega
 have HC := zHd (And.intro hc1 hc2)
 clear h hhi2 hr2 hah hal hl hc1 hc2
 go_enter Tryz.func157, Tryz.ntmps157
 go_wp2_with fail
 rw [← hw0]
 clear hw0
 refine (Number_out HRD.out).mono ?_
 rintro x w1 ⟨n, k1, l1, ho, rfl, hrd, hg⟩
 have HO1 := zHd ho
 have HRD1 := zHd hrd
 have HG1 : Hid (w.grownBy w1 (some r)) := ⟨hg.os.trans HX0.out.os, hg.tape.trans HX0.out.tape, hg.output.trans HX0.out.output, zNt HX0.out.size hg.size, fun i hi hne => (hg.block i (Nat.lt_of_lt_of_le hi HX0.out.size) hne).trans (HX0.out.block i hi)⟩
 have HG01 := zHd hg
 clear ho hrd hg
 go_wp2_with fail
 refine (readNum_any _ _ _).mono ?_
 rintro x w1' ⟨⟨hk, rfl⟩ | ⟨hk, rfl⟩, hw1⟩
 rotate_left
 · subst hw1
   refine ⟨rfl, HG1.out, .inr ⟨rfl, fun e rest hs => ?_⟩⟩
   obtain ⟨m, r9, hb, _⟩ := hs.num
   exact hk (HO1.out.same (.inl ⟨rfl, hb.n64, hb.eq⟩)).2.1
 subst hw1 hk
 have HB : Hid (Begins l n l1) := by
  rcases HO1.out with ⟨_, hb⟩ | ⟨h0, _⟩
  · exact hb
  · exact absurd h0 (by decide)
 by_cases hn : ah.length < n
 · have d : decide (ah.length < n) = true := by simpa using hn
   have dI : decide ((ah.length : Int) < (n : Int)) = true := by simp; omega
   have HN := zHd hn
   clear hn
   go_wp2_with fail
   refine (giveUp_any _).mono ?_
   rintro x w1' ⟨rfl, rfl⟩
   refine ⟨rfl, HG1.out, .inr ⟨rfl, fun e rest hs => ?_⟩⟩
   have h1 := (hs.one HB.out).1
   have h2 := HN.out
   omega
 have d : decide (ah.length < n) = false := by simpa using hn
 have dI : decide ((ah.length : Int) < (n : Int)) = false := by simp; omega
 have HN : Hid (n ≤ ah.length) := by unfold Hid; omega
 clear hn
 have HL1 : Hid (l1.length < l.length) := by
  have h1 := HB.out.eq
  have h2 := congrArg List.length h1
  rw [List.length_append] at h2
  have := form_pos n
  unfold Hid; omega
 go_wp2_with fail
 refine (Bytes_own HRD1.out (zNt (Nat.le_of_lt HL1.out) HL.out.2) (by decide) (by decide)).mono ?_
 rintro x w2 ⟨sA, sc, sb, k2, l2, ho, hown, rfl, hrd, hg⟩
 have HO2 := zHd ho
 have HS2 := zHd hown
 have HRD2 := zHd hrd
 have HG2 : Hid (w.grownBy w2 (some r)) := HG1.out.trans hg
 have HG02 : Hid (w0.grownBy w2 (some r)) := HG01.out.trans hg
 clear ho hown hrd hg HRD1
 go_wp2_with fail
 refine (readBytes_any _ _ _ _ _).mono ?_
 rintro x w1' ⟨⟨hk, rfl⟩ | ⟨hk, rfl⟩, hw1⟩
 rotate_left
 · subst hw1
   refine ⟨rfl, HG2.out, .inr ⟨rfl, fun e rest hs => hk ((hs.one HB.out).2.two HO2.out).1⟩⟩
 subst hw1 hk
 obtain ⟨A2, hA2, hA2n, hrun⟩ := head_run .u64 A ah.length c n HN.out HC.out.1
 have hrun' : ∀ w, (Instr.slice 22 (.slice A ah.length c) none (some (.int .u64 (n : Int))) none).run Tryz.prog w = .ok (.slice A2 n c) w := hrun
 have HAB : Hid (Bs w1' 0 w1'.heap.size (.slice A2 n c) (ah.take n)) := by
  have hv := HV.out
  obtain ⟨A', c', e1, h1, h2, h3, h4⟩ := hv
  injection e1 with e1 e2 e3
  subst e1 e3
  have hl : (ah.take n).length = n := by rw [List.length_take]; have := HN.out; omega
  have h5 : By w1' lo2 hi2 A ah := Sl.grown h4 HG02.out (by have := HH.out.1; have := HZ0.out; omega) (fun k hk => by injection hk with hk; have := HH.out.2; omega)
  have h6 := hA2 ah rfl _ _ _ h5
  exact ⟨A2, c, by rw [hl], by rw [hl]; have := HN.out; have := HC.out.1; omega, h2, fun e => h3 (hA2n e), Sl.wide h6 (Nat.zero_le _) (zNt HH.out.1 HG2.out.size)⟩
 have HS32 : Hid (sb.length ≤ 32) := by
  rcases HO2.out with ⟨_, h1, _⟩ | ⟨h0, _⟩
  · unfold Hid; omega
  · exact absurd rfl h0
 have HSB := zHd HS2.out.bs
 have HRW2 := zHd ((rows2_two (T := 22) HAB.out HSB.out (zNr _)).resolve_right (by omega))
 clear hA2 hA2n hrun
 go_wp2_with fail
 refine (concat_any _ 2 0 (w1'.heap.size + 1) _ _ _ HRW2.out (by simp) (by simp [maxLen]) (by simp) ?c1).mono ?_
 case c1 => have := HL.out; have := HS32.out; simp; omega
 rintro x w3 ⟨v3, rfl, hown, hb3⟩
 obtain ⟨key, hkey⟩ : ∃ key, key = ah.take n ++ sb := ⟨_, rfl⟩
 have HKEY := zHd hkey
 have hfl : [ah.take n, sb].flatten = key := by rw [hkey]; simp
 rw [hfl] at hown
 have hown2 : Own (w1'.heap.size + 1) key v3 w3 := by rw [World.size_alloc] at hown; exact hown
 obtain ⟨kA, kc, rfl⟩ := hown2.slice
 have HK3 := zHd hown2
 have HX3 : Hid (Ext w1' w3) := (ext_alloc _ _).trans (hb3.mono (by simp))
 have HKL : Hid (key.length ≤ 2000000000000) := by have := HL.out; have := HO2.out.len.1; have := HL1.out; rw [hkey]; unfold Hid; rw [List.length_append, List.length_take]; omega
 have HK32 : Hid (key.length ≤ ah.length + 32) := by have := HS32.out; rw [hkey]; unfold Hid; rw [List.length_append, List.length_take]; omega
 have HKB : Hid (∀ x ∈ key, x < 256) := by
  intro q hq
  rw [hkey] at hq
  rcases List.mem_append.1 hq with hq | hq
  · exact HAH.out q (List.mem_of_mem_take hq)
  · refine HBYT.out q ?_
    rw [HB.out.eq]
    exact List.mem_append.2 (.inr (HO2.out.len.2.2 q hq))
 clear hkey hfl hown hown2 hb3 hrun' hu d dI
 obtain ⟨w4, hw4⟩ : ∃ w4, w4 = w3.alloc (.cells #[.slice kA key.length kc, .int .i64 0, .int .i64 0, .slice none 0 0] 50) := ⟨_, rfl⟩
 have HX4 : Hid (Ext w3 w4) := by rw [hw4]; exact ext_alloc _ _
 have HE4 : Hid (w4.heap[w3.heap.size]? = some (.cells #[.slice kA key.length kc, .int .i64 0, .int .i64 0, .slice none 0 0] 50 (0, 0))) := by rw [hw4]; exact heap_at _ _ rfl
 have HXX : Hid (Ext w1' w4) := zEt HX3.out HX4.out
 have HG4 : Hid (w.grownBy w4 (some r)) := grown_ext HG2.out HXX.out
 have HRD4 : Hid (Rd w4 r lo hi l2) := HRD2.out.below HXX.out HRD2.out.top HRD2.out.lt
 have HK4 : Hid (Own w.heap.size key (.slice kA key.length kc) w4) := (HK3.out.below HX4.out).base (by have := HG2.out.size; omega)
 have HKG : Hid (∀ b, (Value.slice kA key.length kc).ownBlock = some b → b < w3.heap.size) := fun b hb => (row_lt HK3.out b hb).2
 have HGE : Hid (w.heap.size < w3.heap.size) := by have := HG02.out.size; have := HX3.out.size; have := HZ0.out; unfold Hid; omega
 obtain ⟨g, hg⟩ : ∃ g, g = w3.heap.size := ⟨_, rfl⟩
 have HL2 : Hid (l2.length ≤ 1000000000000) := by have := HL.out; have := HO2.out.len.2.1; have := HL1.out; unfold Hid; omega
 go_wp2_with fail
 rw [← hw4]
 rw [← hg] at HE4 HKG HGE ⊢
 clear hw4 hg
 refine (Number_out HRD4.out).mono ?_
 rintro x w5 ⟨sq, k3, l3, ho, rfl, hrd, hg⟩
 have HO3 := zHd ho
 have HRD5 := zHd hrd
 have HG5 : Hid (w.grownBy w5 (some r)) := HG4.out.trans hg
 have hgr : g ≠ r := by have := HGE.out; have := HRW.out; omega
 have HGR := zHd hgr
 have hgl4 := (zAg.1 HE4.out).1
 have HE5 : Hid (w5.heap[g]? = some (.cells #[.slice kA key.length kc, .int .i64 0, .int .i64 0, .slice none 0 0] 50 (0, 0))) := (hg.block g hgl4 (fun e => by injection e with e; exact hgr e)).trans HE4.out
 have HK5 : Hid (Own w.heap.size key (.slice kA key.length kc) w5) := HK4.out.grown hg HRW.out
 have hr4w : w.heap.size < w4.heap.size := Nat.lt_trans HGE.out hgl4
 have HR5 : Hid (w5.heap[w.heap.size]? = some (.cells #[.slice none 0 0, .int .i64 0, .int .i64 0, .slice none 0 0] 50 (0, 0))) := by
  have h1 : w1'.heap[w.heap.size]? = w0.heap[w.heap.size]? := HG02.out.block _ (by have := HZ0.out; omega) (fun e => by injection e with e; have := HRW.out; omega)
  have h2 : w4.heap[w.heap.size]? = w1'.heap[w.heap.size]? := HXX.out.block _ (by have := HG02.out.size; have := HZ0.out; omega)
  have h3 : w5.heap[w.heap.size]? = w4.heap[w.heap.size]? := hg.block _ hr4w (fun e => by injection e with e; have := HRW.out; omega)
  exact h3.trans (h2.trans (h1.trans HR4.out))
 clear ho hrd hg hgr hgl4 hr4w HRD4 HE4 HK4
 go_wp2_with fail
 refine (readNum_any _ _ _).mono ?_
 rintro x w1'' ⟨⟨hk, rfl⟩ | ⟨hk, rfl⟩, hw1⟩
 rotate_left
 · subst hw1
   refine ⟨rfl, HG5.out, .inr ⟨rfl, fun e rest hs => hk (((hs.one HB.out).2.two HO2.out).2.2.three HO3.out).1⟩⟩
 subst hw1 hk
 have e0 := cell_of HE5.out (k := 0) rfl
 have e1 := cell_of HE5.out (k := 1) rfl
 have f1 := frozen_four (j := 1) HE5.out
 go_wp2_with fail
 obtain ⟨w6, hw6⟩ : ∃ w6, w6 = w1''.setCell ⟨g, 1, none⟩ (.int .i64 (wrap64 (sq : Int))) := ⟨_, rfl⟩
 rw [← hw6]
 have HE6 : Hid (w6.heap[g]? = some (.cells #[.slice kA key.length kc, .int .i64 (wrap64 (sq : Int)), .int .i64 0, .slice none 0 0] 50 (0, 0))) := by rw [hw6]; exact heap_setCell_same w1'' g 1 _ _ _ HE5.out
 have HG6 : Hid (w.grownBy w6 (some r)) := by rw [hw6]; exact grown_new HG5.out (Nat.le_of_lt HGE.out)
 have hhig : hi ≤ g := zNt HTOP.out (Nat.le_of_lt HGE.out)
 have HRD6 : Hid (Rd w6 r lo hi l3) := by rw [hw6]; exact HRD5.out.set hhig (fun e => HGR.out e.symm) _
 have HK6 : Hid (Own w.heap.size key (.slice kA key.length kc) w6) := by
  rw [hw6]; exact HK5.out.wall fun b hb => Below.heap_setCell _ _ _ _ (by have := HKG.out b hb; show b ≠ g; omega)
 have HR6 : Hid (w6.heap[w.heap.size]? = some (.cells #[.slice none 0 0, .int .i64 0, .int .i64 0, .slice none 0 0] 50 (0, 0))) := by
  rw [hw6]; exact (Below.heap_setCell _ _ _ _ (by have := HGE.out; show w.heap.size ≠ g; omega)).trans HR5.out
 have HIG := zHd hhig
 clear hw6 e0 e1 f1 HE5 HK5 HR5 HRD5 hhig
 refine (Number_out HRD6.out).mono ?_
 rintro x w7 ⟨kd, k4, l4, ho, rfl, hrd, hg⟩
 have HO4 := zHd ho
 have HRD7 := zHd hrd
 have HG7 : Hid (w.grownBy w7 (some r)) := HG6.out.trans hg
 have HE7 : Hid (w7.heap[g]? = some (.cells #[.slice kA key.length kc, .int .i64 (wrap64 (sq : Int)), .int .i64 0, .slice none 0 0] 50 (0, 0))) := (hg.block g (zAg.1 HE6.out).1 (fun e => by injection e with e; exact HGR.out e)).trans HE6.out
 have HK7 : Hid (Own w.heap.size key (.slice kA key.length kc) w7) := HK6.out.grown hg HRW.out
 have HR7 : Hid (w7.heap[w.heap.size]? = some (.cells #[.slice none 0 0, .int .i64 0, .int .i64 0, .slice none 0 0] 50 (0, 0))) := (hg.block _ (zAg.1 HR6.out).1 (fun e => by injection e with e; have := HRW.out; omega)).trans HR6.out
 clear ho hrd hg
 go_wp2_with fail
 refine (readNum_any _ _ _).mono ?_
 rintro x w7' ⟨⟨hk, rfl⟩ | ⟨hk, rfl⟩, hw1⟩
 rotate_left
 · subst hw1
   refine ⟨rfl, HG7.out, .inr ⟨rfl, fun e rest hs => hk ((((hs.one HB.out).2.two HO2.out).2.2.three HO3.out).2.2.four HO4.out).1⟩⟩
 subst hw1 hk
 obtain ⟨w8, hw8⟩ : ∃ w8, w8 = w7'.setCell ⟨g, 2, none⟩ (.int .i64 (wrap64 (kd : Int))) := ⟨_, rfl⟩
 have HE8 : Hid (w8.heap[g]? = some (.cells #[.slice kA key.length kc, .int .i64 (wrap64 (sq : Int)), .int .i64 (wrap64 (kd : Int)), .slice none 0 0] 50 (0, 0))) := by rw [hw8]; exact heap_setCell_same w7' g 2 _ _ _ HE7.out
 have HG8 : Hid (w.grownBy w8 (some r)) := by rw [hw8]; exact grown_new HG7.out (Nat.le_of_lt HGE.out)
 have HRD8 : Hid (Rd w8 r lo hi l4) := by rw [hw8]; exact HRD7.out.set HIG.out (fun e => HGR.out e.symm) _
 have HK8 : Hid (Own w.heap.size key (.slice kA key.length kc) w8) := by
  rw [hw8]; exact HK7.out.wall fun b hb => Below.heap_setCell _ _ _ _ (by have := HKG.out b hb; show b ≠ g; omega)
 have HR8 : Hid (w8.heap[w.heap.size]? = some (.cells #[.slice none 0 0, .int .i64 0, .int .i64 0, .slice none 0 0] 50 (0, 0))) := by
  rw [hw8]; exact (Below.heap_setCell _ _ _ _ (by have := HGE.out; show w.heap.size ≠ g; omega)).trans HR7.out
 have f2 := frozen_four (j := 2) HE7.out
 have e2 := cell_of HE7.out (k := 2) rfl
 have HW8 := zHd hw8
 clear hw8 HE7 HK7 HR7 HRD7
 have hlast : ∀ (x : Ent) (rest : List Nat), Stands ah l x rest → x.key = key ∧ x.seq = wrap64 (sq : Int) ∧ x.kind = wrap64 (kd : Int) ∧ Stands4 l4 x rest := fun x rest hs => by
  obtain ⟨_, h1⟩ := hs.one HB.out
  obtain ⟨_, h2, h3⟩ := h1.two HO2.out
  obtain ⟨_, h4, h5⟩ := h3.three HO3.out
  obtain ⟨_, h6, h7⟩ := h5.four HO4.out
  obtain ⟨b1, b2, b3, b4, b5⟩ := mayN_iff.1 hs.1
  refine ⟨by rw [HKEY.out]; exact h2, ?_, ?_, h7⟩
  · rw [wrap_small (by omega)]; exact h4
  · rw [wrap_small (by rcases b5 with ⟨b, _⟩ | ⟨b, _⟩ <;> omega)]; exact h6
 have HLAST := zHd hlast
 have HL4 : Hid (l4.length < l.length ∧ l4.length ≤ 1000000000000) := by have := HL.out; have := HO2.out.len.2.1; have := HO3.out.len.1; have := HO4.out.len.1; have := HL1.out; unfold Hid; omega
 obtain ⟨sv, hsv⟩ : ∃ sv, sv = wrap64 (sq : Int) := ⟨_, rfl⟩
 obtain ⟨kv, hkv⟩ : ∃ kv, kv = wrap64 (kd : Int) := ⟨_, rfl⟩
 have HSV : Hid (-9223372036854775808 ≤ sv ∧ sv ≤ 9223372036854775807) := by rw [hsv]; exact wrap_i sq
 have HKV : Hid (-9223372036854775808 ≤ kv ∧ kv ≤ 9223372036854775807) := by rw [hkv]; exact wrap_i kd
 rw [← hsv, ← hkv] at HE8 HLAST
 have HKVE := zHd hkv
 clear hlast hsv hkv
 have HSUB : Hid ((∀ y ∈ l1, y ∈ l) ∧ (∀ y ∈ l2, y ∈ l1) ∧ (∀ y ∈ l3, y ∈ l2) ∧ (∀ y ∈ l4, y ∈ l3)) := by
  refine ⟨fun y hy => ?_, fun y hy => ?_, fun y hy => ?_, fun y hy => ?_⟩
  · rw [HB.out.eq]; simp [hy]
  · rcases HO2.out with ⟨_, _, _, h⟩ | ⟨_, _, h, _⟩
    · rw [h]; simp [hy]
    · rw [h] at hy; exact hy
  · rcases HO3.out with ⟨_, h⟩ | ⟨_, _, h, _⟩
    · rw [h.eq]; simp [hy]
    · rw [h] at hy; exact hy
  · rcases HO4.out with ⟨_, h⟩ | ⟨_, _, h, _⟩
    · rw [h.eq]; simp [hy]
    · rw [h] at hy; exact hy
 go_upto_region 8 with (fail)
 rw [← HW8.out, ← HKVE.out]
 clear f2 e2
 by_cases hk1 : kv = 1
 · have dk : (kv == 1) = true := by rw [hk1]; rfl
   have e2 := cell_of HE8.out (k := 2) rfl
   have HK1 := zHd hk1
   clear hk1
   go_wp2_with fail
   refine (Bytes_own HRD8.out HL4.out.2 (by decide) (by decide)).mono ?_
   rintro x w9 ⟨vA, vc, vb, k5, l5, ho, hown, rfl, hrd, hg⟩
   have HO5 := zHd ho
   have HV9 := zHd hown
   have HRD9 := zHd hrd
   have HG9 : Hid (w.grownBy w9 (some r)) := HG8.out.trans hg
   have HE9 : Hid (w9.heap[g]? = some (.cells #[.slice kA key.length kc, .int .i64 sv, .int .i64 kv, .slice none 0 0] 50 (0, 0))) := (hg.block g (zAg.1 HE8.out).1 (fun e => by injection e with e; exact HGR.out e)).trans HE8.out
   have HK9 : Hid (Own w.heap.size key (.slice kA key.length kc) w9) := HK8.out.grown hg HRW.out
   have HR9 : Hid (w9.heap[w.heap.size]? = some (.cells #[.slice none 0 0, .int .i64 0, .int .i64 0, .slice none 0 0] 50 (0, 0))) := (hg.block _ (zAg.1 HR8.out).1 (fun e => by injection e with e; have := HRW.out; omega)).trans HR8.out
   have HVL : Hid (w8.heap.size ≤ w9.heap.size ∧ g < w8.heap.size) := ⟨hg.size, (zAg.1 HE8.out).1⟩
   clear ho hown hrd hg e2
   go_wp2_with fail
   refine (readBytes_any _ _ _ _ _).mono ?_
   rintro x w9' ⟨⟨hk, rfl⟩ | ⟨hk, rfl⟩, hw1⟩
   rotate_left
   · subst hw1
     refine ⟨rfl, HG9.out, .inr ⟨rfl, fun e rest hs => ?_⟩⟩
     obtain ⟨_, _, h3, h4⟩ := HLAST.out e rest hs
     exact hk (h4.put (h3.trans HK1.out) HO5.out).1
   subst hw1 hk
   obtain ⟨wa, hwa⟩ : ∃ wa, wa = w9'.setCell ⟨g, 3, none⟩ (.slice vA vb.length vc) := ⟨_, rfl⟩
   have HEa : Hid (wa.heap[g]? = some (.cells #[.slice kA key.length kc, .int .i64 sv, .int .i64 kv, .slice vA vb.length vc] 50 (0, 0))) := by rw [hwa]; exact heap_setCell_same w9' g 3 _ _ _ HE9.out
   have HGa : Hid (w.grownBy wa (some r)) := by rw [hwa]; exact grown_new HG9.out (Nat.le_of_lt HGE.out)
   have HRDa : Hid (Rd wa r lo hi l5) := by rw [hwa]; exact HRD9.out.set HIG.out (fun e => HGR.out e.symm) _
   have HKa : Hid (Own w.heap.size key (.slice kA key.length kc) wa) := by
    rw [hwa]; exact HK9.out.wall fun b hb => Below.heap_setCell _ _ _ _ (by have := HKG.out b hb; show b ≠ g; omega)
   have HVa : Hid (Own w8.heap.size vb (.slice vA vb.length vc) wa) := by
    rw [hwa]; exact HV9.out.wall fun b hb => Below.heap_setCell _ _ _ _ (by have := (row_lt HV9.out b hb).1; have := HVL.out.2; show b ≠ g; omega)
   have HRa : Hid (wa.heap[w.heap.size]? = some (.cells #[.slice none 0 0, .int .i64 0, .int .i64 0, .slice none 0 0] 50 (0, 0))) := by
    rw [hwa]; exact (Below.heap_setCell _ _ _ _ (by have := HGE.out; show w.heap.size ≠ g; omega)).trans HR9.out
   have c3 := cell_of HE9.out (k := 3) rfl
   have z3 := frozen_four (j := 3) HE9.out
   go_upto_region 10 with (fail)
   rw [← hwa]
   clear c3 z3 hwa HE9 HK9 HR9 HRD9 HE8 HK8 HR8 HRD8
   have e0 := cell_of HEa.out (k := 0) rfl
   have e1 := cell_of HEa.out (k := 1) rfl
   have e2 := cell_of HEa.out (k := 2) rfl
   have e3 := cell_of HEa.out (k := 3) rfl
   have c0 := cell_of HRa.out (k := 0) rfl
   have c1 := cell_of HRa.out (k := 1) rfl
   have c2 := cell_of HRa.out (k := 2) rfl
   have c3 := cell_of HRa.out (k := 3) rfl
   have z0 := frozen_four (j := 0) HRa.out
   have z1 := frozen_four (j := 1) HRa.out
   have z2 := frozen_four (j := 2) HRa.out
   have z3 := frozen_four (j := 3) HRa.out
   go_wp2_with fail
   refine entry_ret1 rfl rfl rfl (set_four HRa.out) ?_
   refine ⟨grown_new (grown_new (grown_new (grown_new HGa.out (zNr _)) (zNr _)) (zNr _)) (zNr _), .inl ⟨⟨key, sv, kv, vb⟩, ⟨kA, kc, vA, vc⟩, l5, rfl, ?_, ?_, HK32.out, ⟨?_, ?_, ⟨HKB.out, ?_, HSV.out.1, HSV.out.2, HKV.out.1, HKV.out.2⟩⟩, fun x rest hs => ?_⟩⟩
   · have hh := HTOP.out
     have hr : r ≠ w.heap.size := by have := HRW.out; omega
     exact (((HRDa.out.set hh hr _).set hh hr _).set hh hr _).set hh hr _
   · have := HO5.out.len.2.1; have := HL4.out.1; omega
   · exact HKa.out.four (by have := row_lt HK3.out; intro b hb; have := (this b hb).1; have := HG2.out.size; omega)
   · refine Own.four (HVa.out.base ?_) (fun b hb => ?_)
     · have := HVL.out.2; have := HGE.out; omega
     · have := (row_lt HVa.out b hb).1; have := HVL.out.2; have := HGE.out; omega
   · intro y hy
     have hs := HSUB.out
     exact HBYT.out y (hs.1 y (hs.2.1 y (hs.2.2.1 y (hs.2.2.2 y (HO5.out.len.2.2 y hy)))))
   · obtain ⟨h1, h2, h3, h4⟩ := HLAST.out x rest hs
     obtain ⟨_, h5, h6⟩ := h4.put (h3.trans HK1.out) HO5.out
     exact ⟨Ent.ext h1 h2 h3 h5, h6⟩
 · have dk : (kv == 1) = false := by simpa using hk1
   have HK1 := zHd hk1
   clear hk1
   have e0 := cell_of HE8.out (k := 0) rfl
   have e1 := cell_of HE8.out (k := 1) rfl
   have e2 := cell_of HE8.out (k := 2) rfl
   have e3 := cell_of HE8.out (k := 3) rfl
   have c0 := cell_of HR8.out (k := 0) rfl
   have c1 := cell_of HR8.out (k := 1) rfl
   have c2 := cell_of HR8.out (k := 2) rfl
   have c3 := cell_of HR8.out (k := 3) rfl
   have z0 := frozen_four (j := 0) HR8.out
   have z1 := frozen_four (j := 1) HR8.out
   have z2 := frozen_four (j := 2) HR8.out
   have z3 := frozen_four (j := 3) HR8.out
   go_wp2_with fail
   refine entry_ret1 rfl rfl rfl (set_four HR8.out) ?_
   refine ⟨grown_new (grown_new (grown_new (grown_new HG8.out (zNr _)) (zNr _)) (zNr _)) (zNr _), .inl ⟨⟨key, sv, kv, []⟩, ⟨kA, kc, none, 0⟩, l4, rfl, ?_, HL4.out.1, HK32.out, ⟨?_, Own.nil _ _, ⟨HKB.out, by simp, HSV.out.1, HSV.out.2, HKV.out.1, HKV.out.2⟩⟩, fun x rest hs => ?_⟩⟩
   · have hh := HTOP.out
     have hr : r ≠ w.heap.size := by have := HRW.out; omega
     exact (((HRD8.out.set hh hr _).set hh hr _).set hh hr _).set hh hr _
   · exact HK8.out.four (by have := row_lt HK3.out; intro b hb; have := (this b hb).1; have := HG2.out.size; omega)
   · obtain ⟨h1, h2, h3, h4⟩ := HLAST.out x rest hs
     obtain ⟨h5, h6⟩ := h4.del (by rw [h3]; exact HK1.out)
     exact ⟨Ent.ext h1 h2 h3 h5, h6⟩
end Go.Proofs.YtkdidghfcfcpfaaGreat
