import Derived.Test.YthhgjeeangepaaaGreatMv12
import Derived.Test.YthhgjeeangepaaaGreatMv7
import Derived.BigRegion
import Derived.Test.YthhgjeeangepaaaGreatMv0
namespace Go.Proofs.YthhgjeeangepaaaGreat
open Go.ChangeShapes Go.WideShapes Go.ChangeAt Go.RowKit
def lastE (p : Pl) : Ent := ⟨p.key, (p.n : Int), 0, []⟩
def lastH (g : PHd) : Hd := ⟨g.1, g.2, none, 0⟩
theorem last_em {w : World} {lo hi : Nat} {p : Pl × PHd} (h : PEm w lo hi p) (hb : ∀ x ∈ p.1.key, x < 256) (hn : p.1.n ≤ 2147483647) : Em w lo hi (lastE p.1) (lastH p.2) :=
  ⟨h, Bs.nil _ _ _, hb, fun x hx => (by cases hx), by show _ ≤ (p.1.n : Int); omega, by show (p.1.n : Int) ≤ _; omega, by show _ ≤ (0 : Int); omega, by show (0 : Int) ≤ _; omega⟩
theorem enters_first1 : ∀ args w, (callFunc 101 args).run Tryz.prog w = .ok (.enter 101 args) w := enters_of Tryz.func101 (by kernel_rfl) rfl
set_option maxHeartbeats 1000000 in
theorem tfirst1_any {w : World} {lo hi lo2 hi2 : Nat} {p : Pl × PHd} {x : Ent} {g : Hd} (h : PEm w lo hi p) (hb : ∀ x ∈ p.1.key, x < 256) (hn : p.1.n ≤ 2147483647) (hhi : hi ≤ w.heap.size) (hx : Em w lo2 hi2 x g) (hhi2 : hi2 ≤ w.heap.size) :
    Calls Tryz.prog 101 #[.agg #[.slice p.2.1 p.1.key.length p.2.2, .int .i64 (p.1.n : Int), .int .i64 0, .slice none 0 0, .int .i64 (p.1.b : Int), .int .i64 (p.1.z : Int)], .agg #[.slice g.kA x.key.length g.kc, .int .i64 x.seq, .int .i64 x.kind, .slice g.vA x.val.length g.vc]] w fun y w' => y = .returned (.int .i64 (cmpE (lastE p.1) x)) ∧ Ext w w' := by
  obtain ⟨w1, hw1⟩ : ∃ w1, w1 = (w.alloc (.cells #[.slice p.2.1 p.1.key.length p.2.2, .int .i64 (p.1.n : Int), .int .i64 0, .slice none 0 0, .int .i64 (p.1.b : Int), .int .i64 (p.1.z : Int)] 108)).alloc (.cells #[.slice g.kA x.key.length g.kc, .int .i64 x.seq, .int .i64 x.kind, .slice g.vA x.val.length g.vc] 55) := ⟨_, rfl⟩
  have HX1 : Hid (Ext w w1) := by rw [hw1]; exact Ext.trans (ext_alloc _ _) (ext_alloc _ _)
  have HB1 : Hid (w1.heap[w.heap.size]? = some (.cells #[.slice p.2.1 p.1.key.length p.2.2, .int .i64 (p.1.n : Int), .int .i64 0, .slice none 0 0, .int .i64 (p.1.b : Int), .int .i64 (p.1.z : Int)] 108 (0, 0))) := by rw [hw1]; exact ext_heap (ext_alloc _ _) (heap_at _ _ rfl)
  have HB2 : Hid (w1.heap[w.heap.size + 1]? = some (.cells #[.slice g.kA x.key.length g.kc, .int .i64 x.seq, .int .i64 x.kind, .slice g.vA x.val.length g.vc] 55 (0, 0))) := by rw [hw1]; exact heap_at _ _ (by simp)
  have HC := Lib.hid (compare_any ((last_em h hb hn).below HX1.out hhi) (hx.below HX1.out hhi2) (Nat.le_trans hhi HX1.out.size) (Nat.le_trans hhi2 HX1.out.size))
  have c0 := cell_of HB1.out (k := 0) rfl
  have c1 := cell_of HB1.out (k := 1) rfl
  have c2 := cell_of HB1.out (k := 2) rfl
  have c3 := cell_of HB1.out (k := 3) rfl
  have e0 := cell_of HB2.out (k := 0) rfl
  have e1 := cell_of HB2.out (k := 1) rfl
  have e2 := cell_of HB2.out (k := 2) rfl
  have e3 := cell_of HB2.out (k := 3) rfl
  obtain ⟨z, hz⟩ : ∃ z, z = cmpE (lastE p.1) x := ⟨_, rfl⟩
  rw [← hz] at HC ⊢
  unfold Ent.at_ at HC
  have HC2 : Hid (Calls Tryz.prog 102 #[.agg #[.slice p.2.1 p.1.key.length p.2.2, .int .i64 (p.1.n : Int), .int .i64 0, .slice none 0 0], .agg #[.slice g.kA x.key.length g.kc, .int .i64 x.seq, .int .i64 x.kind, .slice g.vA x.val.length g.vc]] w1 fun e w' => e = .returned (.int .i64 z) ∧ Ext w1 w') := HC.out
  clear HC hz h hb hn hhi hx hhi2
  go_enter Tryz.func101, Tryz.ntmps101
  go_upto_region 1 with (fail)
  rw [← hw1]
  clear hw1
  go_wp2_with fail
  refine HC2.out.mono ?_
  rintro y w2 ⟨rfl, hx2⟩
  have HX2 := Lib.hid (Ext.trans HX1.out hx2)
  clear hx2
  go_wp2_with fail
  go_ret
  exact ⟨rfl, HX2.out⟩
set_option maxRecDepth 100000 in
set_option maxHeartbeats 8000000 in
theorem search_any {w : World} {lo hi lo2 hi2 c : Nat} {A : Option Addr} {L : List (Pl × PHd)} {x : Ent} {g : Hd} (h : Ps w lo hi A L) (hhi : hi ≤ w.heap.size) (hn : L.length ≤ 4096) (hr : Rise (L.map fun p => lastE p.1)) (hg : ∀ p ∈ L, (∀ y ∈ p.1.key, y < 256) ∧ p.1.n ≤ 2147483647) (hx : Em w lo2 hi2 x g) (hhi2 : hi2 ≤ w.heap.size) :
    Calls Tryz.prog 100 #[.slice A L.length c, .agg #[.slice g.kA x.key.length g.kc, .int .i64 x.seq, .int .i64 x.kind, .slice g.vA x.val.length g.vc], .func (.func 101) #[] #[]] w fun e w' => ∃ (n : Nat) (y : Bool), Cut (L.map fun p => lastE p.1) x n ∧ e = .returned (.tuple #[.int .i64 (n : Int), .bool y]) ∧ Ext w w' := by
  obtain ⟨w1, hw1⟩ : ∃ w1, w1 = w.alloc (.cells #[.slice g.kA x.key.length g.kc, .int .i64 x.seq, .int .i64 x.kind, .slice g.vA x.val.length g.vc] 55) := ⟨_, rfl⟩
  have HX1 : Hid (Ext w w1) := by rw [hw1]; exact ext_alloc _ _
  have HB1 : Hid (w1.heap[w.heap.size]? = some (.cells #[.slice g.kA x.key.length g.kc, .int .i64 x.seq, .int .i64 x.kind, .slice g.vA x.val.length g.vc] 55 (0, 0))) := by rw [hw1]; exact heap_at _ _ rfl
  have HE := Lib.hid (h.below HX1.out hhi)
  have HM := Lib.hid (hx.below HX1.out hhi2)
  have HH : Hid (hi ≤ w1.heap.size ∧ hi2 ≤ w1.heap.size) := ⟨Nat.le_trans hhi HX1.out.size, Nat.le_trans hhi2 HX1.out.size⟩
  have HR := Lib.hid hr
  have HN := Lib.hid hn
  have HG := Lib.hid hg
  have hen := enters_first1
  clear h hhi hn hr hx hhi2 hg
  go_enter Tryz.func100, Tryz.ntmps100
  go_upto_region 1 with (fail)
  rw [← hw1]
  clear hw1
  go_wp2_with fail
  go_loopw [9, 10, 11] (fun a b _ wr => ∃ l k : Nat, l ≤ k ∧ k ≤ L.length ∧ a = .int .i64 (l : Int) ∧ b = .int .i64 (k : Int) ∧ Hid (∀ j y, j < l → (L.map fun p => lastE p.1)[j]? = some y → cmpE y x < 0) ∧ Hid (∀ j y, k ≤ j → (L.map fun p => lastE p.1)[j]? = some y → 0 ≤ cmpE y x) ∧ Hid (Ext w1 wr))
    (fun a b _ _ => (intOf b).toNat - (intOf a).toNat)
  case atStart => exact ⟨0, L.length, Nat.zero_le _, Nat.le_refl _, rfl, rfl, fun j y h => absurd h (Nat.not_lt_zero _), fun j y h hy => by have := (List.getElem?_eq_some_iff.1 hy).1; rw [List.length_map] at this; omega, Ext.refl _⟩
  case round =>
    obtain ⟨l, k, hlk, hkn, rfl, rfl, HLO, HHI, HX⟩ := hrel
    by_cases hlt : l < k
    · have d : decide ((l : Int) < (k : Int)) = true := by rw [decide_eq_true_eq]; exact Int.ofNat_lt.2 hlt
      have dn : decide (l < k) = true := by rw [decide_eq_true_eq]; exact hlt
      obtain ⟨m, hm⟩ : ∃ m, m = (l + k) / 2 := ⟨_, rfl⟩
      have HMM : Hid (l ≤ m ∧ m < k ∧ k ≤ L.length ∧ L.length ≤ 4096) := by have := HN.out; unfold Hid; omega
      have hs1 := wrap_sum (l := l) (h := k) (by have := HN.out; omega)
      have hm2 : wrap64 (IntKind.u64.wrap ((l : Int) + (k : Int)) / 2) = (m : Int) := by
        have e : IntKind.u64.wrap ((l : Int) + (k : Int)) = ((l + k : Nat) : Int) := by rw [IntKind.wrap_u64]; have := HMM.out; omega
        have := HMM.out
        rw [e, hm]; unfold wrap64; omega
      have hml : m < L.length := by have := HMM.out; omega
      obtain ⟨p, hp⟩ : ∃ p, L[m]? = some p := ⟨_, List.getElem?_eq_getElem hml⟩
      have HP := Lib.hid hp
      obtain ⟨bb, oo, rfl⟩ := HE.out.base (by omega)
      have HEr := Lib.hid (HE.out.below HX.out HH.out.1)
      obtain ⟨c0, c1, c2, c3, c4, c5⟩ := HEr.out.get hp
      have HBr : Hid (wr.heap[w.heap.size]? = some (.cells #[.slice g.kA x.key.length g.kc, .int .i64 x.seq, .int .i64 x.kind, .slice g.vA x.val.length g.vc] 55 (0, 0))) := ext_heap HX.out HB1.out
      have e0 := cell_of HBr.out (k := 0) rfl
      have e1 := cell_of HBr.out (k := 1) rfl
      have e2 := cell_of HBr.out (k := 2) rfl
      have e3 := cell_of HBr.out (k := 3) rfl
      have n1 : (0 : Int) ≤ (m : Int) := Int.natCast_nonneg _
      have n2 : (m : Int) < (L.length : Int) := Int.ofNat_lt.2 hml
      have HCK : Hid (∀ u, Ext wr u → Calls Tryz.prog 101 #[.agg #[.slice p.2.1 p.1.key.length p.2.2, .int .i64 (p.1.n : Int), .int .i64 0, .slice none 0 0, .int .i64 (p.1.b : Int), .int .i64 (p.1.z : Int)], .agg #[.slice g.kA x.key.length g.kc, .int .i64 x.seq, .int .i64 x.kind, .slice g.vA x.val.length g.vc]] u fun y w' => y = .returned (.int .i64 (cmpE (lastE p.1) x)) ∧ Ext u w') := fun u hu => by
        have hz := HX.out.size
        have hgp := HG.out p (List.mem_of_getElem? HP.out)
        exact tfirst1_any ((HEr.out.each p (List.mem_of_getElem? HP.out)).below hu (Nat.le_trans HH.out.1 hz)) hgp.1 hgp.2 (Nat.le_trans HH.out.1 (Nat.le_trans hz hu.size)) (HM.out.below (Ext.trans HX.out hu) HH.out.2) (Nat.le_trans HH.out.2 (Nat.le_trans hz hu.size))
      obtain ⟨z, hz⟩ : ∃ z, z = cmpE (lastE p.1) x := ⟨_, rfl⟩
      have HZ := Lib.hid hz
      rw [← hz] at HCK
      have HPM : Hid ((L.map fun p => lastE p.1)[m]? = some (lastE p.1)) := by rw [List.getElem?_map, HP.out]; exact rfl
      clear hlt hp hml hm hlk hkn hz
      by_cases hneg : z < 0
      · have dz : decide (z < 0) = true := decide_eq_true hneg
        have HNG := Lib.hid hneg
        clear hneg
        go_upto_region 5 with (fail)
        rw [hm2]
        refine flow (by kernel_rfl) [Is (.func (.func 101) #[] #[]), Is (.slice (some ⟨bb, oo, none⟩) L.length c), Is (.int .i64 (m : Int)), Is (.pointer (some ⟨bb, oo + m * 6, none⟩)), Is (.agg #[.slice p.2.1 p.1.key.length p.2.2, .int .i64 (p.1.n : Int), .int .i64 0, .slice none 0 0, .int .i64 (p.1.b : Int), .int .i64 (p.1.z : Int)]), Is (.agg #[.slice g.kA x.key.length g.kc, .int .i64 x.seq, .int .i64 x.kind, .slice g.vA x.val.length g.vc]), Is (.int .i64 z), Is (.bool true)] (by kernel_rfl) (by kernel_rfl) ?mono (fun f1 => ?obl) ?fin
        case mono =>
          simp only [List.forall_mem_cons, List.not_mem_nil, false_imp_iff, implies_true, and_true]
          exact ⟨.is _, .is _, .is _, .is _, .is _, .is _, .is _, .is _⟩
        case fin =>
          intro g1 u hu hg
          simp only [puts, Act.put, zq1, zq2, zq3]
          have hxu := Ext.trans (Ext.drew wr) hu
          have HXU : Hid (Ext w1 u) := Ext.trans HX.out hxu
          have e7 : g1 7 = .bool true := hg 7 (by decide)
          rw [e7]
          clear hxu hu hg e7 hs1 hm2 e0 e1 e2 e3 c0 c1 c2 c3 c4 c5
          go_wp2_with fail
          go_roundw
          case rel =>
            have hmm := HMM.out
            refine ⟨m + 1, k, by omega, by omega, ?_, rfl, ?_, HHI, HXU⟩
            · rw [wrap_succ (by omega)]
            · exact cut_lo HR.out HPM.out (by rw [← HZ.out]; exact HNG.out)
          case measure =>
            have hmm := HMM.out
            rw [wrap_succ (by omega)]
            simp [intOf]; omega
        case obl =>
          refine ⟨fun u hu hd => ?_, ?_⟩
          · go_simp
            exact ⟨Ext.refl _, rfl⟩
          refine ⟨fun u hu hd => ?_, ?_⟩
          · simp only [Act.put, zq1, zq2, zq3]
            go_simp
            exact ⟨Ext.refl _, rfl⟩
          refine ⟨fun u hu hd => ?_, ?_⟩
          · simp only [Act.put, zq1, zq2, zq3]
            go_simp
            exact ⟨Ext.refl _, rfl⟩
          refine ⟨fun u hu hd => ?_, ?_⟩
          · simp only [Act.put, zq1, zq2, zq3]
            have e1 : f1 1 = .slice (some ⟨bb, oo, none⟩) L.length c := hd 1 (by kernel_rfl)
            have e2 : f1 2 = .int .i64 (m : Int) := hd 2 (by kernel_rfl)
            go_simp
            exact ⟨Ext.refl _, rfl⟩
          refine ⟨fun u hu hd => ?_, ?_⟩
          · simp only [Act.put, zq1, zq2, zq3]
            have e3 : f1 3 = .pointer (some ⟨bb, oo + m * 6, none⟩) := hd 3 (by kernel_rfl)
            have hu2 := Ext.trans (Ext.drew wr) hu
            have q0 := ext_cell hu2 c0
            have q1 := ext_cell hu2 c1
            have q2 := ext_cell hu2 c2
            have q3 := ext_cell hu2 c3
            have q4 := ext_cell hu2 c4
            have q5 := ext_cell hu2 c5
            go_simp
            exact ⟨Ext.refl _, rfl⟩
          refine ⟨fun u hu hd => ?_, ?_⟩
          · simp only [Act.put, zq1, zq2, zq3]
            have hu2 := Ext.trans (Ext.drew wr) hu
            have q0 := ext_cell hu2 e0
            have q1 := ext_cell hu2 e1
            have q2 := ext_cell hu2 e2
            have q3 := ext_cell hu2 e3
            go_simp
            exact ⟨Ext.refl _, rfl⟩
          refine ⟨fun u hu hd => ?_, ?_⟩
          · simp only [Act.put, zq1, zq2, zq3]
            have e0 : f1 0 = .func (.func 101) #[] #[] := hd 0 (by kernel_rfl)
            have e4 : f1 4 = .agg #[.slice p.2.1 p.1.key.length p.2.2, .int .i64 (p.1.n : Int), .int .i64 0, .slice none 0 0, .int .i64 (p.1.b : Int), .int .i64 (p.1.z : Int)] := hd 4 (by kernel_rfl)
            have e5 : f1 5 = .agg #[.slice g.kA x.key.length g.kc, .int .i64 x.seq, .int .i64 x.kind, .slice g.vA x.val.length g.vc] := hd 5 (by kernel_rfl)
            have hu2 := Ext.trans (Ext.drew wr) hu
            go_simp
            refine (HCK.out _ hu2).mono ?_
            rintro y w9 ⟨rfl, hx9⟩
            exact ⟨_, rfl, hx9, rfl⟩
          refine ⟨fun u hu hd => ?_, ?_⟩
          · simp only [Act.put, zq1, zq2, zq3]
            have e6 : f1 6 = .int .i64 z := hd 6 (by kernel_rfl)
            go_simp
            exact ⟨Ext.refl _, rfl⟩
          trivial
      · have dz : decide (z < 0) = false := decide_eq_false hneg
        have HNG := Lib.hid hneg
        clear hneg
        go_upto_region 5 with (fail)
        rw [hm2]
        refine flow (by kernel_rfl) [Is (.func (.func 101) #[] #[]), Is (.slice (some ⟨bb, oo, none⟩) L.length c), Is (.int .i64 (m : Int)), Is (.pointer (some ⟨bb, oo + m * 6, none⟩)), Is (.agg #[.slice p.2.1 p.1.key.length p.2.2, .int .i64 (p.1.n : Int), .int .i64 0, .slice none 0 0, .int .i64 (p.1.b : Int), .int .i64 (p.1.z : Int)]), Is (.agg #[.slice g.kA x.key.length g.kc, .int .i64 x.seq, .int .i64 x.kind, .slice g.vA x.val.length g.vc]), Is (.int .i64 z), Is (.bool false)] (by kernel_rfl) (by kernel_rfl) ?mono (fun f1 => ?obl) ?fin
        case mono =>
          simp only [List.forall_mem_cons, List.not_mem_nil, false_imp_iff, implies_true, and_true]
          exact ⟨.is _, .is _, .is _, .is _, .is _, .is _, .is _, .is _⟩
        case fin =>
          intro g1 u hu hg
          simp only [puts, Act.put, zq1, zq2, zq3]
          have hxu := Ext.trans (Ext.drew wr) hu
          have HXU : Hid (Ext w1 u) := Ext.trans HX.out hxu
          have e7 : g1 7 = .bool false := hg 7 (by decide)
          rw [e7]
          clear hxu hu hg e7 hs1 hm2 e0 e1 e2 e3 c0 c1 c2 c3 c4 c5
          go_wp2_with fail
          go_roundw
          case rel =>
            have hmm := HMM.out
            refine ⟨l, m, by omega, by omega, rfl, rfl, HLO, ?_, HXU⟩
            exact cut_hi HR.out HPM.out (by rw [← HZ.out]; have := HNG.out; omega)
          case measure =>
            have hmm := HMM.out
            simp [intOf]; omega
        case obl =>
          refine ⟨fun u hu hd => ?_, ?_⟩
          · go_simp
            exact ⟨Ext.refl _, rfl⟩
          refine ⟨fun u hu hd => ?_, ?_⟩
          · simp only [Act.put, zq1, zq2, zq3]
            go_simp
            exact ⟨Ext.refl _, rfl⟩
          refine ⟨fun u hu hd => ?_, ?_⟩
          · simp only [Act.put, zq1, zq2, zq3]
            go_simp
            exact ⟨Ext.refl _, rfl⟩
          refine ⟨fun u hu hd => ?_, ?_⟩
          · simp only [Act.put, zq1, zq2, zq3]
            have e1 : f1 1 = .slice (some ⟨bb, oo, none⟩) L.length c := hd 1 (by kernel_rfl)
            have e2 : f1 2 = .int .i64 (m : Int) := hd 2 (by kernel_rfl)
            go_simp
            exact ⟨Ext.refl _, rfl⟩
          refine ⟨fun u hu hd => ?_, ?_⟩
          · simp only [Act.put, zq1, zq2, zq3]
            have e3 : f1 3 = .pointer (some ⟨bb, oo + m * 6, none⟩) := hd 3 (by kernel_rfl)
            have hu2 := Ext.trans (Ext.drew wr) hu
            have q0 := ext_cell hu2 c0
            have q1 := ext_cell hu2 c1
            have q2 := ext_cell hu2 c2
            have q3 := ext_cell hu2 c3
            have q4 := ext_cell hu2 c4
            have q5 := ext_cell hu2 c5
            go_simp
            exact ⟨Ext.refl _, rfl⟩
          refine ⟨fun u hu hd => ?_, ?_⟩
          · simp only [Act.put, zq1, zq2, zq3]
            have hu2 := Ext.trans (Ext.drew wr) hu
            have q0 := ext_cell hu2 e0
            have q1 := ext_cell hu2 e1
            have q2 := ext_cell hu2 e2
            have q3 := ext_cell hu2 e3
            go_simp
            exact ⟨Ext.refl _, rfl⟩
          refine ⟨fun u hu hd => ?_, ?_⟩
          · simp only [Act.put, zq1, zq2, zq3]
            have e0 : f1 0 = .func (.func 101) #[] #[] := hd 0 (by kernel_rfl)
            have e4 : f1 4 = .agg #[.slice p.2.1 p.1.key.length p.2.2, .int .i64 (p.1.n : Int), .int .i64 0, .slice none 0 0, .int .i64 (p.1.b : Int), .int .i64 (p.1.z : Int)] := hd 4 (by kernel_rfl)
            have e5 : f1 5 = .agg #[.slice g.kA x.key.length g.kc, .int .i64 x.seq, .int .i64 x.kind, .slice g.vA x.val.length g.vc] := hd 5 (by kernel_rfl)
            have hu2 := Ext.trans (Ext.drew wr) hu
            go_simp
            refine (HCK.out _ hu2).mono ?_
            rintro y w9 ⟨rfl, hx9⟩
            exact ⟨_, rfl, hx9, rfl⟩
          refine ⟨fun u hu hd => ?_, ?_⟩
          · simp only [Act.put, zq1, zq2, zq3]
            have e6 : f1 6 = .int .i64 z := hd 6 (by kernel_rfl)
            go_simp
            exact ⟨Ext.refl _, rfl⟩
          trivial
    · have d : decide ((l : Int) < (k : Int)) = false := by rw [decide_eq_false_iff_not]; exact fun h => hlt (Int.ofNat_lt.1 h)
      have dn : decide (l < k) = false := by rw [decide_eq_false_iff_not]; exact hlt
      have HLK : Hid (l = k ∧ k ≤ L.length) := ⟨by omega, hkn⟩
      clear hlt hlk hkn
      have HFIN : Hid (Cut (L.map fun p => lastE p.1) x l) := ⟨by rw [List.length_map]; have := HLK.out; omega, HLO.out, by rw [HLK.out.1]; exact HHI.out⟩
      by_cases hin : l < L.length
      · have d8 : decide ((l : Int) < (L.length : Int)) = true := by rw [decide_eq_true_eq]; omega
        have d8n : decide (l < L.length) = true := by rw [decide_eq_true_eq]; exact hin
        obtain ⟨p, hp⟩ : ∃ p, L[l]? = some p := ⟨_, List.getElem?_eq_getElem hin⟩
        have HP := Lib.hid hp
        obtain ⟨bb, oo, rfl⟩ := HE.out.base (by omega)
        have HEr := Lib.hid (HE.out.below HX.out HH.out.1)
        obtain ⟨c0, c1, c2, c3, c4, c5⟩ := HEr.out.get hp
        have HBr : Hid (wr.heap[w.heap.size]? = some (.cells #[.slice g.kA x.key.length g.kc, .int .i64 x.seq, .int .i64 x.kind, .slice g.vA x.val.length g.vc] 55 (0, 0))) := ext_heap HX.out HB1.out
        have e0 := cell_of HBr.out (k := 0) rfl
        have e1 := cell_of HBr.out (k := 1) rfl
        have e2 := cell_of HBr.out (k := 2) rfl
        have e3 := cell_of HBr.out (k := 3) rfl
        have n1 : (0 : Int) ≤ (l : Int) := Int.natCast_nonneg _
        have n2 : (l : Int) < (L.length : Int) := Int.ofNat_lt.2 hin
        have HCK : Hid (∀ u, Ext wr u → Calls Tryz.prog 101 #[.agg #[.slice p.2.1 p.1.key.length p.2.2, .int .i64 (p.1.n : Int), .int .i64 0, .slice none 0 0, .int .i64 (p.1.b : Int), .int .i64 (p.1.z : Int)], .agg #[.slice g.kA x.key.length g.kc, .int .i64 x.seq, .int .i64 x.kind, .slice g.vA x.val.length g.vc]] u fun y w' => y = .returned (.int .i64 (cmpE (lastE p.1) x)) ∧ Ext u w') := fun u hu => by
          have hz := HX.out.size
          have hgp := HG.out p (List.mem_of_getElem? HP.out)
          exact tfirst1_any ((HEr.out.each p (List.mem_of_getElem? HP.out)).below hu (Nat.le_trans HH.out.1 hz)) hgp.1 hgp.2 (Nat.le_trans HH.out.1 (Nat.le_trans hz hu.size)) (HM.out.below (Ext.trans HX.out hu) HH.out.2) (Nat.le_trans HH.out.2 (Nat.le_trans hz hu.size))
        obtain ⟨z, hz⟩ : ∃ z, z = cmpE (lastE p.1) x := ⟨_, rfl⟩
        rw [← hz] at HCK
        obtain ⟨y, hy⟩ : ∃ y, y = (z == 0) := ⟨_, rfl⟩
        have hy2 := hy.symm
        clear hp hin hz hy
        go_upto_region 8 with (fail)
        refine flow (by kernel_rfl) [Is (.int .i64 (l : Int)), Is (.int .i64 (l : Int)), Is (.int .i64 (L.length : Int)), Is (.bool true), Is (.bool true), Is (.func (.func 101) #[] #[]), Is (.slice (some ⟨bb, oo, none⟩) L.length c), Is (.int .i64 (l : Int)), Is (.pointer (some ⟨bb, oo + l * 6, none⟩)), Is (.agg #[.slice p.2.1 p.1.key.length p.2.2, .int .i64 (p.1.n : Int), .int .i64 0, .slice none 0 0, .int .i64 (p.1.b : Int), .int .i64 (p.1.z : Int)]), Is (.agg #[.slice g.kA x.key.length g.kc, .int .i64 x.seq, .int .i64 x.kind, .slice g.vA x.val.length g.vc]), Is (.int .i64 z), Is (.bool y), Is (.bool y), Is (.int .i64 (l : Int)), Is (.bool y)] (by kernel_rfl) (by kernel_rfl) ?mono (fun f1 => ?obl) ?fin
        case mono =>
          simp only [List.forall_mem_cons, List.not_mem_nil, false_imp_iff, implies_true, and_true]
          exact ⟨.is _, .is _, .is _, .is _, .is _, .is _, .is _, .is _, .is _, .is _, .is _, .is _, .is _, .is _, .is _, .is _⟩
        case fin =>
          intro g1 u hu hg
          simp only [puts, Act.put, zq1, zq2, zq3]
          have hxu := Ext.trans (Ext.drew wr) hu
          have HXU : Hid (Ext w u) := Ext.trans HX1.out (Ext.trans HX.out hxu)
          have e14 : g1 14 = .int .i64 (l : Int) := hg 14 (by decide)
          have e15 : g1 15 = .bool y := hg 15 (by decide)
          rw [e14, e15]
          clear hxu hu hg e14 e15 e0 e1 e2 e3 c0 c1 c2 c3 c4 c5 hy2
          go_wp2_with fail
          go_ret2
          exact ⟨l, y, HFIN.out, rfl, HXU.out⟩
        case obl =>
          refine ⟨fun u hu hd => ?_, ?_⟩
          · go_simp
            exact ⟨Ext.refl _, rfl⟩
          refine ⟨fun u hu hd => ?_, ?_⟩
          · simp only [Act.put, zq1, zq2, zq3]
            go_simp
            exact ⟨Ext.refl _, rfl⟩
          refine ⟨fun u hu hd => ?_, ?_⟩
          · simp only [Act.put, zq1, zq2, zq3]
            go_simp
            exact ⟨Ext.refl _, rfl⟩
          refine ⟨fun u hu hd => ?_, ?_⟩
          · simp only [Act.put, zq1, zq2, zq3]
            have e1 : f1 1 = .int .i64 (l : Int) := hd 1 (by kernel_rfl)
            have e2 : f1 2 = .int .i64 (L.length : Int) := hd 2 (by kernel_rfl)
            go_simp
            exact ⟨Ext.refl _, rfl⟩
          refine ⟨fun u hu hd => ?_, ?_⟩
          · simp only [Act.put, zq1, zq2, zq3]
            have e3 : f1 3 = .bool true := hd 3 (by kernel_rfl)
            go_simp
            exact ⟨Ext.refl _, rfl⟩
          refine ⟨fun u hu hd => ?_, ?_⟩
          · simp only [Act.put, zq1, zq2, zq3]
            have e4 : f1 4 = .bool true := hd 4 (by kernel_rfl)
            go_simp
            exact ⟨Ext.refl _, rfl⟩
          refine ⟨fun u hu hd => ?_, ?_⟩
          · simp only [Act.put, zq1, zq2, zq3]
            have e4 : f1 4 = .bool true := hd 4 (by kernel_rfl)
            go_simp
            exact ⟨Ext.refl _, rfl⟩
          refine ⟨fun u hu hd => ?_, ?_⟩
          · simp only [Act.put, zq1, zq2, zq3]
            have e4 : f1 4 = .bool true := hd 4 (by kernel_rfl)
            go_simp
            exact ⟨Ext.refl _, rfl⟩
          refine ⟨fun u hu hd => ?_, ?_⟩
          · simp only [Act.put, zq1, zq2, zq3]
            have e4 : f1 4 = .bool true := hd 4 (by kernel_rfl)
            have e6 : f1 6 = .slice (some ⟨bb, oo, none⟩) L.length c := hd 6 (by kernel_rfl)
            have e7 : f1 7 = .int .i64 (l : Int) := hd 7 (by kernel_rfl)
            go_simp
            exact ⟨Ext.refl _, rfl⟩
          refine ⟨fun u hu hd => ?_, ?_⟩
          · simp only [Act.put, zq1, zq2, zq3]
            have e4 : f1 4 = .bool true := hd 4 (by kernel_rfl)
            have e8 : f1 8 = .pointer (some ⟨bb, oo + l * 6, none⟩) := hd 8 (by kernel_rfl)
            have hu2 := Ext.trans (Ext.drew wr) hu
            have q0 := ext_cell hu2 c0
            have q1 := ext_cell hu2 c1
            have q2 := ext_cell hu2 c2
            have q3 := ext_cell hu2 c3
            have q4 := ext_cell hu2 c4
            have q5 := ext_cell hu2 c5
            go_simp
            exact ⟨Ext.refl _, rfl⟩
          refine ⟨fun u hu hd => ?_, ?_⟩
          · simp only [Act.put, zq1, zq2, zq3]
            have e4 : f1 4 = .bool true := hd 4 (by kernel_rfl)
            have hu2 := Ext.trans (Ext.drew wr) hu
            have q0 := ext_cell hu2 e0
            have q1 := ext_cell hu2 e1
            have q2 := ext_cell hu2 e2
            have q3 := ext_cell hu2 e3
            go_simp
            exact ⟨Ext.refl _, rfl⟩
          refine ⟨fun u hu hd => ?_, ?_⟩
          · simp only [Act.put, zq1, zq2, zq3]
            have e4 : f1 4 = .bool true := hd 4 (by kernel_rfl)
            have e5 : f1 5 = .func (.func 101) #[] #[] := hd 5 (by kernel_rfl)
            have e9 : f1 9 = .agg #[.slice p.2.1 p.1.key.length p.2.2, .int .i64 (p.1.n : Int), .int .i64 0, .slice none 0 0, .int .i64 (p.1.b : Int), .int .i64 (p.1.z : Int)] := hd 9 (by kernel_rfl)
            have e10 : f1 10 = .agg #[.slice g.kA x.key.length g.kc, .int .i64 x.seq, .int .i64 x.kind, .slice g.vA x.val.length g.vc] := hd 10 (by kernel_rfl)
            have hu2 := Ext.trans (Ext.drew wr) hu
            go_simp
            refine (HCK.out _ hu2).mono ?_
            rintro y w9 ⟨rfl, hx9⟩
            exact ⟨_, rfl, hx9, rfl⟩
          refine ⟨fun u hu hd => ?_, ?_⟩
          · simp only [Act.put, zq1, zq2, zq3]
            have e4 : f1 4 = .bool true := hd 4 (by kernel_rfl)
            have e11 : f1 11 = .int .i64 z := hd 11 (by kernel_rfl)
            go_simp
            exact ⟨Ext.refl _, rfl⟩
          refine ⟨fun u hu hd => ?_, ?_⟩
          · simp only [Act.put, zq1, zq2, zq3]
            have e4 : f1 4 = .bool true := hd 4 (by kernel_rfl)
            have e12 : f1 12 = .bool y := hd 12 (by kernel_rfl)
            go_simp
            exact ⟨Ext.refl _, rfl⟩
          refine ⟨fun u hu hd => ?_, ?_⟩
          · simp only [Act.put, zq1, zq2, zq3]
            have e0 : f1 0 = .int .i64 (l : Int) := hd 0 (by kernel_rfl)
            go_simp
            exact ⟨Ext.refl _, rfl⟩
          refine ⟨fun u hu hd => ?_, ?_⟩
          · simp only [Act.put, zq1, zq2, zq3]
            have e13 : f1 13 = .bool y := hd 13 (by kernel_rfl)
            go_simp
            exact ⟨Ext.refl _, rfl⟩
          trivial
      · have d8 : decide ((l : Int) < (L.length : Int)) = false := by rw [decide_eq_false_iff_not]; omega
        have d8n : decide (l < L.length) = false := by rw [decide_eq_false_iff_not]; exact hin
        clear hin
        go_upto_region 8 with (fail)
        refine flow (by kernel_rfl) [Is (.int .i64 (l : Int)), Is (.int .i64 (l : Int)), Is (.int .i64 (L.length : Int)), Is (.bool false), Is (.bool false), Is undef, Is undef, Is undef, Is undef, Is undef, Is undef, Is undef, Is undef, Is (.bool false), Is (.int .i64 (l : Int)), Is (.bool false)] (by kernel_rfl) (by kernel_rfl) ?mono (fun f1 => ?obl) ?fin
        case mono =>
          simp only [List.forall_mem_cons, List.not_mem_nil, false_imp_iff, implies_true, and_true]
          exact ⟨.is _, .is _, .is _, .is _, .is _, .is _, .is _, .is _, .is _, .is _, .is _, .is _, .is _, .is _, .is _, .is _⟩
        case fin =>
          intro g1 u hu hg
          simp only [puts, Act.put, zq1, zq2, zq3]
          have hxu := Ext.trans (Ext.drew wr) hu
          have HXU : Hid (Ext w u) := Ext.trans HX1.out (Ext.trans HX.out hxu)
          have e14 : g1 14 = .int .i64 (l : Int) := hg 14 (by decide)
          have e15 : g1 15 = .bool false := hg 15 (by decide)
          rw [e14, e15]
          clear hxu hu hg e14 e15
          go_wp2_with fail
          go_ret2
          exact ⟨l, false, HFIN.out, rfl, HXU.out⟩
        case obl =>
          refine ⟨fun u hu hd => ?_, ?_⟩
          · go_simp
            exact ⟨Ext.refl _, rfl⟩
          refine ⟨fun u hu hd => ?_, ?_⟩
          · simp only [Act.put, zq1, zq2, zq3]
            go_simp
            exact ⟨Ext.refl _, rfl⟩
          refine ⟨fun u hu hd => ?_, ?_⟩
          · simp only [Act.put, zq1, zq2, zq3]
            go_simp
            exact ⟨Ext.refl _, rfl⟩
          refine ⟨fun u hu hd => ?_, ?_⟩
          · simp only [Act.put, zq1, zq2, zq3]
            have e1 : f1 1 = .int .i64 (l : Int) := hd 1 (by kernel_rfl)
            have e2 : f1 2 = .int .i64 (L.length : Int) := hd 2 (by kernel_rfl)
            go_simp
            exact ⟨Ext.refl _, rfl⟩
          refine ⟨fun u hu hd => ?_, ?_⟩
          · simp only [Act.put, zq1, zq2, zq3]
            have e3 : f1 3 = .bool false := hd 3 (by kernel_rfl)
            go_simp
            exact ⟨Ext.refl _, rfl⟩
          refine ⟨fun u hu hd => ?_, ?_⟩
          · simp only [Act.put, zq1, zq2, zq3]
            have e4 : f1 4 = .bool false := hd 4 (by kernel_rfl)
            go_simp
            rfl
          refine ⟨fun u hu hd => ?_, ?_⟩
          · simp only [Act.put, zq1, zq2, zq3]
            have e4 : f1 4 = .bool false := hd 4 (by kernel_rfl)
            go_simp
            rfl
          refine ⟨fun u hu hd => ?_, ?_⟩
          · simp only [Act.put, zq1, zq2, zq3]
            have e4 : f1 4 = .bool false := hd 4 (by kernel_rfl)
            go_simp
            rfl
          refine ⟨fun u hu hd => ?_, ?_⟩
          · simp only [Act.put, zq1, zq2, zq3]
            have e4 : f1 4 = .bool false := hd 4 (by kernel_rfl)
            go_simp
            rfl
          refine ⟨fun u hu hd => ?_, ?_⟩
          · simp only [Act.put, zq1, zq2, zq3]
            have e4 : f1 4 = .bool false := hd 4 (by kernel_rfl)
            go_simp
            rfl
          refine ⟨fun u hu hd => ?_, ?_⟩
          · simp only [Act.put, zq1, zq2, zq3]
            have e4 : f1 4 = .bool false := hd 4 (by kernel_rfl)
            go_simp
            rfl
          refine ⟨fun u hu hd => ?_, ?_⟩
          · simp only [Act.put, zq1, zq2, zq3]
            have e4 : f1 4 = .bool false := hd 4 (by kernel_rfl)
            go_simp
            rfl
          refine ⟨fun u hu hd => ?_, ?_⟩
          · simp only [Act.put, zq1, zq2, zq3]
            have e4 : f1 4 = .bool false := hd 4 (by kernel_rfl)
            go_simp
            rfl
          refine ⟨fun u hu hd => ?_, ?_⟩
          · simp only [Act.put, zq1, zq2, zq3]
            have e4 : f1 4 = .bool false := hd 4 (by kernel_rfl)
            go_simp
            exact ⟨Ext.refl _, rfl⟩
          refine ⟨fun u hu hd => ?_, ?_⟩
          · simp only [Act.put, zq1, zq2, zq3]
            have e0 : f1 0 = .int .i64 (l : Int) := hd 0 (by kernel_rfl)
            go_simp
            exact ⟨Ext.refl _, rfl⟩
          refine ⟨fun u hu hd => ?_, ?_⟩
          · simp only [Act.put, zq1, zq2, zq3]
            have e13 : f1 13 = .bool false := hd 13 (by kernel_rfl)
            go_simp
            exact ⟨Ext.refl _, rfl⟩
          trivial
end Go.Proofs.YthhgjeeangepaaaGreat
namespace Go.Proofs.YthhgjeeangepaaaGreat
open Go.ChangeShapes Go.WideShapes Go.ChangeAt Go.RowKit
theorem tb_block {C : List (List Ent)} (L : List Ent) {k : Nat} {q : List Ent} (hq : C[k]? = some q) : offB C k + (wr q).length ≤ (tb C L).length ∧ ((tb C L).drop (offB C k)).take (wr q).length = wr q := by
  obtain ⟨hk, rfl⟩ := List.getElem?_eq_some_iff.1 hq
  have hsp : (tb C L).drop (offB C k) = wr C[k] ++ (blks (C.drop (k + 1)) ++ (index C ++ Bl.mk (keysT L)) ++ (foot24 C L ++ be4 (Bl.crc (foot24 C L)))) := by
    have e : blks C = blks (C.take k) ++ (wr C[k] ++ blks (C.drop (k + 1))) := by
      have e1 : blks C = blks (C.take k ++ (C[k] :: C.drop (k + 1))) := by rw [← List.drop_eq_getElem_cons hk, List.take_append_drop]
      rw [e1]
      unfold blks
      rw [List.flatMap_append, List.flatMap_cons]
    unfold tb ahd offB
    rw [e]
    simp only [List.append_assoc]
    rw [List.drop_left]
  refine ⟨?_, by rw [hsp, List.take_left]⟩
  have h0 : offB C k ≤ (tb C L).length := by
    have h1 := blks_take_le C k
    have : (blks C).length ≤ (tb C L).length := by rw [tb_len]; unfold ahd; rw [List.length_append]; omega
    unfold offB; omega
  have := congrArg List.length hsp
  rw [List.length_drop, List.length_append] at this
  omega
set_option maxRecDepth 100000 in
set_option maxHeartbeats 1000000 in
theorem tblock_any {w : World} {g : Nat} {C : List (List Ent)} {L : List Ent} {fr tt : List Nat} {en : Bool} (h : TV w g C L fr tt en) {k : Nat} {q : List Ent} (hq : C[k]? = some q) (kA : Option Addr) (kl kc : Nat) (n : Int) :
    Calls Tryz.prog 61 #[.pointer (some ⟨g, 0, none⟩), .agg #[.slice kA kl kc, .int .i64 n, .int .i64 0, .slice none 0 0, .int .i64 (offB C k : Nat), .int .i64 ((wr q).length : Nat)]] w fun x w' => ∃ A c, x = .returned (.slice A (wr q).length c) ∧ Bs w' 0 w'.heap.size (.slice A (wr q).length c) (wr q) ∧ Ext w w' := by
  obtain ⟨hle, hbt⟩ := tb_block L hq
  have hf := few h.may h.cuts h.flat
  have hlen : (tb C L).length ≤ 300000028 := by rw [tb_len]; have := hf.a; omega
  obtain ⟨fA, fc, tA, tc, ⟨bv_, fv_, PA, pc, P, h1, h2, _, _, _, _⟩, _, _⟩ := h.at_
  have HBS := Lib.hid h2
  have h2' := h2
  obtain ⟨A, c, rfl, hc, _⟩ := h2'
  unfold tbcells at h1
  obtain ⟨b, hb⟩ : ∃ b, b = offB C k := ⟨_, rfl⟩
  obtain ⟨z, hz⟩ : ∃ z, z = (wr q).length := ⟨_, rfl⟩
  obtain ⟨t, ht⟩ : ∃ t, t = tb C L := ⟨_, rfl⟩
  rw [← hb, ← hz, ← ht] at hle hbt
  rw [← ht] at hlen hc HBS h1
  rw [← hb, ← hz]
  obtain ⟨A2, hA2, hr2, _⟩ := cut_run A t.length c b (b + z) (by omega) hle hc
  have hbs := hA2 _ _ _ _ HBS.out
  rw [show b + z - b = z by omega, hbt] at hbs
  rw [show b + z - b = z by omega] at hr2
  have HB2 := Lib.hid hbs
  have hr3 : ∀ w, (Instr.slice 26 (.slice A t.length c) (some (.int .i64 (b : Int))) (some (.int .i64 ((b : Int) + (z : Int)))) none).run Tryz.prog w = .ok (.slice A2 z (c - b)) w := fun w => by have := hr2 w; rwa [Int.natCast_add] at this
  have e1 : IntKind.i64.wrap ((b : Int) + (z : Int)) = ((b + z : Nat) : Int) := by rw [IntKind.wrap_i64]; omega
  have e2 : wrap64 ((b : Int) + (z : Int)) = ((b + z : Nat) : Int) := by unfold wrap64; omega
  obtain ⟨w1, hw1⟩ : ∃ w1, w1 = w.alloc (.cells #[.slice kA kl kc, .int .i64 n, .int .i64 0, .slice none 0 0, .int .i64 (b : Nat), .int .i64 (z : Nat)] 108) := ⟨_, rfl⟩
  have HX1 : Hid (Ext w w1) := by rw [hw1]; exact ext_alloc _ _
  have HB1 : Hid (w1.heap[w.heap.size]? = some (.cells #[.slice kA kl kc, .int .i64 n, .int .i64 0, .slice none 0 0, .int .i64 (b : Nat), .int .i64 (z : Nat)] 108 (0, 0))) := by rw [hw1]; exact heap_at _ _ rfl
  have d0 := cell_of (ext_heap HX1.out h1) (k := 0) rfl
  have c4 := cell_of HB1.out (k := 4) rfl
  have c5 := cell_of HB1.out (k := 5) rfl
  clear h hq hf h1 h2 hb hz ht hc hA2 hbs hle hbt hlen
  go_enter Tryz.func61, Tryz.ntmps61
  go_upto_region 1 with (fail)
  rw [← hw1]
  clear hw1
  go_region
  go_wp2_with fail
  go_ret
  exact ⟨A2, c - b, rfl, bs_next HB2.out (Ext.trans HX1.out (Ext.drew _)), Ext.trans HX1.out (Ext.drew _)⟩
end Go.Proofs.YthhgjeeangepaaaGreat
namespace Go.Proofs.YthhgjeeangepaaaGreat
open Go.ChangeShapes Go.WideShapes Go.ChangeAt Go.RowKit
theorem flat_at {C : List (List Ent)} {n i : Nat} {q : List Ent} (hq : C[n]? = some q) (hi : i < q.length) : C.flatten[offK C n + i]? = q[i]? := by
  obtain ⟨hn, rfl⟩ := List.getElem?_eq_some_iff.1 hq
  rw [flat_split C n, List.drop_eq_getElem_cons hn, List.flatten_cons]
  unfold offK
  rw [List.getElem?_append_right (by omega), List.getElem?_append_left (by omega)]
  congr 1
  omega
theorem offK_lt_len {C : List (List Ent)} {n i : Nat} {q : List Ent} (hq : C[n]? = some q) (hi : i < q.length) : offK C n + i < C.flatten.length := by
  have h := flat_at hq hi
  rw [List.getElem?_eq_getElem hi] at h
  exact (List.getElem?_eq_some_iff.1 h).1
theorem last_at {C : List (List Ent)} (hc : Cuts C) {n : Nat} {q : List Ent} (hq : C[n]? = some q) : ∃ e, q.getLast? = some e ∧ C.flatten[offK C (n + 1) - 1]? = some e ∧ offK C n < offK C (n + 1) := by
  have hne := (cuts_piece hc q (List.mem_of_getElem? hq)).1
  have hp : 0 < q.length := List.length_pos_iff.2 hne
  have h1 := offK_succ hq
  refine ⟨q.getLast hne, List.getLast?_eq_some_getLast hne, ?_, by omega⟩
  have e : offK C (n + 1) - 1 = offK C n + (q.length - 1) := by omega
  rw [e, flat_at hq (by omega), List.getElem?_eq_getElem (by omega), List.getLast_eq_getElem]
theorem lastE_cmp {q : List Ent} {e : Ent} {a : Nat} (hq : q.getLast? = some e) (hm : e.may = true) (x : Ent) : cmpE (lastE (plOf q a)) x = cmpE e x ∧ cmpE x (lastE (plOf q a)) = cmpE x e := by
  obtain ⟨m1, m2, m3, m4, _⟩ := mayN_iff.1 hm
  unfold cmpE lastE plOf
  rw [hq]
  simp only [Option.map_some, Option.getD_some]
  have : ((e.seq.toNat : Nat) : Int) = e.seq := by omega
  rw [this]
  exact ⟨rfl, rfl⟩
theorem pls_lastE {C : List (List Ent)} (hc : Cuts C) (hm : ∀ e ∈ C.flatten, e.may = true) {n : Nat} {y : Ent} (h : ((pls C).map lastE)[n]? = some y) : ∃ e, C.flatten[offK C (n + 1) - 1]? = some e ∧ offK C n < offK C (n + 1) ∧ n < C.length ∧ ∀ x, cmpE y x = cmpE e x ∧ cmpE x y = cmpE x e := by
  rw [List.getElem?_map] at h
  have hn : n < C.length := by
    rcases Nat.lt_or_ge n C.length with h1 | h1
    · exact h1
    · rw [List.getElem?_eq_none (by rw [pls_length]; exact h1)] at h; cases h
  have hq : C[n]? = some C[n] := List.getElem?_eq_getElem hn
  rw [pls_at hq] at h
  injection h with h
  obtain ⟨e, h1, h2, h3⟩ := last_at hc hq
  refine ⟨e, h2, h3, hn, fun x => ?_⟩
  rw [← h]
  exact lastE_cmp h1 (hm e (List.mem_of_getElem? h2)) x
theorem pls_rise {C : List (List Ent)} (hc : Cuts C) (hr : Rise C.flatten) (hm : ∀ e ∈ C.flatten, e.may = true) : Rise ((pls C).map lastE) := by
  intro j a b ha hb
  obtain ⟨e, h1, h2, _, h3⟩ := pls_lastE hc hm ha
  obtain ⟨f, k1, k2, _, k3⟩ := pls_lastE hc hm hb
  rw [(h3 b).1, (k3 e).2]
  exact rise_at hr (by omega) h1 k1
theorem cut_ex {L : List Ent} (h : Rise L) (x : Ent) : ∃ n, Cut L x n := by
  have hle := List.findIdx_le_length (p := fun a => decide (0 ≤ cmpE a x)) (xs := L)
  refine ⟨L.findIdx (fun a => decide (0 ≤ cmpE a x)), hle, fun j a hj ha => ?_, fun j a hj ha => ?_⟩
  · obtain ⟨h1, rfl⟩ := List.getElem?_eq_some_iff.1 ha
    have := List.not_of_lt_findIdx hj
    simp at this; omega
  · have hlt := (List.getElem?_eq_some_iff.1 ha).1
    have hi : L.findIdx (fun a => decide (0 ≤ cmpE a x)) < L.length := by omega
    have := List.findIdx_getElem (w := hi)
    exact cut_hi h (List.getElem?_eq_getElem hi) (by simpa using this) j a hj ha
theorem cut_block {C : List (List Ent)} (hc : Cuts C) (hr : Rise C.flatten) (hm : ∀ e ∈ C.flatten, e.may = true) {x : Ent} {n : Nat} (h : Cut ((pls C).map lastE) x n) {q : List Ent} (hq : C[n]? = some q) : ∃ m, m < q.length ∧ Cut q x m ∧ Cut C.flatten x (offK C n + m) := by
  have hqr : Rise q := by
    intro j a b ha hb
    have h1 := (List.getElem?_eq_some_iff.1 ha).1
    have h2 := (List.getElem?_eq_some_iff.1 hb).1
    refine hr (offK C n + j) a b ?_ ?_
    · rw [flat_at hq h1]; exact ha
    · rw [Nat.add_assoc, flat_at hq h2]; exact hb
  obtain ⟨m, hcm⟩ := cut_ex hqr x
  obtain ⟨y, hy⟩ : ∃ y, ((pls C).map lastE)[n]? = some y := ⟨_, List.getElem?_eq_getElem (by rw [List.length_map, pls_length]; exact (List.getElem?_eq_some_iff.1 hq).1)⟩
  obtain ⟨e, h1, h2, hn, h3⟩ := pls_lastE hc hm hy
  have hge := h.hi n y (Nat.le_refl _) hy
  rw [(h3 x).1] at hge
  have hs := offK_succ hq
  have hml : m < q.length := by
    rcases Nat.lt_or_ge m q.length with h4 | h4
    · exact h4
    · have h5 : q[q.length - 1]? = some e := by
        rw [← flat_at hq (by omega), ← h1]; congr 1; omega
      have := hcm.lo (q.length - 1) e (by omega) h5
      omega
  refine ⟨m, hml, hcm, ?_⟩
  refine ⟨Nat.le_of_lt (offK_lt_len hq hml), fun j a hj ha => ?_, fun j a hj ha => ?_⟩
  · rcases Nat.lt_or_ge j (offK C n) with h4 | h4
    · obtain ⟨k, rfl⟩ : ∃ k, n = k + 1 := ⟨n - 1, by
        rcases n with _ | n
        · rw [offK_zero] at h4; omega
        · rfl⟩
      obtain ⟨y', hy'⟩ : ∃ y, ((pls C).map lastE)[k]? = some y := ⟨_, List.getElem?_eq_getElem (by rw [List.length_map, pls_length]; omega)⟩
      obtain ⟨f, k1, k2, _, k3⟩ := pls_lastE hc hm hy'
      have hlo := h.lo k y' (by omega) hy'
      rw [(k3 x).1] at hlo
      exact cut_lo hr k1 hlo j a (by omega) ha
    · have h5 : j - offK C n < q.length := by omega
      refine hcm.lo (j - offK C n) a (by omega) ?_
      rw [← flat_at hq h5, ← ha]; congr 1; omega
  · refine cut_hi hr (m := offK C n + m) (a := q[m]) ?_ ?_ j a hj ha
    · rw [flat_at hq hml]; exact List.getElem?_eq_getElem hml
    · exact hcm.hi m q[m] (Nat.le_refl _) (List.getElem?_eq_getElem hml)
theorem find_block {C : List (List Ent)} (hc : Cuts C) (hr : Rise C.flatten) (hm : ∀ e ∈ C.flatten, e.may = true) {key : List Nat} {s : Int} {n : Nat} (h : Cut ((pls C).map lastE) ⟨key, s, 0, []⟩ n) {q : List Ent} (hq : C[n]? = some q) : q.find? (seenE key s) = C.flatten.find? (seenE key s) := by
  obtain ⟨m, h1, h2, h3⟩ := cut_block hc hr hm h hq
  have hqr : Rise q := by
    intro j a b ha hb
    have h1 := (List.getElem?_eq_some_iff.1 ha).1
    have h2 := (List.getElem?_eq_some_iff.1 hb).1
    refine hr (offK C n + j) a b ?_ ?_
    · rw [flat_at hq h1]; exact ha
    · rw [Nat.add_assoc, flat_at hq h2]; exact hb
  have h5 := offK_lt_len hq h1
  have h4 : C.flatten[offK C n + m] = q[m] := by
    have h := flat_at hq h1
    rw [List.getElem?_eq_getElem h5, List.getElem?_eq_getElem h1] at h
    injection h
  rw [cut_find hqr h2, cut_find hr h3, dif_pos h1, dif_pos h5, h4]
theorem find_none {C : List (List Ent)} (hc : Cuts C) (hr : Rise C.flatten) (hm : ∀ e ∈ C.flatten, e.may = true) (h0 : 1 ≤ C.length) {key : List Nat} {s : Int} (h : Cut ((pls C).map lastE) ⟨key, s, 0, []⟩ C.length) : C.flatten.find? (seenE key s) = none := by
  obtain ⟨k, hk⟩ : ∃ k, C.length = k + 1 := ⟨C.length - 1, by omega⟩
  obtain ⟨y', hy'⟩ : ∃ y, ((pls C).map lastE)[k]? = some y := ⟨_, List.getElem?_eq_getElem (by rw [List.length_map, pls_length]; omega)⟩
  obtain ⟨f, k1, k2, _, k3⟩ := pls_lastE hc hm hy'
  have hlo := h.lo k y' (by omega) hy'
  rw [(k3 _).1] at hlo
  have hcut : Cut C.flatten ⟨key, s, 0, []⟩ C.flatten.length := by
    refine ⟨Nat.le_refl _, fun j a hj ha => ?_, fun j a hj ha => by have := (List.getElem?_eq_some_iff.1 ha).1; omega⟩
    have e : offK C (k + 1) = C.flatten.length := by rw [← hk]; exact offK_all C
    exact cut_lo hr k1 hlo j a (by omega) ha
  rw [cut_find hr hcut, dif_neg (by omega)]
end Go.Proofs.YthhgjeeangepaaaGreat
namespace Go.Proofs.YthhgjeeangepaaaGreat
open Go.ChangeShapes Go.WideShapes Go.ChangeAt Go.RowKit
theorem sl_off {w w' : World} {lo hi G : Nat} {A : Option Addr} {xs : List Value} {c : Array Value} {t : TypeId} (h : Sl w lo hi A xs) (hG : w.heap[G]? = some (.cells c t (0, 0))) (hx : ∀ (i : Nat) (v : Value), c[i]? = some v → v ∉ xs) (hc : Chg (fun i => i = G) w w') : Sl w' lo hi A xs := by
  rcases h with h0 | ⟨b, o, rfl, h1, h2, h3⟩
  · exact .inl h0
  · rcases xs with _ | ⟨x, xs⟩
    · exact .inl rfl
    · have hbG : b ≠ G := fun e => by
        subst e
        have h4 := h3 0 x rfl
        have h5 : c[o + 0]? = some x := by simpa [World.cell?, hG] using h4
        exact hx _ x h5 (by simp)
      refine .inr ⟨b, o, rfl, h1, h2, fun i u hu => ?_⟩
      have h4 := h3 i u hu
      have hlt := World.block_lt_of_cell? w _ h4
      exact (World.cell?_of_block (hc.block b hlt hbG)).trans h4
theorem bs_off {w w' : World} {lo hi G : Nat} {v : Value} {l : List Nat} {c : Array Value} {t : TypeId} (h : Bs w lo hi v l) (hG : w.heap[G]? = some (.cells c t (0, 0))) (hx : ∀ (i : Nat) (v : Value), c[i]? = some v → ∀ n : Int, v ≠ .int .u8 n) (hc : Chg (fun i => i = G) w w') : Bs w' lo hi v l :=
  h.of fun A hA => sl_off hA hG (fun i v hv hm => by
    unfold bv at hm
    obtain ⟨n, _, rfl⟩ := List.mem_map.1 hm
    exact hx i _ hv _ rfl) hc
theorem em_off {w w' : World} {lo hi G : Nat} {e : Ent} {g : Hd} {c : Array Value} {t : TypeId} (h : Em w lo hi e g) (hG : w.heap[G]? = some (.cells c t (0, 0))) (hx : ∀ (i : Nat) (v : Value), c[i]? = some v → ∀ n : Int, v ≠ .int .u8 n) (hc : Chg (fun i => i = G) w w') : Em w' lo hi e g :=
  ⟨bs_off h.k hG hx hc, bs_off h.v hG hx hc, h.bk, h.bv, h.s1, h.s2, h.d1, h.d2⟩
theorem TV.places {w : World} {g : Nat} {C : List (List Ent)} {L : List Ent} {fr tt : List Nat} {en : Bool} (h : TV w g C L fr tt en) {P : List (Pl × PHd)} (hP : P.map Prod.fst = pls C) :
    (P.map fun p => lastE p.1) = (pls C).map lastE ∧ (∀ p ∈ P, (∀ y ∈ p.1.key, y < 256) ∧ p.1.n ≤ 2147483647) ∧ P.length = C.length ∧ Rise ((pls C).map lastE) := by
  refine ⟨by rw [← hP, List.map_map]; rfl, fun p hp => ?_, by have := congrArg List.length hP; rw [List.length_map, pls_length] at this; exact this, pls_rise h.cuts (h.flat ▸ h.may.2.2.1) (fun e he => h.may.2.2.2 e (h.flat ▸ he))⟩
  have hm : p.1 ∈ pls C := by rw [← hP]; exact List.mem_map_of_mem hp
  refine ⟨?_, (pls_small h.may h.cuts h.flat _ hm).2.1⟩
  obtain ⟨k, hk, he⟩ := List.mem_iff_getElem.1 hm
  have hk2 : k < C.length := by rw [pls_length] at hk; exact hk
  have h2 := pls_at (List.getElem?_eq_getElem hk2)
  rw [List.getElem?_eq_getElem hk] at h2
  injection h2 with h2
  obtain ⟨e, e1, e2, _⟩ := last_at h.cuts (List.getElem?_eq_getElem hk2)
  rw [← he, h2]
  unfold plOf
  rw [e1]
  exact (h.good e (by rw [← h.flat]; exact List.mem_of_getElem? e2)).1
set_option maxRecDepth 100000 in
set_option maxHeartbeats 2000000 in
theorem tfirst_any {w : World} {g : Nat} {C : List (List Ent)} {L : List Ent} {fr tt : List Nat} {en : Bool} {lo hi kc : Nat} {kA : Option Addr} {key : List Nat} {s : Int} (h : TV w g C L fr tt en) (hk : Bs w lo hi (.slice kA key.length kc) key) (hhi : hi ≤ w.heap.size) (bk : ∀ x ∈ key, x < 256) (hs1 : -9223372036854775808 ≤ s) (hs2 : s ≤ 9223372036854775807) :
    Calls Tryz.prog 59 #[.pointer (some ⟨g, 0, none⟩), .slice kA key.length kc, .int .i64 s] w fun x w' => ∃ n : Nat, Cut ((pls C).map lastE) ⟨key, s, 0, []⟩ n ∧ x = .returned (.int .i64 (n : Int)) ∧ Ext w w' := by
  obtain ⟨fA, fc, tA, tc, ⟨bv_, fv_, PA, pc, P, h1, _, _, h4, _, h6⟩, _, _⟩ := h.at_
  obtain ⟨p1, p2, p3, p4⟩ := h.places h6
  unfold tbcells at h1
  have c1 := cell_of h1 (k := 1) rfl
  have HS := Lib.hid (search_any (c := pc) (x := ⟨key, s, 0, []⟩) (g := ⟨kA, kc, none, 0⟩) h4 (Nat.le_refl _) (by rw [p3]; exact h.some_.2) (by rw [p1]; exact p4) p2 ⟨hk, Bs.nil _ _ _, bk, (fun x hx => by cases hx), hs1, hs2, by show _ ≤ (0 : Int); omega, by show (0 : Int) ≤ _; omega⟩ hhi)
  rw [p1] at HS
  have HS2 : Hid (Calls Tryz.prog 100 #[.slice PA P.length pc, .agg #[.slice kA key.length kc, .int .i64 s, .int .i64 0, .slice none 0 0], .func (.func 101) #[] #[]] w fun e w' => ∃ (n : Nat) (y : Bool), Cut ((pls C).map lastE) ⟨key, s, 0, []⟩ n ∧ e = .returned (.tuple #[.int .i64 (n : Int), .bool y]) ∧ Ext w w') := HS.out
  clear HS h h1 h4 h6 p1 p2 p3 p4 hk hhi bk hs1 hs2
  go_enter Tryz.func59, Tryz.ntmps59
  go_wp2_with fail
  refine HS2.out.mono ?_
  rintro x w2 ⟨n, y, hcut, rfl, hx⟩
  have HF := Lib.hid (And.intro hcut hx)
  clear hcut hx
  go_wp2_with fail
  go_ret
  exact ⟨n, HF.out.1, rfl, HF.out.2⟩
def TGetAns (w : World) (L : List Ent) (inn : Bool) (key : List Nat) (s : Int) (x : Ending) (w' : World) : Prop :=
  Ext w w' ∧ match (if inn then L.find? (seenE key s) else none) with
    | some e => ∃ g : Hd, x = .returned (.tuple #[e.at_ g, .int .i64 0]) ∧ Em w' 0 w'.heap.size e g
    | none => x = .returned (.tuple #[noE, .int .i64 6])
set_option maxRecDepth 100000 in
set_option maxHeartbeats 8000000 in
theorem tget_any {w : World} {g : Nat} {C : List (List Ent)} {L : List Ent} {fr tt : List Nat} {en : Bool} {lo hi kc : Nat} {kA : Option Addr} {key : List Nat} {s : Int} (h : TV w g C L fr tt en) (hk : Bs w lo hi (.slice kA key.length kc) key) (hhi : hi ≤ w.heap.size) (bk : ∀ x ∈ key, x < 256) (hs1 : -9223372036854775808 ≤ s) (hs2 : s ≤ 9223372036854775807) :
    Calls Tryz.prog 27 #[.pointer (some ⟨g, 0, none⟩), .slice kA key.length kc, .int .i64 s] w (TGetAns w L (hasV fr tt en key && Bl.mayB (Bl.mk (keysT L)) key) key s) := by
  obtain ⟨w1, hw1⟩ : ∃ w1, w1 = w.alloc (.cells #[.slice none 0 0, .int .i64 0, .int .i64 0, .slice none 0 0] 55) := ⟨_, rfl⟩
  have HX1 : Hid (Ext w w1) := by rw [hw1]; exact ext_alloc _ _
  have HB1 : Hid (w1.heap[w.heap.size]? = some (.cells #[.slice none 0 0, .int .i64 0, .int .i64 0, .slice none 0 0] 55 (0, 0))) := by rw [hw1]; exact heap_at _ _ rfl
  have HV := Lib.hid (h.ext HX1.out)
  have HN := Lib.hid (tnone_any HV.out)
  have HFI := Lib.hid (tfirst_any (s := s) HV.out (hk.below HX1.out hhi) (Nat.le_trans hhi HX1.out.size) bk hs1 hs2)
  have HK := Lib.hid hk
  have HHI := Lib.hid hhi
  have HBK := Lib.hid bk
  have HS := Lib.hid (And.intro hs1 hs2)
  clear h hk hhi bk hs1 hs2
  go_enter Tryz.func27, Tryz.ntmps27
  go_wp2_with fail
  rw [← hw1]
  clear hw1
  refine HN.out.mono ?_
  rintro x w0 ⟨rfl, hw0⟩
  have hw0 := hw0.symm
  subst hw0
  go_wp2_with fail
  refine HFI.out.mono ?_
  rintro x w2 ⟨n, hcut, rfl, hx2⟩
  have HX2 : Hid (Ext w w2) := Ext.trans HX1.out hx2
  have HV2 := Lib.hid (HV.out.ext hx2)
  have HCUT := Lib.hid hcut
  have hb2 := ext_heap hx2 HB1.out
  have HB2 := Lib.hid hb2
  have HM := Lib.hid (tmay_any HV2.out (HK.out.below HX2.out HHI.out) (Nat.le_trans HHI.out HX2.out.size) HBK.out)
  obtain ⟨m, hm⟩ : ∃ m, m = (hasV fr tt en key && Bl.mayB (Bl.mk (keysT L)) key) := ⟨_, rfl⟩
  rw [← hm] at HM
  obtain ⟨fA, fc, tA, tc, ⟨bv_, fv_, PA, pc, P, h1, _, _, h4, _, h6⟩, _, _⟩ := HV2.out.at_
  obtain ⟨p1, p2, p3, p4⟩ := HV2.out.places h6
  unfold tbcells at h1
  have HT := Lib.hid h1
  have HPS := Lib.hid (And.intro h4 h6)
  have hnle := hcut.le
  rw [List.length_map, pls_length, ← p3] at hnle
  have HP3 := Lib.hid p3
  have HMM := Lib.hid hm
  have c1 := cell_of h1 (k := 1) rfl
  have b0 := cell_of hb2 (k := 0) rfl
  have b1 := cell_of hb2 (k := 1) rfl
  have b2 := cell_of hb2 (k := 2) rfl
  have b3 := cell_of hb2 (k := 3) rfl
  have z0 := frozen_four (j := 0) hb2
  have z1 := frozen_four (j := 1) hb2
  have z2 := frozen_four (j := 2) hb2
  have z3 := frozen_four (j := 3) hb2
  have HRM : Hid (Rise C.flatten ∧ ∀ e ∈ C.flatten, e.may = true) := ⟨HV.out.flat ▸ HV.out.may.2.2.1, fun e he => HV.out.may.2.2.2 e (HV.out.flat ▸ he)⟩
  clear hx2 hcut hb2 h1 h4 h6 p1 p2 p3 p4 hm HN HFI
  by_cases hn : n = P.length
  · have d : ((n : Int) == (P.length : Int)) = true := by rw [beq_iff_eq, hn]
    have dn : (n == P.length) = true := by rw [beq_iff_eq, hn]
    have HF : Hid (L.find? (seenE key s) = none) := by
      have h := HCUT.out
      rw [hn, HP3.out] at h
      have := find_none HV.out.cuts HRM.out.1 HRM.out.2 HV.out.some_.1 h
      rwa [HV.out.flat] at this
    clear hn hnle
    go_wp2_with fail
    refine entry_ret rfl rfl rfl rfl (set_four HB2.out) ⟨get_four HX2.out _ _ _ _, ?_⟩
    rw [HF.out]
    cases (hasV fr tt en key && Bl.mayB (Bl.mk (keysT L)) key) <;> rfl
  · have d : ((n : Int) == (P.length : Int)) = false := by rw [beq_eq_false_iff_ne]; omega
    have dn : (n == P.length) = false := by rw [beq_eq_false_iff_ne]; exact hn
    have HNL : Hid (n < P.length) := by unfold Hid; omega
    clear hn hnle b0 b1 b2 b3 z0 z1 z2 z3
    go_wp2_with fail
    refine HM.out.mono ?_
    rintro x w3 ⟨rfl, hx3⟩
    have HX3 : Hid (Ext w w3) := Ext.trans HX2.out hx3
    have HX23 := Lib.hid hx3
    have hb3 := ext_heap hx3 HB2.out
    have HB3 := Lib.hid hb3
    have HV3 := Lib.hid (HV2.out.ext hx3)
    have d1 := cell_of (ext_heap hx3 HT.out) (k := 1) rfl
    clear hx3 c1 HM
    cases m with
    | false =>
      have b0 := cell_of hb3 (k := 0) rfl
      have b1 := cell_of hb3 (k := 1) rfl
      have b2 := cell_of hb3 (k := 2) rfl
      have b3 := cell_of hb3 (k := 3) rfl
      have z0 := frozen_four (j := 0) hb3
      have z1 := frozen_four (j := 1) hb3
      have z2 := frozen_four (j := 2) hb3
      have z3 := frozen_four (j := 3) hb3
      clear hb3
      go_wp2_with fail
      refine entry_ret rfl rfl rfl rfl (set_four HB3.out) ⟨get_four HX3.out _ _ _ _, ?_⟩
      rw [← HMM.out]
      rfl
    | true =>
      clear hb3
      obtain ⟨p, hp⟩ : ∃ p, P[n]? = some p := ⟨_, List.getElem?_eq_getElem HNL.out⟩
      obtain ⟨q, hq⟩ : ∃ q, C[n]? = some q := ⟨_, List.getElem?_eq_getElem (by have := HNL.out; have := HP3.out; omega)⟩
      have hpe : p.1 = plOf q (offB C n) := by
        have h1 := pls_at hq
        rw [← HPS.out.2, List.getElem?_map, hp] at h1
        injection h1
      obtain ⟨pb, po, hA⟩ := HPS.out.1.base (by have := HNL.out; omega)
      subst hA
      obtain ⟨c0, c1, c2, c3, c4, c5⟩ := (HPS.out.1.below HX23.out (Nat.le_refl _)).get hp
      have HBL := Lib.hid (tblock_any HV3.out hq p.2.1 p.1.key.length p.2.2 (p.1.n : Int))
      have eb : ((offB C n : Nat) : Int) = (p.1.b : Int) := by rw [hpe]; rfl
      have ez : (((wr q).length : Nat) : Int) = (p.1.z : Int) := by rw [hpe]; rfl
      rw [eb, ez] at HBL
      have n1 : (0 : Int) ≤ (n : Int) := Int.natCast_nonneg _
      have n2 : (n : Int) < (P.length : Int) := Int.ofNat_lt.2 HNL.out
      have HQ := Lib.hid hq
      clear hp hq hpe eb ez
      go_wp2_with fail
      refine HBL.out.mono ?_
      rintro x w4 ⟨QA, qc, rfl, hqb, hx4⟩
      have HX4 : Hid (Ext w w4) := Ext.trans HX3.out hx4
      have HB4 := Lib.hid (ext_heap hx4 HB3.out)
      have hqm : MayB q := pieces_mayB HRM.out.1 HRM.out.2 HV.out.cuts q (List.mem_of_getElem? HQ.out)
      have HQM := Lib.hid hqm
      have HBG := Lib.hid (bget_any (s := s) hqb (Nat.le_refl _) (wr_lt hqm (fun e he => HV.out.good e (by rw [← HV.out.flat]; exact List.mem_flatten.2 ⟨q, List.mem_of_getElem? HQ.out, he⟩))) (by have h1 := (few HV.out.may HV.out.cuts HV.out.flat).b; have h2 := offB_succ HQ.out; have h3 := blks_take_le C (n + 1); rw [h2, List.length_append] at h3; omega) (HK.out.below HX4.out HHI.out) (Nat.le_trans HHI.out HX4.out.size) HBK.out HS.out.1 HS.out.2)
      clear hx4 hqm hqb c0 c1 c2 c3 c4 c5 d1 HBL
      go_wp2_with fail
      refine HBG.out.mono ?_
      rintro x w5 ⟨hx5, (⟨hno, _⟩ | ⟨L', his, hres⟩)⟩
      · exact absurd ⟨HQM.out, rfl⟩ (hno q)
      have e : L' = q := his.unique ⟨HQM.out, rfl⟩
      subst e
      have HFB := find_block HV.out.cuts HRM.out.1 HRM.out.2 HCUT.out HQ.out
      rw [HV.out.flat] at HFB
      rw [HFB] at hres
      have HX5 : Hid (Ext w w5) := Ext.trans HX4.out hx5
      have hb5 := ext_heap hx5 HB4.out
      have HB5 := Lib.hid hb5
      have b0 := cell_of hb5 (k := 0) rfl
      have b1 := cell_of hb5 (k := 1) rfl
      have b2 := cell_of hb5 (k := 2) rfl
      have b3 := cell_of hb5 (k := 3) rfl
      have z0 := frozen_four (j := 0) hb5
      have z1 := frozen_four (j := 1) hb5
      have z2 := frozen_four (j := 2) hb5
      have z3 := frozen_four (j := 3) hb5
      clear hx5 hb5 his HFB HBG
      cases hfd : L.find? (seenE key s) with
      | none =>
        rw [hfd] at hres
        obtain rfl := hres
        have HFD := Lib.hid hfd
        clear hfd
        unfold noE
        go_wp2_with fail
        refine entry_ret rfl rfl rfl rfl (set_four HB5.out) ⟨get_four HX5.out _ _ _ _, ?_⟩
        rw [← HMM.out, if_pos rfl, HFD.out]
        rfl
      | some e =>
        rw [hfd] at hres
        obtain ⟨eg, rfl, hem⟩ := hres
        have HFD := Lib.hid hfd
        have HEM := Lib.hid hem
        clear hfd hem
        unfold Ent.at_
        go_wp2_with fail
        refine entry_ret rfl rfl rfl rfl (set_four HB5.out) ⟨get_four HX5.out _ _ _ _, ?_⟩
        rw [← HMM.out, if_pos rfl, HFD.out]
        refine ⟨eg, rfl, ?_⟩
        refine (em_off HEM.out HB5.out (fun i v hv n e => ?_) (chg_four _ _ _ _ _ _)).wide (Nat.le_refl _) (by simp [World.setCell])
        subst e
        rcases i with _ | _ | _ | _ | i <;> simp at hv
end Go.Proofs.YthhgjeeangepaaaGreat
namespace Go.Proofs.YthhgjeeangepaaaGreat
open Go.ChangeShapes Go.WideShapes Go.ChangeAt Go.RowKit
def inV (fr tt : List Nat) (en : Bool) (L : List Ent) : List Ent := L.filter fun e => hasV fr tt en e.key
theorem seen_key {k : List Nat} {s : Int} {e : Ent} (h : seenE k s e = true) : e.key = k := by unfold seenE at h; simp at h; exact h.1
theorem find_view (fr tt : List Nat) (en : Bool) (k : List Nat) (s : Int) : ∀ L : List Ent, (inV fr tt en L).find? (seenE k s) = if hasV fr tt en k then L.find? (seenE k s) else none
  | [] => by simp [inV]
  | e :: L => by
    have ih := find_view fr tt en k s L
    unfold inV at ih ⊢
    by_cases hs : seenE k s e = true
    · have hk := seen_key hs
      by_cases hv : hasV fr tt en e.key = true
      · rw [List.filter_cons_of_pos (p := fun e : Ent => hasV fr tt en e.key) hv, List.find?_cons_of_pos hs, ← hk, if_pos hv, List.find?_cons_of_pos (by rw [hk]; exact hs)]
      · rw [List.filter_cons_of_neg (p := fun e : Ent => hasV fr tt en e.key) hv, ih, ← hk, if_neg hv, if_neg hv]
    · by_cases hv : hasV fr tt en e.key = true
      · rw [List.filter_cons_of_pos (p := fun e : Ent => hasV fr tt en e.key) hv, List.find?_cons_of_neg hs, List.find?_cons_of_neg hs, ih]
      · rw [List.filter_cons_of_neg (p := fun e : Ent => hasV fr tt en e.key) hv, List.find?_cons_of_neg hs, ih]
theorem filter_key {L : List Ent} {e : Ent} (h : e ∈ L) : Bl.mayB (Bl.mk (keysT L)) e.key = true := by
  obtain ⟨i, hi, he⟩ := List.mem_iff_getElem.1 h
  exact Bl.may_mk (keysTo_has (i := i) (by rw [List.getElem?_eq_getElem hi, he]) hi)
theorem get_view (fr tt : List Nat) (en : Bool) (k : List Nat) (s : Int) (L : List Ent) : (if (hasV fr tt en k && Bl.mayB (Bl.mk (keysT L)) k) = true then L.find? (seenE k s) else none) = (inV fr tt en L).find? (seenE k s) := by
  rw [find_view]
  cases hf : L.find? (seenE k s) with
  | none => split <;> split <;> rfl
  | some e =>
    have h1 := seen_key (List.find?_some hf)
    have h2 := filter_key (List.mem_of_find?_eq_some hf)
    rw [h1] at h2
    rw [h2, Bool.and_true]
end Go.Proofs.YthhgjeeangepaaaGreat
namespace Go.Proofs.YthhgjeeangepaaaGreat
open Go.ChangeShapes Go.WideShapes Go.ChangeAt Go.RowKit
def cnt (fr tt : List Nat) (en : Bool) (L : List Ent) (i : Nat) : Nat := (inV fr tt en (L.take i)).length
theorem cnt_zero (fr tt : List Nat) (en : Bool) (L : List Ent) : cnt fr tt en L 0 = 0 := rfl
theorem inV_append (fr tt : List Nat) (en : Bool) (L M : List Ent) : inV fr tt en (L ++ M) = inV fr tt en L ++ inV fr tt en M := by unfold inV; rw [List.filter_append]
theorem cnt_all (fr tt : List Nat) (en : Bool) (L : List Ent) : cnt fr tt en L L.length = (inV fr tt en L).length := by unfold cnt; rw [List.take_length]
theorem cnt_hid {fr tt : List Nat} {en : Bool} {L : List Ent} {i : Nat} {e : Ent} (h : L[i]? = some e) (hv : hasV fr tt en e.key = false) : cnt fr tt en L (i + 1) = cnt fr tt en L i := by
  unfold cnt
  rw [List.take_add_one, h, inV_append]
  simp [inV, hv]
theorem cnt_seen {fr tt : List Nat} {en : Bool} {L : List Ent} {i : Nat} {e : Ent} (h : L[i]? = some e) (hv : hasV fr tt en e.key = true) : cnt fr tt en L (i + 1) = cnt fr tt en L i + 1 ∧ (inV fr tt en L)[cnt fr tt en L i]? = some e := by
  have h1 : inV fr tt en (L.take (i + 1)) = inV fr tt en (L.take i) ++ [e] := by
    rw [List.take_add_one, h, inV_append]
    simp [inV, hv]
  refine ⟨by unfold cnt; rw [h1, List.length_append]; rfl, ?_⟩
  have h2 : inV fr tt en L = inV fr tt en (L.take (i + 1)) ++ inV fr tt en (L.drop (i + 1)) := by rw [← inV_append, List.take_append_drop]
  rw [h2, h1]
  unfold cnt
  rw [List.getElem?_append_left (by simp), List.getElem?_append_right (Nat.le_refl _)]
  simp
theorem cnt_skip {fr tt : List Nat} {en : Bool} {L : List Ent} {i : Nat} : ∀ {j : Nat}, i ≤ j → (∀ k e, i ≤ k → k < j → L[k]? = some e → hasV fr tt en e.key = false) → cnt fr tt en L j = cnt fr tt en L i := by
  intro j hij
  induction j with
  | zero => intro _; obtain rfl : i = 0 := by omega
            rfl
  | succ j ih =>
    intro h
    rcases Nat.lt_or_ge j i with h1 | h1
    · obtain rfl : i = j + 1 := by omega
      rfl
    · have h2 := ih h1 (fun k e a b c => h k e a (by omega) c)
      cases he : L[j]? with
      | none =>
        rw [← h2]
        unfold cnt
        rw [List.take_of_length_le (by have := List.getElem?_eq_none_iff.1 he; omega), List.take_of_length_le (by have := List.getElem?_eq_none_iff.1 he; omega)]
      | some e => rw [cnt_hid he (h j e h1 (by omega) he), h2]
theorem has_below {fr tt : List Nat} {en : Bool} {e : Ent} (h : belowK fr e = true) : hasV fr tt en e.key = false := by
  unfold belowK at h
  rw [decide_eq_true_eq] at h
  unfold hasV
  have h1 := cmpK_turn e.key fr
  rw [decide_eq_false (by omega)]
  rfl
theorem has_ends {fr tt : List Nat} {en : Bool} {k : List Nat} (h : endsV tt en k = true) : hasV fr tt en k = false := by unfold hasV; rw [h]; simp
theorem has_is {fr tt : List Nat} {en : Bool} {e : Ent} (h : belowK fr e = false) (h2 : endsV tt en e.key = false) : hasV fr tt en e.key = true := by
  unfold belowK at h
  rw [decide_eq_false_iff_not] at h
  unfold hasV
  have h1 := cmpK_turn e.key fr
  rw [h2, decide_eq_true (by omega)]
  rfl
theorem cmpK_le_trans {a b c : List Nat} (h : cmpK a b ≤ 0) (k : cmpK b c ≤ 0) : cmpK a c ≤ 0 := by
  have h1 := cmpK_range b c
  rcases h1 with h1 | h1 | h1
  · have := cmpK_trans_lt h (c := c) (by omega); omega
  · rw [← cmpK_zero h1]; exact h
  · omega
theorem cnt_ends {fr tt : List Nat} {en : Bool} {L : List Ent} (hr : Rise L) {i : Nat} {e : Ent} (h : L[i]? = some e) (hv : endsV tt en e.key = true) : cnt fr tt en L i = (inV fr tt en L).length := by
  have hlt := (List.getElem?_eq_some_iff.1 h).1
  have h1 : cnt fr tt en L L.length = cnt fr tt en L i := by
    refine cnt_skip (Nat.le_of_lt hlt) fun k f hk _ hf => has_ends ?_
    rcases Nat.eq_or_lt_of_le hk with rfl | hk
    · rw [h] at hf; injection hf with hf; subst hf; exact hv
    · have h2 := cmpE_keys (rise_at hr hk h hf)
      unfold endsV at hv ⊢
      rw [Bool.and_eq_true, decide_eq_true_eq] at hv ⊢
      exact ⟨hv.1, cmpK_le_trans hv.2 h2⟩
  rw [← h1, cnt_all]
theorem cnt_first {fr tt : List Nat} {en : Bool} {C : List (List Ent)} (hc : Cuts C) (hr : Rise C.flatten) (hm : ∀ e ∈ C.flatten, e.may = true) {n : Nat} (h : Cut ((pls C).map lastE) ⟨fr, 2147483647, 0, []⟩ n) : cnt fr tt en C.flatten (offK C n) = 0 := by
  rw [← cnt_zero fr tt en C.flatten]
  refine cnt_skip (Nat.zero_le _) fun k e _ hk he => has_below ?_
  rcases n with _ | n
  · rw [offK_zero] at hk; omega
  obtain ⟨y', hy'⟩ : ∃ y, ((pls C).map lastE)[n]? = some y := ⟨_, List.getElem?_eq_getElem (by have := h.le; omega)⟩
  obtain ⟨f, k1, k2, _, k3⟩ := pls_lastE hc hm hy'
  have hlo := h.lo n y' (by omega) hy'
  rw [(k3 _).1] at hlo
  have h2 := cut_lo hr k1 hlo k e (by omega) he
  obtain ⟨_, _, _, m4, _⟩ := mayN_iff.1 (hm e (List.mem_of_getElem? he))
  unfold cmpE at h2
  unfold belowK
  rw [decide_eq_true_eq]
  split at h2
  · rename_i h0
    unfold cmpS at h2
    dsimp only at h0 h2
    rw [if_neg (by omega)] at h2
    split at h2 <;> omega
  · exact h2
theorem cut_below {key : List Nat} {q : List Ent} {i : Nat} {e : Ent} (h : q[i]? = some e) (hi : i < cutOf (belowK key) q) : belowK key e = true := by
  have h1 := List.takeWhile_prefix (p := belowK key) (l := q)
  obtain ⟨t, ht⟩ := h1
  have h2 : (q.takeWhile (belowK key))[i]? = some e := by
    rw [← ht] at h
    rwa [List.getElem?_append_left hi] at h
  exact List.all_eq_true.1 (List.all_takeWhile (p := belowK key) (l := q)) e (List.mem_of_getElem? h2)
theorem cut_above {key : List Nat} {q : List Ent} (hr : Rise q) {i : Nat} {e : Ent} (h : q[i]? = some e) (hi : cutOf (belowK key) q ≤ i) : belowK key e = false := by
  have hlt := (List.getElem?_eq_some_iff.1 h).1
  have hc : cutOf (belowK key) q < q.length := by omega
  obtain ⟨f, hf⟩ : ∃ f, q[cutOf (belowK key) q]? = some f := ⟨_, List.getElem?_eq_getElem hc⟩
  have h1 : belowK key f = false := by
    have h2 := List.takeWhile_append_dropWhile (p := belowK key) (l := q)
    have h3 : (q.dropWhile (belowK key))[0]? = some f := by
      have h5 : (q.takeWhile (belowK key) ++ q.dropWhile (belowK key))[cutOf (belowK key) q]? = some f := by rw [h2]; exact hf
      unfold cutOf at h5
      rw [List.getElem?_append_right (Nat.le_refl _)] at h5
      simpa using h5
    cases hd : q.dropWhile (belowK key) with
    | nil => rw [hd] at h3; cases h3
    | cons a l =>
      rw [hd] at h3
      injection h3 with h3
      have h4 := List.head?_dropWhile_not (belowK key) q
      rw [hd] at h4
      simp at h4
      rw [← h3]; simpa using h4
  rcases Nat.eq_or_lt_of_le hi with h2 | h2
  · rw [← h2, hf] at h; injection h with h; subst h; exact h1
  · have h3 := cmpE_keys (rise_at hr h2 hf h)
    unfold belowK at h1 ⊢
    rw [decide_eq_false_iff_not] at h1 ⊢
    intro h4
    exact h1 (cmpK_trans_lt h3 h4)
theorem block_rise {C : List (List Ent)} (hr : Rise C.flatten) {n : Nat} {q : List Ent} (hq : C[n]? = some q) : Rise q := by
  intro j a b ha hb
  have h1 := (List.getElem?_eq_some_iff.1 ha).1
  have h2 := (List.getElem?_eq_some_iff.1 hb).1
  refine hr (offK C n + j) a b ?_ ?_
  · rw [flat_at hq h1]; exact ha
  · rw [Nat.add_assoc, flat_at hq h2]; exact hb
theorem cnt_block {fr tt : List Nat} {en : Bool} {C : List (List Ent)} {n : Nat} {q : List Ent} (hq : C[n]? = some q) : cnt fr tt en C.flatten (offK C n + cutOf (belowK fr) q) = cnt fr tt en C.flatten (offK C n) := by
  refine cnt_skip (Nat.le_add_right _ _) fun k e h1 h2 he => has_below ?_
  obtain ⟨d, rfl⟩ : ∃ d, k = offK C n + d := ⟨k - offK C n, by omega⟩
  have hl := cutOf_le (belowK fr) q
  rw [flat_at hq (by omega)] at he
  exact cut_below he (by omega)
end Go.Proofs.YthhgjeeangepaaaGreat
