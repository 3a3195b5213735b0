import Derived.Test.YthhgjeeangepaaaGreatMv4
import Derived.Test.YthhgjeeangepaaaGreatMv6
import Derived.Test.YthhgjeeangepaaaGreatMv7
import Derived.Test.YthhgjeeangepaaaGreatMv16
import Derived.Test.YthhgjeeangepaaaGreatMv12
import Derived.Test.YthhgjeeangepaaaGreatMv0
namespace Go.Proofs.YthhgjeeangepaaaGreat
open Go.ChangeShapes Go.WideShapes Go.ChangeAt Go.RowKit
set_option maxRecDepth 100000 in
set_option maxHeartbeats 4000000 in
theorem rshared_any {w : World} {lo hi lo2 hi2 : Nat} {u v : Value} {a b : List Nat} (hu : Bs w lo hi u a) (hv : Bs w lo2 hi2 v b) (hhi : hi ≤ w.heap.size) (hhi2 : hi2 ≤ w.heap.size) (ha : a.length ≤ 1000000000000) (hb : b.length ≤ 1000000000000) :
    Calls Tryz.prog 86 #[u, v] w fun e w' => e = .returned (.int .i64 (shr a b : Int)) ∧ Ext w w' := by
  obtain ⟨A, c, rfl, _, _, _, hA⟩ := hu
  obtain ⟨B, c2, rfl, _, _, _, hB⟩ := hv
  have HA := Lib.hid hA
  have HB := Lib.hid hB
  have HH := Lib.hid (And.intro hhi hhi2)
  have HL := Lib.hid (And.intro ha hb)
  clear hA hB hhi hhi2 ha hb
  go_enter Tryz.func86, Tryz.ntmps86
  go_wp2_with fail
  go_loopw [5] (fun x wr => ∃ n : Nat, n ≤ a.length ∧ n ≤ b.length ∧ x = .int .i64 (n : Int) ∧ Hid (a.take n = b.take n) ∧ Hid (Ext w wr)) (fun x _ => a.length - (intOf x).toNat)
  case atStart => exact ⟨0, Nat.zero_le _, Nat.zero_le _, rfl, rfl, Ext.refl _⟩
  case round =>
    obtain ⟨n, hn1, hn2, rfl, HT, HX⟩ := hrel
    have HN := Lib.hid (And.intro hn1 hn2)
    clear hn1 hn2
    by_cases h1 : n < a.length
    · have dA : decide ((n : Int) < (a.length : Int)) = true := by rw [decide_eq_true_eq]; exact Int.ofNat_lt.2 h1
      have dAn : decide (n < a.length) = true := by rw [decide_eq_true_eq]; exact h1
      by_cases h2 : n < b.length
      · have dB : decide ((n : Int) < (b.length : Int)) = true := by rw [decide_eq_true_eq]; exact Int.ofNat_lt.2 h2
        have dBn : decide (n < b.length) = true := by rw [decide_eq_true_eq]; exact h2
        obtain ⟨ab, ao, rfl, _, _, ca⟩ := (show By wr _ _ _ _ from Sl.below HA.out HX.out HH.out.1).at_ h1
        obtain ⟨bb, bo, rfl, _, _, cb⟩ := (show By wr _ _ _ _ from Sl.below HB.out HX.out HH.out.2).at_ h2
        obtain ⟨x, hx⟩ : ∃ x, x = a[n] := ⟨_, rfl⟩
        obtain ⟨y, hy⟩ : ∃ y, y = b[n] := ⟨_, rfl⟩
        rw [← hx] at ca
        rw [← hy] at cb
        have n1 : (0 : Int) ≤ (n : Int) := by omega
        have n2 : (n : Int) < (a.length : Int) := by omega
        have n3 : (n : Int) < (b.length : Int) := by omega
        have HXY : Hid (a[n]? = some x ∧ b[n]? = some y) := ⟨by rw [hx]; exact List.getElem?_eq_getElem h1, by rw [hy]; exact List.getElem?_eq_getElem h2⟩
        have H12 := Lib.hid (And.intro h1 h2)
        clear hx hy h1 h2
        by_cases hxy : x = y
        · have dxy : ((x : Int) == (y : Int)) = true := by simp [hxy]
          have HE := Lib.hid hxy
          clear hxy
          go_upto_region 2 with (fail)
          refine flow (by kernel_rfl) [Is (.int .i64 (n : Int)), Is (.slice (some ⟨ab, ao, none⟩) a.length c), Is (.int .i64 (a.length : Int)), Is (.bool true), Is (.bool true), Is (.int .i64 (n : Int)), Is (.slice (some ⟨bb, bo, none⟩) b.length c2), Is (.int .i64 (b.length : Int)), Is (.bool true), Is (.bool true), Is (.bool true), Is (.slice (some ⟨ab, ao, none⟩) a.length c), Is (.int .i64 (n : Int)), Is (.pointer (some ⟨ab, ao + n, none⟩)), Is (.int .u8 (x : Int)), Is (.slice (some ⟨bb, bo, none⟩) b.length c2), Is (.int .i64 (n : Int)), Is (.pointer (some ⟨bb, bo + n, none⟩)), Is (.int .u8 (y : Int)), Is (.bool true), Is (.bool true)] (by kernel_rfl) (by kernel_rfl) ?mono (fun f1 => ?obl) ?fin
          case mono =>
            simp only [List.forall_mem_cons, List.not_mem_nil, false_imp_iff, implies_true, and_true]
            exact ⟨.is _, .is _, .is _, .is _, .is _, .is _, .is _, .is _, .is _, .is _, .is _, .is _, .is _, .is _, .is _, .is _, .is _, .is _, .is _, .is _, .is _⟩
          case fin =>
            intro g1 u hu hg
            simp only [puts, Act.put, zq1, zq2, zq3]
            have hxu := Ext.trans (Ext.drew wr) hu
            have HXU : Hid (Ext w u) := Ext.trans HX.out hxu
            have e20 : g1 20 = .bool true := hg 20 (by decide)
            rw [e20]
            clear hxu hu hg e20
            go_wp2_with fail
            go_roundw
            case rel =>
              have h1 := H12.out.1
              have h2 := H12.out.2
              exact ⟨n + 1, by omega, by omega, by rw [wrap_succ (Nat.lt_of_lt_of_le H12.out.1 HL.out.1)], shr_go HT.out h1 h2 (by have p := HXY.out.1; have q := HXY.out.2; rw [List.getElem?_eq_getElem h1] at p; rw [List.getElem?_eq_getElem h2] at q; injection p with p; injection q with q; rw [p, q]; exact HE.out), HXU⟩
            case measure => have := H12.out; rw [wrap_succ (Nat.lt_of_lt_of_le H12.out.1 HL.out.1)]; simp [intOf]; omega
          case obl =>
            refine ⟨fun u hu hd => ?_, ?_⟩
            · go_simp
              exact ⟨Ext.refl _, rfl⟩
            refine ⟨fun u hu hd => ?_, ?_⟩
            · simp only [Act.put, zq1, zq2, zq3]
              go_simp
              exact ⟨Ext.refl _, rfl⟩
            refine ⟨fun u hu hd => ?_, ?_⟩
            · simp only [Act.put, zq1, zq2, zq3]
              have e1 : f1 1 = .slice (some ⟨ab, ao, none⟩) a.length c := hd 1 (by kernel_rfl)
              go_simp
              exact ⟨Ext.refl _, rfl⟩
            refine ⟨fun u hu hd => ?_, ?_⟩
            · simp only [Act.put, zq1, zq2, zq3]
              have e0 : f1 0 = .int .i64 (n : Int) := hd 0 (by kernel_rfl)
              have e2 : f1 2 = .int .i64 (a.length : Int) := hd 2 (by kernel_rfl)
              go_simp
              exact ⟨Ext.refl _, rfl⟩
            refine ⟨fun u hu hd => ?_, ?_⟩
            · simp only [Act.put, zq1, zq2, zq3]
              have e3 : f1 3 = .bool true := hd 3 (by kernel_rfl)
              go_simp
              exact ⟨Ext.refl _, rfl⟩
            refine ⟨fun u hu hd => ?_, ?_⟩
            · simp only [Act.put, zq1, zq2, zq3]
              have e4 : f1 4 = .bool true := hd 4 (by kernel_rfl)
              go_simp
              exact ⟨Ext.refl _, rfl⟩
            refine ⟨fun u hu hd => ?_, ?_⟩
            · simp only [Act.put, zq1, zq2, zq3]
              have e4 : f1 4 = .bool true := hd 4 (by kernel_rfl)
              go_simp
              exact ⟨Ext.refl _, rfl⟩
            refine ⟨fun u hu hd => ?_, ?_⟩
            · simp only [Act.put, zq1, zq2, zq3]
              have e4 : f1 4 = .bool true := hd 4 (by kernel_rfl)
              have e6 : f1 6 = .slice (some ⟨bb, bo, none⟩) b.length c2 := hd 6 (by kernel_rfl)
              go_simp
              exact ⟨Ext.refl _, rfl⟩
            refine ⟨fun u hu hd => ?_, ?_⟩
            · simp only [Act.put, zq1, zq2, zq3]
              have e4 : f1 4 = .bool true := hd 4 (by kernel_rfl)
              have e5 : f1 5 = .int .i64 (n : Int) := hd 5 (by kernel_rfl)
              have e7 : f1 7 = .int .i64 (b.length : Int) := hd 7 (by kernel_rfl)
              go_simp
              exact ⟨Ext.refl _, rfl⟩
            refine ⟨fun u hu hd => ?_, ?_⟩
            · simp only [Act.put, zq1, zq2, zq3]
              have e4 : f1 4 = .bool true := hd 4 (by kernel_rfl)
              have e8 : f1 8 = .bool true := hd 8 (by kernel_rfl)
              go_simp
              exact ⟨Ext.refl _, rfl⟩
            refine ⟨fun u hu hd => ?_, ?_⟩
            · simp only [Act.put, zq1, zq2, zq3]
              have e9 : f1 9 = .bool true := hd 9 (by kernel_rfl)
              go_simp
              exact ⟨Ext.refl _, rfl⟩
            refine ⟨fun u hu hd => ?_, ?_⟩
            · simp only [Act.put, zq1, zq2, zq3]
              have e10 : f1 10 = .bool true := hd 10 (by kernel_rfl)
              go_simp
              exact ⟨Ext.refl _, rfl⟩
            refine ⟨fun u hu hd => ?_, ?_⟩
            · simp only [Act.put, zq1, zq2, zq3]
              have e10 : f1 10 = .bool true := hd 10 (by kernel_rfl)
              go_simp
              exact ⟨Ext.refl _, rfl⟩
            refine ⟨fun u hu hd => ?_, ?_⟩
            · simp only [Act.put, zq1, zq2, zq3]
              have e10 : f1 10 = .bool true := hd 10 (by kernel_rfl)
              have e11 : f1 11 = .slice (some ⟨ab, ao, none⟩) a.length c := hd 11 (by kernel_rfl)
              have e12 : f1 12 = .int .i64 (n : Int) := hd 12 (by kernel_rfl)
              go_simp
              exact ⟨Ext.refl _, rfl⟩
            refine ⟨fun u hu hd => ?_, ?_⟩
            · simp only [Act.put, zq1, zq2, zq3]
              have e10 : f1 10 = .bool true := hd 10 (by kernel_rfl)
              have e13 : f1 13 = .pointer (some ⟨ab, ao + n, none⟩) := hd 13 (by kernel_rfl)
              have hu2 := Ext.trans (Ext.drew wr) hu
              have q0 := ext_cell hu2 ca
              go_simp
              exact ⟨Ext.refl _, rfl⟩
            refine ⟨fun u hu hd => ?_, ?_⟩
            · simp only [Act.put, zq1, zq2, zq3]
              have e10 : f1 10 = .bool true := hd 10 (by kernel_rfl)
              go_simp
              exact ⟨Ext.refl _, rfl⟩
            refine ⟨fun u hu hd => ?_, ?_⟩
            · simp only [Act.put, zq1, zq2, zq3]
              have e10 : f1 10 = .bool true := hd 10 (by kernel_rfl)
              go_simp
              exact ⟨Ext.refl _, rfl⟩
            refine ⟨fun u hu hd => ?_, ?_⟩
            · simp only [Act.put, zq1, zq2, zq3]
              have e10 : f1 10 = .bool true := hd 10 (by kernel_rfl)
              have e15 : f1 15 = .slice (some ⟨bb, bo, none⟩) b.length c2 := hd 15 (by kernel_rfl)
              have e16 : f1 16 = .int .i64 (n : Int) := hd 16 (by kernel_rfl)
              go_simp
              exact ⟨Ext.refl _, rfl⟩
            refine ⟨fun u hu hd => ?_, ?_⟩
            · simp only [Act.put, zq1, zq2, zq3]
              have e10 : f1 10 = .bool true := hd 10 (by kernel_rfl)
              have e17 : f1 17 = .pointer (some ⟨bb, bo + n, none⟩) := hd 17 (by kernel_rfl)
              have hu2 := Ext.trans (Ext.drew wr) hu
              have q0 := ext_cell hu2 cb
              go_simp
              exact ⟨Ext.refl _, rfl⟩
            refine ⟨fun u hu hd => ?_, ?_⟩
            · simp only [Act.put, zq1, zq2, zq3]
              have e10 : f1 10 = .bool true := hd 10 (by kernel_rfl)
              have e14 : f1 14 = .int .u8 (x : Int) := hd 14 (by kernel_rfl)
              have e18 : f1 18 = .int .u8 (y : Int) := hd 18 (by kernel_rfl)
              go_simp
              exact ⟨Ext.refl _, rfl⟩
            refine ⟨fun u hu hd => ?_, ?_⟩
            · simp only [Act.put, zq1, zq2, zq3]
              have e10 : f1 10 = .bool true := hd 10 (by kernel_rfl)
              have e19 : f1 19 = .bool true := hd 19 (by kernel_rfl)
              go_simp
              exact ⟨Ext.refl _, rfl⟩
            trivial
        · have dxy : ((x : Int) == (y : Int)) = false := by simp; omega
          have HE := Lib.hid hxy
          clear hxy
          go_upto_region 2 with (fail)
          refine flow (by kernel_rfl) [Is (.int .i64 (n : Int)), Is (.slice (some ⟨ab, ao, none⟩) a.length c), Is (.int .i64 (a.length : Int)), Is (.bool true), Is (.bool true), Is (.int .i64 (n : Int)), Is (.slice (some ⟨bb, bo, none⟩) b.length c2), Is (.int .i64 (b.length : Int)), Is (.bool true), Is (.bool true), Is (.bool true), Is (.slice (some ⟨ab, ao, none⟩) a.length c), Is (.int .i64 (n : Int)), Is (.pointer (some ⟨ab, ao + n, none⟩)), Is (.int .u8 (x : Int)), Is (.slice (some ⟨bb, bo, none⟩) b.length c2), Is (.int .i64 (n : Int)), Is (.pointer (some ⟨bb, bo + n, none⟩)), Is (.int .u8 (y : Int)), Is (.bool false), Is (.bool false)] (by kernel_rfl) (by kernel_rfl) ?mono (fun f1 => ?obl) ?fin
          case mono =>
            simp only [List.forall_mem_cons, List.not_mem_nil, false_imp_iff, implies_true, and_true]
            exact ⟨.is _, .is _, .is _, .is _, .is _, .is _, .is _, .is _, .is _, .is _, .is _, .is _, .is _, .is _, .is _, .is _, .is _, .is _, .is _, .is _, .is _⟩
          case fin =>
            intro g1 u hu hg
            simp only [puts, Act.put, zq1, zq2, zq3]
            have hxu := Ext.trans (Ext.drew wr) hu
            have HXU : Hid (Ext w u) := Ext.trans HX.out hxu
            have e20 : g1 20 = .bool false := hg 20 (by decide)
            rw [e20]
            clear hxu hu hg e20
            go_wp2_with fail
            go_ret
            have hs : shr a b = n := shr_is HN.out.1 HN.out.2 HT.out (fun p q hp hq => by
              rw [HXY.out.1] at hp
              rw [HXY.out.2] at hq
              injection hp with hp; injection hq with hq
              rw [← hp, ← hq]; exact HE.out)
            rw [hs]
            exact ⟨rfl, HXU.out⟩
          case obl =>
            refine ⟨fun u hu hd => ?_, ?_⟩
            · go_simp
              exact ⟨Ext.refl _, rfl⟩
            refine ⟨fun u hu hd => ?_, ?_⟩
            · simp only [Act.put, zq1, zq2, zq3]
              go_simp
              exact ⟨Ext.refl _, rfl⟩
            refine ⟨fun u hu hd => ?_, ?_⟩
            · simp only [Act.put, zq1, zq2, zq3]
              have e1 : f1 1 = .slice (some ⟨ab, ao, none⟩) a.length c := hd 1 (by kernel_rfl)
              go_simp
              exact ⟨Ext.refl _, rfl⟩
            refine ⟨fun u hu hd => ?_, ?_⟩
            · simp only [Act.put, zq1, zq2, zq3]
              have e0 : f1 0 = .int .i64 (n : Int) := hd 0 (by kernel_rfl)
              have e2 : f1 2 = .int .i64 (a.length : Int) := hd 2 (by kernel_rfl)
              go_simp
              exact ⟨Ext.refl _, rfl⟩
            refine ⟨fun u hu hd => ?_, ?_⟩
            · simp only [Act.put, zq1, zq2, zq3]
              have e3 : f1 3 = .bool true := hd 3 (by kernel_rfl)
              go_simp
              exact ⟨Ext.refl _, rfl⟩
            refine ⟨fun u hu hd => ?_, ?_⟩
            · simp only [Act.put, zq1, zq2, zq3]
              have e4 : f1 4 = .bool true := hd 4 (by kernel_rfl)
              go_simp
              exact ⟨Ext.refl _, rfl⟩
            refine ⟨fun u hu hd => ?_, ?_⟩
            · simp only [Act.put, zq1, zq2, zq3]
              have e4 : f1 4 = .bool true := hd 4 (by kernel_rfl)
              go_simp
              exact ⟨Ext.refl _, rfl⟩
            refine ⟨fun u hu hd => ?_, ?_⟩
            · simp only [Act.put, zq1, zq2, zq3]
              have e4 : f1 4 = .bool true := hd 4 (by kernel_rfl)
              have e6 : f1 6 = .slice (some ⟨bb, bo, none⟩) b.length c2 := hd 6 (by kernel_rfl)
              go_simp
              exact ⟨Ext.refl _, rfl⟩
            refine ⟨fun u hu hd => ?_, ?_⟩
            · simp only [Act.put, zq1, zq2, zq3]
              have e4 : f1 4 = .bool true := hd 4 (by kernel_rfl)
              have e5 : f1 5 = .int .i64 (n : Int) := hd 5 (by kernel_rfl)
              have e7 : f1 7 = .int .i64 (b.length : Int) := hd 7 (by kernel_rfl)
              go_simp
              exact ⟨Ext.refl _, rfl⟩
            refine ⟨fun u hu hd => ?_, ?_⟩
            · simp only [Act.put, zq1, zq2, zq3]
              have e4 : f1 4 = .bool true := hd 4 (by kernel_rfl)
              have e8 : f1 8 = .bool true := hd 8 (by kernel_rfl)
              go_simp
              exact ⟨Ext.refl _, rfl⟩
            refine ⟨fun u hu hd => ?_, ?_⟩
            · simp only [Act.put, zq1, zq2, zq3]
              have e9 : f1 9 = .bool true := hd 9 (by kernel_rfl)
              go_simp
              exact ⟨Ext.refl _, rfl⟩
            refine ⟨fun u hu hd => ?_, ?_⟩
            · simp only [Act.put, zq1, zq2, zq3]
              have e10 : f1 10 = .bool true := hd 10 (by kernel_rfl)
              go_simp
              exact ⟨Ext.refl _, rfl⟩
            refine ⟨fun u hu hd => ?_, ?_⟩
            · simp only [Act.put, zq1, zq2, zq3]
              have e10 : f1 10 = .bool true := hd 10 (by kernel_rfl)
              go_simp
              exact ⟨Ext.refl _, rfl⟩
            refine ⟨fun u hu hd => ?_, ?_⟩
            · simp only [Act.put, zq1, zq2, zq3]
              have e10 : f1 10 = .bool true := hd 10 (by kernel_rfl)
              have e11 : f1 11 = .slice (some ⟨ab, ao, none⟩) a.length c := hd 11 (by kernel_rfl)
              have e12 : f1 12 = .int .i64 (n : Int) := hd 12 (by kernel_rfl)
              go_simp
              exact ⟨Ext.refl _, rfl⟩
            refine ⟨fun u hu hd => ?_, ?_⟩
            · simp only [Act.put, zq1, zq2, zq3]
              have e10 : f1 10 = .bool true := hd 10 (by kernel_rfl)
              have e13 : f1 13 = .pointer (some ⟨ab, ao + n, none⟩) := hd 13 (by kernel_rfl)
              have hu2 := Ext.trans (Ext.drew wr) hu
              have q0 := ext_cell hu2 ca
              go_simp
              exact ⟨Ext.refl _, rfl⟩
            refine ⟨fun u hu hd => ?_, ?_⟩
            · simp only [Act.put, zq1, zq2, zq3]
              have e10 : f1 10 = .bool true := hd 10 (by kernel_rfl)
              go_simp
              exact ⟨Ext.refl _, rfl⟩
            refine ⟨fun u hu hd => ?_, ?_⟩
            · simp only [Act.put, zq1, zq2, zq3]
              have e10 : f1 10 = .bool true := hd 10 (by kernel_rfl)
              go_simp
              exact ⟨Ext.refl _, rfl⟩
            refine ⟨fun u hu hd => ?_, ?_⟩
            · simp only [Act.put, zq1, zq2, zq3]
              have e10 : f1 10 = .bool true := hd 10 (by kernel_rfl)
              have e15 : f1 15 = .slice (some ⟨bb, bo, none⟩) b.length c2 := hd 15 (by kernel_rfl)
              have e16 : f1 16 = .int .i64 (n : Int) := hd 16 (by kernel_rfl)
              go_simp
              exact ⟨Ext.refl _, rfl⟩
            refine ⟨fun u hu hd => ?_, ?_⟩
            · simp only [Act.put, zq1, zq2, zq3]
              have e10 : f1 10 = .bool true := hd 10 (by kernel_rfl)
              have e17 : f1 17 = .pointer (some ⟨bb, bo + n, none⟩) := hd 17 (by kernel_rfl)
              have hu2 := Ext.trans (Ext.drew wr) hu
              have q0 := ext_cell hu2 cb
              go_simp
              exact ⟨Ext.refl _, rfl⟩
            refine ⟨fun u hu hd => ?_, ?_⟩
            · simp only [Act.put, zq1, zq2, zq3]
              have e10 : f1 10 = .bool true := hd 10 (by kernel_rfl)
              have e14 : f1 14 = .int .u8 (x : Int) := hd 14 (by kernel_rfl)
              have e18 : f1 18 = .int .u8 (y : Int) := hd 18 (by kernel_rfl)
              go_simp
              exact ⟨Ext.refl _, rfl⟩
            refine ⟨fun u hu hd => ?_, ?_⟩
            · simp only [Act.put, zq1, zq2, zq3]
              have e10 : f1 10 = .bool true := hd 10 (by kernel_rfl)
              have e19 : f1 19 = .bool false := hd 19 (by kernel_rfl)
              go_simp
              exact ⟨Ext.refl _, rfl⟩
            trivial
      · have dB : decide ((n : Int) < (b.length : Int)) = false := by rw [decide_eq_false_iff_not]; exact fun h => h2 (Int.ofNat_lt.1 h)
        have dBn : decide (n < b.length) = false := by rw [decide_eq_false_iff_not]; exact h2
        have H2 := Lib.hid h2
        clear h1 h2
        go_upto_region 2 with (fail)
        refine flow (by kernel_rfl) [Is (.int .i64 (n : Int)), Is (.slice A a.length c), Is (.int .i64 (a.length : Int)), Is (.bool true), Is (.bool true), Is (.int .i64 (n : Int)), Is (.slice B b.length c2), Is (.int .i64 (b.length : Int)), Is (.bool false), Is (.bool false), Is (.bool false), Is undef, Is undef, Is undef, Is undef, Is undef, Is undef, Is undef, Is undef, Is undef, Is (.bool false)] (by kernel_rfl) (by kernel_rfl) ?mono (fun f1 => ?obl) ?fin
        case mono =>
          simp only [List.forall_mem_cons, List.not_mem_nil, false_imp_iff, implies_true, and_true]
          exact ⟨.is _, .is _, .is _, .is _, .is _, .is _, .is _, .is _, .is _, .is _, .is _, .is _, .is _, .is _, .is _, .is _, .is _, .is _, .is _, .is _, .is _⟩
        case fin =>
          intro g1 u hu hg
          simp only [puts, Act.put, zq1, zq2, zq3]
          have hxu := Ext.trans (Ext.drew wr) hu
          have HXU : Hid (Ext w u) := Ext.trans HX.out hxu
          have e20 : g1 20 = .bool false := hg 20 (by decide)
          rw [e20]
          clear hxu hu hg e20
          go_wp2_with fail
          go_ret
          have hs : shr a b = n := shr_is HN.out.1 HN.out.2 HT.out (fun p q hp hq => by
            have h1 := (List.getElem?_eq_some_iff.1 hp).1
            have h2 := (List.getElem?_eq_some_iff.1 hq).1
            exact absurd h2 H2.out)
          rw [hs]
          exact ⟨rfl, HXU.out⟩
        case obl =>
          refine ⟨fun u hu hd => ?_, ?_⟩
          · go_simp
            exact ⟨Ext.refl _, rfl⟩
          refine ⟨fun u hu hd => ?_, ?_⟩
          · simp only [Act.put, zq1, zq2, zq3]
            go_simp
            exact ⟨Ext.refl _, rfl⟩
          refine ⟨fun u hu hd => ?_, ?_⟩
          · simp only [Act.put, zq1, zq2, zq3]
            have e1 : f1 1 = .slice A a.length c := hd 1 (by kernel_rfl)
            go_simp
            exact ⟨Ext.refl _, rfl⟩
          refine ⟨fun u hu hd => ?_, ?_⟩
          · simp only [Act.put, zq1, zq2, zq3]
            have e0 : f1 0 = .int .i64 (n : Int) := hd 0 (by kernel_rfl)
            have e2 : f1 2 = .int .i64 (a.length : Int) := hd 2 (by kernel_rfl)
            go_simp
            exact ⟨Ext.refl _, rfl⟩
          refine ⟨fun u hu hd => ?_, ?_⟩
          · simp only [Act.put, zq1, zq2, zq3]
            have e3 : f1 3 = .bool true := hd 3 (by kernel_rfl)
            go_simp
            exact ⟨Ext.refl _, rfl⟩
          refine ⟨fun u hu hd => ?_, ?_⟩
          · simp only [Act.put, zq1, zq2, zq3]
            have e4 : f1 4 = .bool true := hd 4 (by kernel_rfl)
            go_simp
            exact ⟨Ext.refl _, rfl⟩
          refine ⟨fun u hu hd => ?_, ?_⟩
          · simp only [Act.put, zq1, zq2, zq3]
            have e4 : f1 4 = .bool true := hd 4 (by kernel_rfl)
            go_simp
            exact ⟨Ext.refl _, rfl⟩
          refine ⟨fun u hu hd => ?_, ?_⟩
          · simp only [Act.put, zq1, zq2, zq3]
            have e4 : f1 4 = .bool true := hd 4 (by kernel_rfl)
            have e6 : f1 6 = .slice B b.length c2 := hd 6 (by kernel_rfl)
            go_simp
            exact ⟨Ext.refl _, rfl⟩
          refine ⟨fun u hu hd => ?_, ?_⟩
          · simp only [Act.put, zq1, zq2, zq3]
            have e4 : f1 4 = .bool true := hd 4 (by kernel_rfl)
            have e5 : f1 5 = .int .i64 (n : Int) := hd 5 (by kernel_rfl)
            have e7 : f1 7 = .int .i64 (b.length : Int) := hd 7 (by kernel_rfl)
            go_simp
            exact ⟨Ext.refl _, rfl⟩
          refine ⟨fun u hu hd => ?_, ?_⟩
          · simp only [Act.put, zq1, zq2, zq3]
            have e4 : f1 4 = .bool true := hd 4 (by kernel_rfl)
            have e8 : f1 8 = .bool false := hd 8 (by kernel_rfl)
            go_simp
            exact ⟨Ext.refl _, rfl⟩
          refine ⟨fun u hu hd => ?_, ?_⟩
          · simp only [Act.put, zq1, zq2, zq3]
            have e9 : f1 9 = .bool false := hd 9 (by kernel_rfl)
            go_simp
            exact ⟨Ext.refl _, rfl⟩
          refine ⟨fun u hu hd => ?_, ?_⟩
          · simp only [Act.put, zq1, zq2, zq3]
            have e10 : f1 10 = .bool false := hd 10 (by kernel_rfl)
            go_simp
            rfl
          refine ⟨fun u hu hd => ?_, ?_⟩
          · simp only [Act.put, zq1, zq2, zq3]
            have e10 : f1 10 = .bool false := hd 10 (by kernel_rfl)
            go_simp
            rfl
          refine ⟨fun u hu hd => ?_, ?_⟩
          · simp only [Act.put, zq1, zq2, zq3]
            have e10 : f1 10 = .bool false := hd 10 (by kernel_rfl)
            go_simp
            rfl
          refine ⟨fun u hu hd => ?_, ?_⟩
          · simp only [Act.put, zq1, zq2, zq3]
            have e10 : f1 10 = .bool false := hd 10 (by kernel_rfl)
            go_simp
            rfl
          refine ⟨fun u hu hd => ?_, ?_⟩
          · simp only [Act.put, zq1, zq2, zq3]
            have e10 : f1 10 = .bool false := hd 10 (by kernel_rfl)
            go_simp
            rfl
          refine ⟨fun u hu hd => ?_, ?_⟩
          · simp only [Act.put, zq1, zq2, zq3]
            have e10 : f1 10 = .bool false := hd 10 (by kernel_rfl)
            go_simp
            rfl
          refine ⟨fun u hu hd => ?_, ?_⟩
          · simp only [Act.put, zq1, zq2, zq3]
            have e10 : f1 10 = .bool false := hd 10 (by kernel_rfl)
            go_simp
            rfl
          refine ⟨fun u hu hd => ?_, ?_⟩
          · simp only [Act.put, zq1, zq2, zq3]
            have e10 : f1 10 = .bool false := hd 10 (by kernel_rfl)
            go_simp
            rfl
          refine ⟨fun u hu hd => ?_, ?_⟩
          · simp only [Act.put, zq1, zq2, zq3]
            have e10 : f1 10 = .bool false := hd 10 (by kernel_rfl)
            go_simp
            rfl
          refine ⟨fun u hu hd => ?_, ?_⟩
          · simp only [Act.put, zq1, zq2, zq3]
            have e10 : f1 10 = .bool false := hd 10 (by kernel_rfl)
            go_simp
            exact ⟨Ext.refl _, rfl⟩
          trivial
    · have dA : decide ((n : Int) < (a.length : Int)) = false := by rw [decide_eq_false_iff_not]; exact fun h => h1 (Int.ofNat_lt.1 h)
      have dAn : decide (n < a.length) = false := by rw [decide_eq_false_iff_not]; exact h1
      have H1 := Lib.hid h1
      clear h1
      go_upto_region 2 with (fail)
      refine flow (by kernel_rfl) [Is (.int .i64 (n : Int)), Is (.slice A a.length c), Is (.int .i64 (a.length : Int)), Is (.bool false), Is (.bool false), Is undef, Is undef, Is undef, Is undef, Is (.bool false), Is (.bool false), Is undef, Is undef, Is undef, Is undef, Is undef, Is undef, Is undef, Is undef, Is undef, Is (.bool false)] (by kernel_rfl) (by kernel_rfl) ?mono (fun f1 => ?obl) ?fin
      case mono =>
        simp only [List.forall_mem_cons, List.not_mem_nil, false_imp_iff, implies_true, and_true]
        exact ⟨.is _, .is _, .is _, .is _, .is _, .is _, .is _, .is _, .is _, .is _, .is _, .is _, .is _, .is _, .is _, .is _, .is _, .is _, .is _, .is _, .is _⟩
      case fin =>
        intro g1 u hu hg
        simp only [puts, Act.put, zq1, zq2, zq3]
        have hxu := Ext.trans (Ext.drew wr) hu
        have HXU : Hid (Ext w u) := Ext.trans HX.out hxu
        have e20 : g1 20 = .bool false := hg 20 (by decide)
        rw [e20]
        clear hxu hu hg e20
        go_wp2_with fail
        go_ret
        have hs : shr a b = n := shr_is HN.out.1 HN.out.2 HT.out (fun p q hp hq => by
          have h1 := (List.getElem?_eq_some_iff.1 hp).1
          have h2 := (List.getElem?_eq_some_iff.1 hq).1
          exact absurd h1 H1.out)
        rw [hs]
        exact ⟨rfl, HXU.out⟩
      case obl =>
        refine ⟨fun u hu hd => ?_, ?_⟩
        · go_simp
          exact ⟨Ext.refl _, rfl⟩
        refine ⟨fun u hu hd => ?_, ?_⟩
        · simp only [Act.put, zq1, zq2, zq3]
          go_simp
          exact ⟨Ext.refl _, rfl⟩
        refine ⟨fun u hu hd => ?_, ?_⟩
        · simp only [Act.put, zq1, zq2, zq3]
          have e1 : f1 1 = .slice A a.length c := hd 1 (by kernel_rfl)
          go_simp
          exact ⟨Ext.refl _, rfl⟩
        refine ⟨fun u hu hd => ?_, ?_⟩
        · simp only [Act.put, zq1, zq2, zq3]
          have e0 : f1 0 = .int .i64 (n : Int) := hd 0 (by kernel_rfl)
          have e2 : f1 2 = .int .i64 (a.length : Int) := hd 2 (by kernel_rfl)
          go_simp
          exact ⟨Ext.refl _, rfl⟩
        refine ⟨fun u hu hd => ?_, ?_⟩
        · simp only [Act.put, zq1, zq2, zq3]
          have e3 : f1 3 = .bool false := hd 3 (by kernel_rfl)
          go_simp
          exact ⟨Ext.refl _, rfl⟩
        refine ⟨fun u hu hd => ?_, ?_⟩
        · simp only [Act.put, zq1, zq2, zq3]
          have e4 : f1 4 = .bool false := hd 4 (by kernel_rfl)
          go_simp
          rfl
        refine ⟨fun u hu hd => ?_, ?_⟩
        · simp only [Act.put, zq1, zq2, zq3]
          have e4 : f1 4 = .bool false := hd 4 (by kernel_rfl)
          go_simp
          rfl
        refine ⟨fun u hu hd => ?_, ?_⟩
        · simp only [Act.put, zq1, zq2, zq3]
          have e4 : f1 4 = .bool false := hd 4 (by kernel_rfl)
          go_simp
          rfl
        refine ⟨fun u hu hd => ?_, ?_⟩
        · simp only [Act.put, zq1, zq2, zq3]
          have e4 : f1 4 = .bool false := hd 4 (by kernel_rfl)
          go_simp
          rfl
        refine ⟨fun u hu hd => ?_, ?_⟩
        · simp only [Act.put, zq1, zq2, zq3]
          have e4 : f1 4 = .bool false := hd 4 (by kernel_rfl)
          go_simp
          exact ⟨Ext.refl _, rfl⟩
        refine ⟨fun u hu hd => ?_, ?_⟩
        · simp only [Act.put, zq1, zq2, zq3]
          have e9 : f1 9 = .bool false := hd 9 (by kernel_rfl)
          go_simp
          exact ⟨Ext.refl _, rfl⟩
        refine ⟨fun u hu hd => ?_, ?_⟩
        · simp only [Act.put, zq1, zq2, zq3]
          have e10 : f1 10 = .bool false := hd 10 (by kernel_rfl)
          go_simp
          rfl
        refine ⟨fun u hu hd => ?_, ?_⟩
        · simp only [Act.put, zq1, zq2, zq3]
          have e10 : f1 10 = .bool false := hd 10 (by kernel_rfl)
          go_simp
          rfl
        refine ⟨fun u hu hd => ?_, ?_⟩
        · simp only [Act.put, zq1, zq2, zq3]
          have e10 : f1 10 = .bool false := hd 10 (by kernel_rfl)
          go_simp
          rfl
        refine ⟨fun u hu hd => ?_, ?_⟩
        · simp only [Act.put, zq1, zq2, zq3]
          have e10 : f1 10 = .bool false := hd 10 (by kernel_rfl)
          go_simp
          rfl
        refine ⟨fun u hu hd => ?_, ?_⟩
        · simp only [Act.put, zq1, zq2, zq3]
          have e10 : f1 10 = .bool false := hd 10 (by kernel_rfl)
          go_simp
          rfl
        refine ⟨fun u hu hd => ?_, ?_⟩
        · simp only [Act.put, zq1, zq2, zq3]
          have e10 : f1 10 = .bool false := hd 10 (by kernel_rfl)
          go_simp
          rfl
        refine ⟨fun u hu hd => ?_, ?_⟩
        · simp only [Act.put, zq1, zq2, zq3]
          have e10 : f1 10 = .bool false := hd 10 (by kernel_rfl)
          go_simp
          rfl
        refine ⟨fun u hu hd => ?_, ?_⟩
        · simp only [Act.put, zq1, zq2, zq3]
          have e10 : f1 10 = .bool false := hd 10 (by kernel_rfl)
          go_simp
          rfl
        refine ⟨fun u hu hd => ?_, ?_⟩
        · simp only [Act.put, zq1, zq2, zq3]
          have e10 : f1 10 = .bool false := hd 10 (by kernel_rfl)
          go_simp
          rfl
        refine ⟨fun u hu hd => ?_, ?_⟩
        · simp only [Act.put, zq1, zq2, zq3]
          have e10 : f1 10 = .bool false := hd 10 (by kernel_rfl)
          go_simp
          exact ⟨Ext.refl _, rfl⟩
        trivial
theorem rword_any (x : Nat) (hx : x < 4294967296) (w : World) : Calls Tryz.prog 87 #[.int .i64 (x : Int)] w fun e w' => ∃ A c, e = .returned (.slice A 4 c) ∧ Bs w' w.heap.size w'.heap.size (.slice A 4 c) (be4 x) ∧ Ext w w' := by
  have HX := Lib.hid hx
  have HB := Lib.hid (bs_be4 w x)
  clear hx
  go_enter Tryz.func87, Tryz.ntmps87
  go_wp2_with fail
  refine bodyPost_ret (results_tmp rfl _ _ _) rfl ?_
  exact ⟨_, _, rfl, HB.out.wide (Nat.le_refl _) (by simp), ext_alloc _ _⟩
end Go.Proofs.YthhgjeeangepaaaGreat
namespace Go.Proofs.YthhgjeeangepaaaGreat
open Go.ChangeShapes Go.WideShapes Go.ChangeAt Go.RowKit
theorem rtword_any (x : Nat) (hx : x < 4294967296) (w : World) : Calls Tryz.prog 50 #[.int .u32 (x : Int)] w fun e w' => ∃ A c, e = .returned (.slice A 4 c) ∧ Bs w' w.heap.size w'.heap.size (.slice A 4 c) (be4 x) ∧ Ext w w' := by
  have HX := Lib.hid hx
  have HB := Lib.hid (bs_be4 w x)
  clear hx
  go_enter Tryz.func50, Tryz.ntmps50
  go_wp2_with fail
  refine bodyPost_ret (results_tmp rfl _ _ _) rfl ?_
  exact ⟨_, _, rfl, HB.out.wide (Nat.le_refl _) (by simp), ext_alloc _ _⟩
set_option maxRecDepth 100000 in
set_option maxHeartbeats 4000000 in
theorem rtmay_any {w : World} {lo hi c : Nat} {A : Option Addr} {L : List (Ent × Hd)} (h : Es w lo hi A L) (hhi : hi ≤ w.heap.size) (hlen : L.length ≤ 1000000) (hln : ∀ p ∈ L, p.1.key.length + p.1.val.length < 100000) :
    Calls Tryz.prog 14 #[.slice A L.length c] w fun x w' => ∃ z : Bool, (z = true ↔ MayT (L.map Prod.fst)) ∧ x = .returned (.bool z) ∧ Ext w w' := by
  have HMB : Hid (MayT (L.map Prod.fst) ↔ 1 ≤ L.length ∧ L.length ≤ 4096 ∧ Rise (L.map Prod.fst) ∧ (L.all fun p => p.1.may) = true) := by
    unfold MayT Hid
    rw [List.length_map, List.all_eq_true]
    refine ⟨fun ⟨h1, h2, h3, h4⟩ => ⟨h1, h2, h3, fun p hp => h4 _ (List.mem_map_of_mem hp)⟩, fun ⟨h1, h2, h3, h4⟩ => ⟨h1, h2, h3, fun e he => ?_⟩⟩
    obtain ⟨p, hp, rfl⟩ := List.mem_map.1 he
    exact h4 p hp
  have HR := Lib.hid (rrises_any (c := c) h hhi hlen hln)
  clear h hhi hlen hln
  obtain ⟨n, hn⟩ : ∃ n, n = L.length := ⟨_, rfl⟩
  rw [← hn] at HMB HR ⊢
  clear hn
  by_cases h1 : 1 ≤ n
  · have d1 : decide ((1 : Int) ≤ (n : Int)) = true := by rw [decide_eq_true_eq]; omega
    have d1n : decide (1 ≤ n) = true := by rw [decide_eq_true_eq]; exact h1
    by_cases h2 : n ≤ 4096
    · have d2 : decide ((n : Int) ≤ 4096) = true := by rw [decide_eq_true_eq]; omega
      have d2n : decide (n ≤ 4096) = true := by rw [decide_eq_true_eq]; exact h2
      have H12 := Lib.hid (And.intro h1 h2)
      clear h1 h2
      go_enter Tryz.func14, Tryz.ntmps14
      go_wp2_with fail
      refine HR.out.mono ?_
      rintro x w2 ⟨z, hz, rfl, hx⟩
      have HX := Lib.hid hx
      have HZ := Lib.hid hz
      clear hx hz
      go_wp2_with fail
      refine bodyPost_ret (results_tmp rfl _ _ _) rfl ?_
      exact ⟨z, ⟨fun h => HMB.out.2 ⟨H12.out.1, H12.out.2, HZ.out.1 h⟩, fun h => HZ.out.2 (HMB.out.1 h).2.2⟩, rfl, HX.out⟩
    · have d2 : decide ((n : Int) ≤ 4096) = false := by rw [decide_eq_false_iff_not]; omega
      have d2n : decide (n ≤ 4096) = false := by rw [decide_eq_false_iff_not]; exact h2
      have H2 := Lib.hid h2
      clear h1 h2
      go_enter Tryz.func14, Tryz.ntmps14
      go_wp2_with fail
      refine bodyPost_ret (results_tmp rfl _ _ _) rfl ?_
      exact ⟨false, ⟨fun h => (by cases h), fun h => absurd (HMB.out.1 h).2.1 H2.out⟩, rfl, Ext.refl _⟩
  · have d1 : decide ((1 : Int) ≤ (n : Int)) = false := by rw [decide_eq_false_iff_not]; omega
    have d1n : decide (1 ≤ n) = false := by rw [decide_eq_false_iff_not]; exact h1
    have H1 := Lib.hid h1
    clear h1
    go_enter Tryz.func14, Tryz.ntmps14
    go_wp2_with fail
    refine bodyPost_ret (results_tmp rfl _ _ _) rfl ?_
    exact ⟨false, ⟨fun h => (by cases h), fun h => absurd (HMB.out.1 h).1 H1.out⟩, rfl, Ext.refl _⟩
end Go.Proofs.YthhgjeeangepaaaGreat
namespace Go.Proofs.YthhgjeeangepaaaGreat
open Go.ChangeShapes Go.WideShapes Go.ChangeAt Go.RowKit
end Go.Proofs.YthhgjeeangepaaaGreat
namespace Go.Proofs.YthhgjeeangepaaaGreat
open Go.ChangeShapes Go.WideShapes Go.ChangeAt Go.RowKit
structure WSt (w : World) (T at_ : List Nat) (BA : Option Addr) (bc : Nat) (RA : Option Addr) (rc : Nat) (u : World) : Prop where
  b : Own w.heap.size T (.slice BA T.length bc) u
  r : OwnI w.heap.size at_ (.slice RA at_.length rc) u
  x : Ext w u
theorem WSt.ext {w u u' : World} {T at_ : List Nat} {BA RA : Option Addr} {bc rc : Nat} (h : WSt w T at_ BA bc RA rc u) (hx : Ext u u') : WSt w T at_ BA bc RA rc u' :=
  ⟨h.b.below hx, h.r.wall fun g hg => hx.block g (row_lt h.r g hg).2, Ext.trans h.x hx⟩
theorem wst_add {ops : Array Oper} {rest : List Oper} {o : Oper} {a : Act} {Q : Exit → Act → World → Prop} {u : World} (hgd : o.guard = none) (s x : Operand)
    (ho : o.op = .call { callee := .builtin .append, args := #[s, x], argTypes := #[26, 26] }) {w : World} {T at_ : List Nat} {BA RA : Option Addr} {bc rc : Nat} (hst : WSt w T at_ BA bc RA rc u) (hs : a.eval s = .slice BA T.length bc)
    (lo hi : Nat) (y : Value) (r : List Nat) (hx : a.eval x = y) (hy : Bs u lo hi y r) (hr : 0 < r.length) (hlen : T.length + r.length ≤ 1099511627776) (T' : List Nat) (hT : T' = T ++ r)
    (h : ∀ A' c' w', WSt w T' at_ A' c' RA rc w' → wpList Tryz.prog ops Q rest (a.put o.dst (.slice A' T'.length c')) w') :
    wpList Tryz.prog ops Q (o :: rest) a u := by
  subst hT
  refine wpList_addrow hgd s x ho w.heap.size _ T hs hst.b lo hi y r hx hy hr hlen hst.x.size fun A' c' w' hO hg => h A' c' w' ⟨hO, ?_, ?_⟩
  · exact hst.r.wall fun g hg' => hg.block g (row_lt hst.r g hg').2 (fun e => rows_apart hst.b hst.r (by decide) e.symm hg')
  · exact Below.grown hst.x hg hst.x.size (fun k hk => (row_lt hst.b k hk).1)
theorem wst_int {ops : Array Oper} {rest : List Oper} {o : Oper} {a : Act} {Q : Exit → Act → World → Prop} {u : World} (hgd : o.guard = none) (s x : Operand)
    (ho : o.op = .call { callee := .builtin .append, args := #[s, x], argTypes := #[84, 84] }) {w : World} {T at_ : List Nat} {BA RA : Option Addr} {bc rc : Nat} (hst : WSt w T at_ BA bc RA rc u) (hs : a.eval s = .slice RA at_.length rc)
    (n gb : Nat) (hx : a.eval x = .slice (some ⟨gb, 0, none⟩) 1 1) (hblk : u.heap[gb]? = some (.cells #[.int .i64 (n : Int)] 3 (0, 0))) (hlen : at_.length ≤ 1000000000000) (at2 : List Nat) (hT : at2 = at_ ++ [n])
    (h : ∀ A' c' w', WSt w T at2 BA bc A' c' w' → wpList Tryz.prog ops Q rest (a.put o.dst (.slice A' at2.length c')) w') :
    wpList Tryz.prog ops Q (o :: rest) a u := by
  subst hT
  refine wpList_pushint hgd s x ho w.heap.size _ at_ hs hst.r n gb hx hblk hlen hst.x.size fun A' c' w' hO hg => ?_
  have e : at_.length + 1 = (at_ ++ [n]).length := by simp
  rw [e] at hO ⊢
  refine h A' c' w' ⟨?_, hO, ?_⟩
  · exact hst.b.wall fun g hg' => hg.block g (row_lt hst.b g hg').2 (fun e => rows_apart hst.r hst.b (by decide) e.symm hg')
  · exact Below.grown hst.x hg hst.x.size (fun k hk => (row_lt hst.r k hk).1)
theorem NewBy.out {w : World} {l : List Nat} {e : Ending} {w' : World} (h : NewBy w l e w') : ∃ A c, e = .returned (.slice A l.length c) ∧ Bs w' 0 w'.heap.size (.slice A l.length c) l ∧ Ext w w' := by
  obtain ⟨v, rfl, ho, hb⟩ := h
  have ho' : Own w.heap.size l v w' := ho
  obtain ⟨A, c, rfl⟩ := ho'.slice
  exact ⟨A, c, rfl, ho'.bs, hb⟩
theorem bytesForm_pos (l : List Nat) : 0 < (bytesForm l).length := by
  unfold bytesForm; rw [List.length_append]; have := form_pos l.length; omega
def RWriteAns (w : World) (Ls : List Ent) (x : Ending) (w' : World) : Prop :=
  ∃ A c RA rc, x = .returned (.tuple #[.slice A (wr Ls).length c, .slice RA (ats Ls Ls.length).length rc]) ∧ WSt w (wr Ls) (ats Ls Ls.length) A c RA rc w'
set_option maxRecDepth 100000 in
set_option maxHeartbeats 16000000 in
theorem rwrite_any {w : World} {lo hi c : Nat} {A : Option Addr} {L : List (Ent × Hd)} (h : Es w lo hi A L) (hhi : hi ≤ w.heap.size) (hm : MayB (L.map Prod.fst)) :
    Calls Tryz.prog 45 #[.slice A L.length c] w (RWriteAns w (L.map Prod.fst)) := by
  have HE := Lib.hid h
  have HHI := Lib.hid hhi
  have HM := Lib.hid hm
  have HLM : Hid (1 ≤ L.length ∧ L.length ≤ 1024) := by have h1 := hm.1; have h2 := hm.2.1; rw [List.length_map] at h1 h2; exact ⟨h1, h2⟩
  have HMM : Hid (∀ p ∈ L, p.1.may = true) := fun p hp => hm.2.2.2 _ (List.mem_map_of_mem hp)
  obtain ⟨Ls, hLs⟩ : ∃ Ls, Ls = L.map Prod.fst := ⟨_, rfl⟩
  have HLS := Lib.hid hLs
  have HLL : Hid (Ls.length = L.length) := by rw [hLs]; exact List.length_map ..
  rw [← hLs] at HM ⊢
  obtain ⟨b, o, rfl⟩ := h.base (by have := HLM.out; omega)
  clear h hhi hm hLs
  go_enter Tryz.func45, Tryz.ntmps45
  go_wp2_with fail
  go_loopw [4, 5, 6, 7] (fun bv rv iv_ _ wr => ∃ (i : Nat) (BA RA : Option Addr) (bc rc : Nat), i ≤ L.length ∧ iv_ = .int .i64 (i : Int) ∧ bv = .slice BA (upto Ls i).length bc ∧ rv = .slice RA (ats Ls i).length rc ∧ Hid (WSt w (upto Ls i) (ats Ls i) BA bc RA rc wr))
    (fun _ _ x _ _ => L.length - (intOf x).toNat)
  case atStart => exact ⟨0, none, none, 0, 0, Nat.zero_le _, rfl, rfl, rfl, World.ownsRow_nil _ _ _ _, OwnI.nil _ _, Ext.refl _⟩
  case round =>
    obtain ⟨i, BA, RA, bc, rc, hi, rfl, rfl, rfl, HST⟩ := hrel
    by_cases hlt : i < L.length
    · have d : decide ((i : Int) < (L.length : Int)) = true := by rw [decide_eq_true_eq]; exact Int.ofNat_lt.2 hlt
      have dn : decide (i < L.length) = true := by rw [decide_eq_true_eq]; exact hlt
      obtain ⟨p, hp⟩ : ∃ p, L[i]? = some p := ⟨_, List.getElem?_eq_getElem hlt⟩
      have HP := Lib.hid hp
      have HLT := Lib.hid hlt
      have hmay := HMM.out p (List.mem_of_getElem? hp)
      have HU := Lib.hid (Ent.may_u64 hmay)
      have HMAY := Lib.hid (mayN_iff.1 hmay)
      have HUL : Hid ((upto Ls i).length ≤ 70000000) := by
        have h1 := upto_le HM.out.2.2.2 i
        have := HLM.out
        unfold Hid; omega
      have HPI : Hid (pieceOf Ls i = kform (ahOf Ls i) p.1) := piece_at (by rw [HLS.out, List.getElem?_map, hp]; rfl)
      have n1 : (0 : Int) ≤ (i : Int) := Int.natCast_nonneg _
      have n2 : (i : Int) < (L.length : Int) := Int.ofNat_lt.2 hlt
      obtain ⟨qn, hqn, hqt⟩ : ∃ n : Nat, p.1.seq = (n : Int) ∧ p.1.seq.toNat = n := ⟨p.1.seq.toNat, by have := HMAY.out; omega, rfl⟩
      obtain ⟨kn, hkn, hkt⟩ : ∃ n : Nat, p.1.kind = (n : Int) ∧ p.1.kind.toNat = n := ⟨p.1.kind.toNat, by have := HMAY.out; omega, rfl⟩
      have HQN := Lib.hid hqn
      have HKN := Lib.hid hkn
      have HQT := Lib.hid hqt
      have HKT := Lib.hid hkt
      have HUQ : Hid (U64 qn) := by have := HU.out.2.1; rw [hqt] at this; exact this
      have HUK : Hid (U64 kn) := by have := HU.out.2.2.1; rw [hkt] at this; exact this
      clear hlt hi hp hmay hqn hkn hqt hkt
      obtain ⟨T0, hT0⟩ : ∃ T0, T0 = upto Ls i := ⟨_, rfl⟩
      obtain ⟨a0, ha0⟩ : ∃ a0, a0 = ats Ls i := ⟨_, rfl⟩
      have HT0 := Lib.hid hT0
      have HA0 := Lib.hid ha0
      rw [← hT0, ← ha0] at HST ⊢
      rw [← hT0] at HUL
      clear hT0 ha0
      by_cases h4 : i % 4 = 0
      · have d4n : ((i : Int) % 4 == 0) = true := by rw [beq_iff_eq]; omega
        have HSV : Hid (0 = shr (ahOf Ls i) p.1.key) := by unfold ahOf; rw [if_pos h4, shr_nil]; exact rfl
        obtain ⟨at2, hat2⟩ : ∃ at2, at2 = a0 ++ [T0.length] := ⟨_, rfl⟩
        have HAT1 := Lib.hid hat2
        have HAT2 : Hid (ats Ls (i + 1) = at2) := by rw [hat2, HA0.out, HT0.out]; exact ats_hit Ls h4
        have HAL : Hid (a0.length ≤ 2000) := by have h1 := ats_len Ls i; have := HLM.out; have := HLT.out; rw [HA0.out]; unfold Hid; omega
        clear h4 hat2
        go_upto_region 7 with (fail)
        go_wp2_with (at_builtin; refine wst_int rfl (.tmp 18) (.tmp 21) rfl (HST.out.ext (ext_alloc _ _)) rfl T0.length wr.heap.size rfl (heap_at _ _ rfl) (by have := HAL.out; omega) at2 HAT1.out ?_)
        intro R2 rc2 wr2 hst2
        have HST2 := Lib.hid hst2
        clear hst2 d4n
        have hs64 : U64 0 := ⟨by omega⟩
        have HS64 := Lib.hid hs64
        clear hs64
        have HFL : Hid ((form 0).length ≤ 10 ∧ (bytesForm (p.1.key.drop 0)).length ≤ 60 ∧ (form qn).length ≤ 10 ∧ (form kn).length ≤ 10 ∧ (bytesForm p.1.val).length ≤ 65600) := by
          have h1 := HMAY.out
          refine ⟨form_len64 HS64.out, ?_, form_len64 HUQ.out, form_len64 HUK.out, ?_⟩
          · have h2 := (bytesForm_len (l := p.1.key.drop 0) ⟨by rw [List.length_drop]; omega⟩).1
            rw [List.length_drop] at h2; omega
          · have h2 := (bytesForm_len HU.out.2.2.2).1; omega
        go_wp2_with fail
        refine (rnumber_any 0 HS64.out _).mono ?_
        intro x v2 hN
        obtain ⟨NA2, nc2, rfl, hbs, hx⟩ := hN.out
        have HBS2 := Lib.hid hbs
        have HSX2 := Lib.hid (HST2.out.ext hx)
        clear hN hbs hx
        obtain ⟨T2, hT2⟩ : ∃ T, T = T0 ++ form 0 := ⟨_, rfl⟩
        have HT2 := Lib.hid hT2
        have HTL2 : Hid (T2.length = T0.length + (form 0).length) := by rw [hT2]; exact List.length_append ..
        clear hT2
        go_wp2_with (at_builtin; refine wst_add rfl (.tmp 35) (.tmp 38) rfl HSX2.out rfl _ _ _ (form 0) rfl HBS2.out (form_pos _) (by have := HUL.out; have := HFL.out; omega) T2 HT2.out ?_)
        intro B2 c2x u2 hst
        have HST3 := Lib.hid hst
        clear hst
        obtain ⟨d0, d1, d2, d3⟩ := (HE.out.below HST3.out.x HHI.out).get HP.out
        obtain ⟨A2, hA2, hA2n, hrun⟩ := tail_run p.2.kA p.1.key.length p.2.kc 0 (Nat.zero_le _) (by obtain ⟨_, _, e1, h1, _⟩ := (HE.out.each p (List.mem_of_getElem? HP.out)).k; injection e1 with _ _ e3; rw [e3]; exact h1)
        have hrun' : ∀ w, (Instr.slice 26 (.slice p.2.kA p.1.key.length p.2.kc) (some (.int .i64 (0 : Int))) none none).run Tryz.prog w = .ok (.slice A2 (p.1.key.length - 0) (p.2.kc - 0)) w := hrun
        have HKB : Hid (∀ u, Ext w u → Bs u lo hi (.slice A2 (p.1.key.length - 0) (p.2.kc - 0)) (p.1.key.drop 0)) := fun u hu => by
          obtain ⟨A', c', e1, h1, h2, h3, h4⟩ := ((HE.out.below hu HHI.out).each p (List.mem_of_getElem? HP.out)).k
          injection e1 with e1 e2 e3
          subst e1 e3
          exact ⟨A2, _, by rw [List.length_drop], by rw [List.length_drop]; omega, by omega, fun h => by have := h3 (hA2n h); omega, hA2 p.1.key rfl _ _ _ h4⟩
        clear hA2 hA2n hrun
        go_wp2_with fail
        refine (rbytes_any _ lo hi (p.1.key.drop 0) _ (HKB.out _ HST3.out.x) (Nat.le_trans HHI.out HST3.out.x.size) (by have := HMAY.out; rw [List.length_drop]; omega)).mono ?_
        intro x v3 hN
        obtain ⟨NA3, nc3, rfl, hbs, hx⟩ := hN.out
        have HBS3 := Lib.hid hbs
        have HSX3 := Lib.hid (HST3.out.ext hx)
        clear hN hbs hx
        clear hrun' d0 d1 d2 d3
        obtain ⟨T3, hT3⟩ : ∃ T, T = T2 ++ bytesForm (p.1.key.drop 0) := ⟨_, rfl⟩
        have HT3 := Lib.hid hT3
        have HTL3 : Hid (T3.length = T2.length + (bytesForm (p.1.key.drop 0)).length) := by rw [hT3]; exact List.length_append ..
        clear hT3
        go_wp2_with (at_builtin; refine wst_add rfl (.tmp 40) (.tmp 48) rfl HSX3.out rfl _ _ _ (bytesForm (p.1.key.drop 0)) rfl HBS3.out (bytesForm_pos _) (by have := HUL.out; have := HFL.out; have := HTL2.out; omega) T3 HT3.out ?_)
        intro B3 c3x u3 hst
        have HST4 := Lib.hid hst
        clear hst
        obtain ⟨d0, d1, d2, d3⟩ := (HE.out.below HST4.out.x HHI.out).get HP.out
        rw [HQN.out] at d1
        have hq : IntKind.u64.wrap (qn : Int) = (qn : Int) := by have := HMAY.out; have := HQT.out; rw [IntKind.wrap_u64]; omega
        go_wp2_with fail
        refine (rnumber_any qn HUQ.out _).mono ?_
        intro x v4 hN
        obtain ⟨NA4, nc4, rfl, hbs, hx⟩ := hN.out
        have HBS4 := Lib.hid hbs
        have HSX4 := Lib.hid (HST4.out.ext hx)
        clear hN hbs hx
        clear hq d0 d1 d2 d3
        obtain ⟨T4, hT4⟩ : ∃ T, T = T3 ++ form qn := ⟨_, rfl⟩
        have HT4 := Lib.hid hT4
        have HTL4 : Hid (T4.length = T3.length + (form qn).length) := by rw [hT4]; exact List.length_append ..
        clear hT4
        go_wp2_with (at_builtin; refine wst_add rfl (.tmp 50) (.tmp 57) rfl HSX4.out rfl _ _ _ (form qn) rfl HBS4.out (form_pos _) (by have := HUL.out; have := HFL.out; have := HTL2.out; have := HTL3.out; omega) T4 HT4.out ?_)
        intro B4 c4x u4 hst
        have HST5 := Lib.hid hst
        clear hst
        obtain ⟨d0, d1, d2, d3⟩ := (HE.out.below HST5.out.x HHI.out).get HP.out
        rw [HKN.out] at d2
        have hq : IntKind.u64.wrap (kn : Int) = (kn : Int) := by have := HMAY.out; have := HKT.out; rw [IntKind.wrap_u64]; omega
        go_wp2_with fail
        refine (rnumber_any kn HUK.out _).mono ?_
        intro x v5 hN
        obtain ⟨NA5, nc5, rfl, hbs, hx⟩ := hN.out
        have HBS5 := Lib.hid hbs
        have HSX5 := Lib.hid (HST5.out.ext hx)
        clear hN hbs hx
        clear hq d0 d1 d2 d3
        obtain ⟨T5, hT5⟩ : ∃ T, T = T4 ++ form kn := ⟨_, rfl⟩
        have HT5 := Lib.hid hT5
        have HTL5 : Hid (T5.length = T4.length + (form kn).length) := by rw [hT5]; exact List.length_append ..
        clear hT5
        go_wp2_with (at_builtin; refine wst_add rfl (.tmp 59) (.tmp 66) rfl HSX5.out rfl _ _ _ (form kn) rfl HBS5.out (form_pos _) (by have := HUL.out; have := HFL.out; have := HTL2.out; have := HTL3.out; have := HTL4.out; omega) T5 HT5.out ?_)
        intro B5 c5x u5 hst
        have HST6 := Lib.hid hst
        clear hst
        obtain ⟨d0, d1, d2, d3⟩ := (HE.out.below HST6.out.x HHI.out).get HP.out
        have HKF : Hid (∀ V, V = (if p.1.kind = 1 then bytesForm p.1.val else []) → upto Ls (i + 1) = T5 ++ V) := fun V hV => by
          rw [upto_succ, HPI.out, HT5.out, HT4.out, HT3.out, HT2.out, HT0.out, hV]
          unfold kform
          rw [HQT.out, HKT.out]
          rw [← HSV.out]
          simp only [List.append_assoc]
        by_cases hk1 : p.1.kind = 1
        · have dk : (p.1.kind == 1) = true := by rw [hk1]; rfl
          have HK1 := Lib.hid hk1
          clear hk1
          go_wp2_with fail
          refine (rbytes_any _ lo hi p.1.val _ ((HE.out.below HST6.out.x HHI.out).each p (List.mem_of_getElem? HP.out)).v (Nat.le_trans HHI.out HST6.out.x.size) (by have := HMAY.out; omega)).mono ?_
          intro x v6 hN
          obtain ⟨NA6, nc6, rfl, hbs, hx⟩ := hN.out
          have HBS6 := Lib.hid hbs
          have HSX6 := Lib.hid (HST6.out.ext hx)
          clear hN hbs hx
          clear dk d0 d1 d2 d3
          obtain ⟨T6, hT6⟩ : ∃ T, T = T5 ++ bytesForm p.1.val := ⟨_, rfl⟩
          have HT6 := Lib.hid hT6
          have HTL6 : Hid (T6.length = T5.length + (bytesForm p.1.val).length) := by rw [hT6]; exact List.length_append ..
          clear hT6
          go_wp2_with (at_builtin; refine wst_add rfl (.tmp 74) (.tmp 80) rfl HSX6.out rfl _ _ _ (bytesForm p.1.val) rfl HBS6.out (bytesForm_pos _) (by have := HUL.out; have := HFL.out; have := HTL2.out; have := HTL3.out; have := HTL4.out; have := HTL5.out; omega) T6 HT6.out ?_)
          intro B6 c6x u6 hst
          have HST7 := Lib.hid hst
          clear hst
          go_wp2_with fail
          go_roundw
          case rel =>
            have e1 : upto Ls (i + 1) = T6 := by rw [HT6.out]; exact HKF.out _ (by rw [if_pos HK1.out])
            exact ⟨i + 1, _, _, _, _, HLT.out, by rw [wrap_succ (by have := HLT.out; have := HLM.out; omega)], by rw [e1], by rw [HAT2.out], by rw [e1, HAT2.out]; exact HST7⟩
          case measure =>
            rw [wrap_succ (by have := HLT.out; have := HLM.out; omega)]
            have := HLT.out
            simp [intOf]; omega
        · have dk : (p.1.kind == 1) = false := by simpa using hk1
          have HK1 := Lib.hid hk1
          clear hk1
          go_wp2_with fail
          go_roundw
          case rel =>
            have e1 : upto Ls (i + 1) = T5 := by have := HKF.out [] (by rw [if_neg HK1.out]); rw [List.append_nil] at this; exact this
            exact ⟨i + 1, _, _, _, _, HLT.out, by rw [wrap_succ (by have := HLT.out; have := HLM.out; omega)], by rw [e1], by rw [HAT2.out], by rw [e1, HAT2.out]; exact HST6⟩
          case measure =>
            rw [wrap_succ (by have := HLT.out; have := HLM.out; omega)]
            have := HLT.out
            simp [intOf]; omega
      · have d4n : ((i : Int) % 4 == 0) = false := by rw [beq_eq_false_iff_ne]; omega
        obtain ⟨m, him⟩ : ∃ m, m + 1 = i := ⟨i - 1, by omega⟩
        have HIM := Lib.hid him
        obtain ⟨at2, hat2⟩ : ∃ at2, at2 = a0 := ⟨_, rfl⟩
        have HAT2 : Hid (ats Ls (i + 1) = at2) := by rw [hat2, HA0.out]; exact ats_miss Ls h4
        rw [← hat2] at HST ⊢
        have hml : m < L.length := by have := HLT.out; omega
        obtain ⟨q, hq⟩ : ∃ q, L[m]? = some q := ⟨_, List.getElem?_eq_getElem hml⟩
        have HQ := Lib.hid hq
        obtain ⟨s, hs⟩ : ∃ s, s = shr q.1.key p.1.key := ⟨_, rfl⟩
        have HSV : Hid (s = shr (ahOf Ls i) p.1.key) := by
          have e : ahOf Ls i = q.1.key := by
            unfold ahOf
            rw [if_neg h4, HLS.out, List.getElem?_map]
            have e2 : i - 1 = m := by omega
            rw [e2, hq]; rfl
          rw [e]; exact hs
        have HSL : Hid (s ≤ p.1.key.length ∧ s ≤ 32) := by have h1 := shr_le_r q.1.key p.1.key; have := HMAY.out; rw [← hs] at h1; exact ⟨h1, by omega⟩
        have HSH : Hid (∀ u, Ext wr u → Calls Tryz.prog 86 #[.slice q.2.kA q.1.key.length q.2.kc, .slice p.2.kA p.1.key.length p.2.kc] u fun e w' => e = .returned (.int .i64 (s : Int)) ∧ Ext u w') := fun u hu => by
          have hE := HE.out.below (Ext.trans HST.out.x hu) HHI.out
          have hle := Nat.le_trans HHI.out (Ext.trans HST.out.x hu).size
          have := HMAY.out
          have h2 := mayN_iff.1 (HMM.out q (List.mem_of_getElem? HQ.out))
          rw [hs]
          exact rshared_any (hE.each q (List.mem_of_getElem? HQ.out)).k (hE.each p (List.mem_of_getElem? HP.out)).k hle hle (by omega) (by omega)
        obtain ⟨c0, c1, c2, c3⟩ := (HE.out.below HST.out.x HHI.out).get hq
        obtain ⟨d0, d1, d2, d3⟩ := (HE.out.below HST.out.x HHI.out).get HP.out
        have hw : IntKind.i64.wrap ((i : Int) - 1) = (m : Int) := by have := HLT.out; have := HLM.out; rw [IntKind.wrap_i64]; omega
        have HW := Lib.hid hw
        have m1 : (0 : Int) ≤ (m : Int) := Int.natCast_nonneg _
        have m2 : (m : Int) < (L.length : Int) := Int.ofNat_lt.2 hml
        clear h4 hat2 him hml hq hs hw
        go_upto_region 9 with (fail)
        refine flow (by kernel_rfl) [Is (.slice (some ⟨b, o, none⟩) L.length c), Is (.int .i64 (i : Int)), Is (.int .i64 (m : Int)), Is (.pointer (some ⟨b, o + m * 4, none⟩)), Is (.pointer (some ⟨b, o + m * 4, none⟩)), Is (.slice q.2.kA q.1.key.length q.2.kc), Is (.slice (some ⟨b, o, none⟩) L.length c), Is (.int .i64 (i : Int)), Is (.pointer (some ⟨b, o + i * 4, none⟩)), Is (.pointer (some ⟨b, o + i * 4, none⟩)), Is (.slice p.2.kA p.1.key.length p.2.kc), Is (.int .i64 (s : Int)), Is (.int .i64 (s : Int))] (by kernel_rfl) (by kernel_rfl) ?mono (fun f1 => ?obl) ?fin
        case mono =>
          simp only [List.forall_mem_cons, List.not_mem_nil, false_imp_iff, implies_true, and_true]
          exact ⟨.is _, .is _, .is _, .is _, .is _, .is _, .is _, .is _, .is _, .is _, .is _, .is _, .is _⟩
        case fin =>
          intro g1 u hu hg
          simp only [puts, Act.put, zq1, zq2, zq3]
          have e11 : g1 11 = .int .i64 (s : Int) := hg 11 (by decide)
          have e12 : g1 12 = .int .i64 (s : Int) := hg 12 (by decide)
          rw [e12]
          have HST2 := Lib.hid (HST.out.ext (Ext.trans (Ext.drew wr) hu))
          clear hg hu e11 e12 c0 c1 c2 c3 d0 d1 d2 d3 d4n
          have hs64 : U64 s := ⟨by have := HSL.out; omega⟩
          have HS64 := Lib.hid hs64
          clear hs64
          have HFL : Hid ((form s).length ≤ 10 ∧ (bytesForm (p.1.key.drop s)).length ≤ 60 ∧ (form qn).length ≤ 10 ∧ (form kn).length ≤ 10 ∧ (bytesForm p.1.val).length ≤ 65600) := by
            have h1 := HMAY.out
            refine ⟨form_len64 HS64.out, ?_, form_len64 HUQ.out, form_len64 HUK.out, ?_⟩
            · have h2 := (bytesForm_len (l := p.1.key.drop s) ⟨by rw [List.length_drop]; omega⟩).1
              rw [List.length_drop] at h2; omega
            · have h2 := (bytesForm_len HU.out.2.2.2).1; omega
          have hqs : IntKind.u64.wrap (s : Int) = (s : Int) := by have := HSL.out; rw [IntKind.wrap_u64]; omega
          go_wp2_with fail
          refine (rnumber_any s HS64.out _).mono ?_
          intro x v2 hN
          obtain ⟨NA2, nc2, rfl, hbs, hx⟩ := hN.out
          have HBS2 := Lib.hid hbs
          have HSX2 := Lib.hid (HST2.out.ext hx)
          clear hN hbs hx
          clear hqs
          obtain ⟨T2, hT2⟩ : ∃ T, T = T0 ++ form s := ⟨_, rfl⟩
          have HT2 := Lib.hid hT2
          have HTL2 : Hid (T2.length = T0.length + (form s).length) := by rw [hT2]; exact List.length_append ..
          clear hT2
          go_wp2_with (at_builtin; refine wst_add rfl (.tmp 35) (.tmp 38) rfl HSX2.out rfl _ _ _ (form s) rfl HBS2.out (form_pos _) (by have := HUL.out; have := HFL.out; omega) T2 HT2.out ?_)
          intro B2 c2x u2 hst
          have HST3 := Lib.hid hst
          clear hst
          obtain ⟨d0, d1, d2, d3⟩ := (HE.out.below HST3.out.x HHI.out).get HP.out
          obtain ⟨A2, hA2, hA2n, hrun⟩ := tail_run p.2.kA p.1.key.length p.2.kc s HSL.out.1 (by obtain ⟨_, _, e1, h1, _⟩ := (HE.out.each p (List.mem_of_getElem? HP.out)).k; injection e1 with _ _ e3; rw [e3]; exact h1)
          have hrun' : ∀ w, (Instr.slice 26 (.slice p.2.kA p.1.key.length p.2.kc) (some (.int .i64 (s : Int))) none none).run Tryz.prog w = .ok (.slice A2 (p.1.key.length - s) (p.2.kc - s)) w := hrun
          have HKB : Hid (∀ u, Ext w u → Bs u lo hi (.slice A2 (p.1.key.length - s) (p.2.kc - s)) (p.1.key.drop s)) := fun u hu => by
            obtain ⟨A', c', e1, h1, h2, h3, h4⟩ := ((HE.out.below hu HHI.out).each p (List.mem_of_getElem? HP.out)).k
            injection e1 with e1 e2 e3
            subst e1 e3
            exact ⟨A2, _, by rw [List.length_drop], by rw [List.length_drop]; omega, by omega, fun h => by have := h3 (hA2n h); omega, hA2 p.1.key rfl _ _ _ h4⟩
          clear hA2 hA2n hrun
          go_wp2_with fail
          refine (rbytes_any _ lo hi (p.1.key.drop s) _ (HKB.out _ HST3.out.x) (Nat.le_trans HHI.out HST3.out.x.size) (by have := HMAY.out; rw [List.length_drop]; omega)).mono ?_
          intro x v3 hN
          obtain ⟨NA3, nc3, rfl, hbs, hx⟩ := hN.out
          have HBS3 := Lib.hid hbs
          have HSX3 := Lib.hid (HST3.out.ext hx)
          clear hN hbs hx
          clear hrun' d0 d1 d2 d3
          obtain ⟨T3, hT3⟩ : ∃ T, T = T2 ++ bytesForm (p.1.key.drop s) := ⟨_, rfl⟩
          have HT3 := Lib.hid hT3
          have HTL3 : Hid (T3.length = T2.length + (bytesForm (p.1.key.drop s)).length) := by rw [hT3]; exact List.length_append ..
          clear hT3
          go_wp2_with (at_builtin; refine wst_add rfl (.tmp 40) (.tmp 48) rfl HSX3.out rfl _ _ _ (bytesForm (p.1.key.drop s)) rfl HBS3.out (bytesForm_pos _) (by have := HUL.out; have := HFL.out; have := HTL2.out; omega) T3 HT3.out ?_)
          intro B3 c3x u3 hst
          have HST4 := Lib.hid hst
          clear hst
          obtain ⟨d0, d1, d2, d3⟩ := (HE.out.below HST4.out.x HHI.out).get HP.out
          rw [HQN.out] at d1
          have hq : IntKind.u64.wrap (qn : Int) = (qn : Int) := by have := HMAY.out; have := HQT.out; rw [IntKind.wrap_u64]; omega
          go_wp2_with fail
          refine (rnumber_any qn HUQ.out _).mono ?_
          intro x v4 hN
          obtain ⟨NA4, nc4, rfl, hbs, hx⟩ := hN.out
          have HBS4 := Lib.hid hbs
          have HSX4 := Lib.hid (HST4.out.ext hx)
          clear hN hbs hx
          clear hq d0 d1 d2 d3
          obtain ⟨T4, hT4⟩ : ∃ T, T = T3 ++ form qn := ⟨_, rfl⟩
          have HT4 := Lib.hid hT4
          have HTL4 : Hid (T4.length = T3.length + (form qn).length) := by rw [hT4]; exact List.length_append ..
          clear hT4
          go_wp2_with (at_builtin; refine wst_add rfl (.tmp 50) (.tmp 57) rfl HSX4.out rfl _ _ _ (form qn) rfl HBS4.out (form_pos _) (by have := HUL.out; have := HFL.out; have := HTL2.out; have := HTL3.out; omega) T4 HT4.out ?_)
          intro B4 c4x u4 hst
          have HST5 := Lib.hid hst
          clear hst
          obtain ⟨d0, d1, d2, d3⟩ := (HE.out.below HST5.out.x HHI.out).get HP.out
          rw [HKN.out] at d2
          have hq : IntKind.u64.wrap (kn : Int) = (kn : Int) := by have := HMAY.out; have := HKT.out; rw [IntKind.wrap_u64]; omega
          go_wp2_with fail
          refine (rnumber_any kn HUK.out _).mono ?_
          intro x v5 hN
          obtain ⟨NA5, nc5, rfl, hbs, hx⟩ := hN.out
          have HBS5 := Lib.hid hbs
          have HSX5 := Lib.hid (HST5.out.ext hx)
          clear hN hbs hx
          clear hq d0 d1 d2 d3
          obtain ⟨T5, hT5⟩ : ∃ T, T = T4 ++ form kn := ⟨_, rfl⟩
          have HT5 := Lib.hid hT5
          have HTL5 : Hid (T5.length = T4.length + (form kn).length) := by rw [hT5]; exact List.length_append ..
          clear hT5
          go_wp2_with (at_builtin; refine wst_add rfl (.tmp 59) (.tmp 66) rfl HSX5.out rfl _ _ _ (form kn) rfl HBS5.out (form_pos _) (by have := HUL.out; have := HFL.out; have := HTL2.out; have := HTL3.out; have := HTL4.out; omega) T5 HT5.out ?_)
          intro B5 c5x u5 hst
          have HST6 := Lib.hid hst
          clear hst
          obtain ⟨d0, d1, d2, d3⟩ := (HE.out.below HST6.out.x HHI.out).get HP.out
          have HKF : Hid (∀ V, V = (if p.1.kind = 1 then bytesForm p.1.val else []) → upto Ls (i + 1) = T5 ++ V) := fun V hV => by
            rw [upto_succ, HPI.out, HT5.out, HT4.out, HT3.out, HT2.out, HT0.out, hV]
            unfold kform
            rw [HQT.out, HKT.out]
            rw [← HSV.out]
            simp only [List.append_assoc]
          by_cases hk1 : p.1.kind = 1
          · have dk : (p.1.kind == 1) = true := by rw [hk1]; rfl
            have HK1 := Lib.hid hk1
            clear hk1
            go_wp2_with fail
            refine (rbytes_any _ lo hi p.1.val _ ((HE.out.below HST6.out.x HHI.out).each p (List.mem_of_getElem? HP.out)).v (Nat.le_trans HHI.out HST6.out.x.size) (by have := HMAY.out; omega)).mono ?_
            intro x v6 hN
            obtain ⟨NA6, nc6, rfl, hbs, hx⟩ := hN.out
            have HBS6 := Lib.hid hbs
            have HSX6 := Lib.hid (HST6.out.ext hx)
            clear hN hbs hx
            clear dk d0 d1 d2 d3
            obtain ⟨T6, hT6⟩ : ∃ T, T = T5 ++ bytesForm p.1.val := ⟨_, rfl⟩
            have HT6 := Lib.hid hT6
            have HTL6 : Hid (T6.length = T5.length + (bytesForm p.1.val).length) := by rw [hT6]; exact List.length_append ..
            clear hT6
            go_wp2_with (at_builtin; refine wst_add rfl (.tmp 74) (.tmp 80) rfl HSX6.out rfl _ _ _ (bytesForm p.1.val) rfl HBS6.out (bytesForm_pos _) (by have := HUL.out; have := HFL.out; have := HTL2.out; have := HTL3.out; have := HTL4.out; have := HTL5.out; omega) T6 HT6.out ?_)
            intro B6 c6x u6 hst
            have HST7 := Lib.hid hst
            clear hst
            go_wp2_with fail
            go_roundw
            case rel =>
              have e1 : upto Ls (i + 1) = T6 := by rw [HT6.out]; exact HKF.out _ (by rw [if_pos HK1.out])
              exact ⟨i + 1, _, _, _, _, HLT.out, by rw [wrap_succ (by have := HLT.out; have := HLM.out; omega)], by rw [e1], by rw [HAT2.out], by rw [e1, HAT2.out]; exact HST7⟩
            case measure =>
              rw [wrap_succ (by have := HLT.out; have := HLM.out; omega)]
              have := HLT.out
              simp [intOf]; omega
          · have dk : (p.1.kind == 1) = false := by simpa using hk1
            have HK1 := Lib.hid hk1
            clear hk1
            go_wp2_with fail
            go_roundw
            case rel =>
              have e1 : upto Ls (i + 1) = T5 := by have := HKF.out [] (by rw [if_neg HK1.out]); rw [List.append_nil] at this; exact this
              exact ⟨i + 1, _, _, _, _, HLT.out, by rw [wrap_succ (by have := HLT.out; have := HLM.out; omega)], by rw [e1], by rw [HAT2.out], by rw [e1, HAT2.out]; exact HST6⟩
            case measure =>
              rw [wrap_succ (by have := HLT.out; have := HLM.out; omega)]
              have := HLT.out
              simp [intOf]; omega
        case obl =>
          refine ⟨fun u hu hd => ?_, ?_⟩
          · go_simp
            exact ⟨Ext.refl _, rfl⟩
          refine ⟨fun u hu hd => ?_, ?_⟩
          · simp only [Act.put, zq1, zq2, zq3]
            go_simp
            exact ⟨Ext.refl _, rfl⟩
          refine ⟨fun u hu hd => ?_, ?_⟩
          · simp only [Act.put, zq1, zq2, zq3]
            have e1 : f1 1 = .int .i64 (i : Int) := hd 1 (by kernel_rfl)
            go_simp
            first | exact ⟨Ext.refl _, rfl⟩ | (rw [HW.out]; exact ⟨Ext.refl _, rfl⟩) | exact ⟨Ext.refl _, by rw [HW.out]⟩ | exact ⟨Ext.refl _, by rw [HW.out]; rfl⟩
          refine ⟨fun u hu hd => ?_, ?_⟩
          · simp only [Act.put, zq1, zq2, zq3]
            have e0 : f1 0 = .slice (some ⟨b, o, none⟩) L.length c := hd 0 (by kernel_rfl)
            have e2 : f1 2 = .int .i64 (m : Int) := hd 2 (by kernel_rfl)
            go_simp
            exact ⟨Ext.refl _, rfl⟩
          refine ⟨fun u hu hd => ?_, ?_⟩
          · simp only [Act.put, zq1, zq2, zq3]
            have e3 : f1 3 = .pointer (some ⟨b, o + m * 4, none⟩) := hd 3 (by kernel_rfl)
            go_simp
            exact ⟨Ext.refl _, rfl⟩
          refine ⟨fun u hu hd => ?_, ?_⟩
          · simp only [Act.put, zq1, zq2, zq3]
            have e4 : f1 4 = .pointer (some ⟨b, o + m * 4, none⟩) := hd 4 (by kernel_rfl)
            have hu2 := Ext.trans (Ext.drew wr) hu
            have q0 := ext_cell hu2 c0
            go_simp
            exact ⟨Ext.refl _, rfl⟩
          refine ⟨fun u hu hd => ?_, ?_⟩
          · simp only [Act.put, zq1, zq2, zq3]
            go_simp
            exact ⟨Ext.refl _, rfl⟩
          refine ⟨fun u hu hd => ?_, ?_⟩
          · simp only [Act.put, zq1, zq2, zq3]
            go_simp
            exact ⟨Ext.refl _, rfl⟩
          refine ⟨fun u hu hd => ?_, ?_⟩
          · simp only [Act.put, zq1, zq2, zq3]
            have e6 : f1 6 = .slice (some ⟨b, o, none⟩) L.length c := hd 6 (by kernel_rfl)
            have e7 : f1 7 = .int .i64 (i : Int) := hd 7 (by kernel_rfl)
            go_simp
            exact ⟨Ext.refl _, rfl⟩
          refine ⟨fun u hu hd => ?_, ?_⟩
          · simp only [Act.put, zq1, zq2, zq3]
            have e8 : f1 8 = .pointer (some ⟨b, o + i * 4, none⟩) := hd 8 (by kernel_rfl)
            go_simp
            exact ⟨Ext.refl _, rfl⟩
          refine ⟨fun u hu hd => ?_, ?_⟩
          · simp only [Act.put, zq1, zq2, zq3]
            have e9 : f1 9 = .pointer (some ⟨b, o + i * 4, none⟩) := hd 9 (by kernel_rfl)
            have hu2 := Ext.trans (Ext.drew wr) hu
            have q0 := ext_cell hu2 d0
            go_simp
            exact ⟨Ext.refl _, rfl⟩
          refine ⟨fun u hu hd => ?_, ?_⟩
          · simp only [Act.put, zq1, zq2, zq3]
            have e5 : f1 5 = .slice q.2.kA q.1.key.length q.2.kc := hd 5 (by kernel_rfl)
            have e10 : f1 10 = .slice p.2.kA p.1.key.length p.2.kc := hd 10 (by kernel_rfl)
            have hu2 := Ext.trans (Ext.drew wr) hu
            go_simp
            refine (HSH.out _ hu2).mono ?_
            rintro y w9 ⟨rfl, hx9⟩
            exact ⟨_, rfl, hx9, rfl⟩
          refine ⟨fun u hu hd => ?_, ?_⟩
          · simp only [Act.put, zq1, zq2, zq3]
            have e11 : f1 11 = .int .i64 (s : Int) := hd 11 (by kernel_rfl)
            go_simp
            exact ⟨Ext.refl _, rfl⟩
          trivial
    · have hir : i = L.length := by omega
      have d : decide ((i : Int) < (L.length : Int)) = false := by rw [decide_eq_false_iff_not]; exact fun h => hlt (Int.ofNat_lt.1 h)
      have dn : decide (i < L.length) = false := by rw [decide_eq_false_iff_not]; exact hlt
      have hil : i = Ls.length := by rw [HLL.out]; exact hir
      rw [hil] at HST ⊢
      obtain ⟨U, hU⟩ : ∃ U, U = upto Ls Ls.length := ⟨_, rfl⟩
      obtain ⟨R, hR⟩ : ∃ R, R = ats Ls Ls.length := ⟨_, rfl⟩
      have HLB : Hid (1 ≤ R.length ∧ R.length ≤ 1000 ∧ U.length ≤ 100000000) := by
        have h1 := ats_len Ls Ls.length
        have h2 := upto_le HM.out.2.2.2 Ls.length
        have h3 := HLL.out
        have h4 := HLM.out
        rw [hR, hU]
        unfold Hid; omega
      have HRB : Hid (∀ x ∈ R, x < 4294967296) := by rw [hR]; exact ats_lt HM.out.2.2.2 HM.out.2.1
      have HWR : Hid (_root_.Go.Proofs.YthhgjeeangepaaaGreat.wr Ls = U ++ (R.flatMap be4 ++ be4 R.length)) := by rw [hR, hU]; exact rfl
      have HRR := Lib.hid hR
      have hdn : i = L.length := hir
      unfold RWriteAns
      rw [← hU, ← hR] at HST ⊢
      rw [HWR.out]
      clear hU hR hlt hi hil
      have hii : (Ls.length : Int) = (L.length : Int) := by rw [HLL.out]
      obtain ⟨rb, rfl⟩ : ∃ rb, RA = some ⟨rb, 0, none⟩ := by
        rcases HST.out.r.2 with ⟨h1, _⟩ | ⟨g, cap, cur, hv, _⟩
        · injection h1 with _ h2 _; have := HLB.out; omega
        · injection hv with h1 _ _; exact ⟨g, h1⟩
      rw [hir] at d dn
      have d2 : decide (((Ls.length : Nat) : Int) < (L.length : Int)) = false := by rw [hii]; simp
      have d2n : decide (Ls.length < L.length) = false := by rw [HLL.out]; simp
      clear hir hdn d dn hii
      go_wp2_with fail
      go_loopw [4, 8] (fun v x wr2 => ∃ (k : Nat) (BA : Option Addr) (bc : Nat), k ≤ R.length ∧ x = .int .i64 (k : Int) ∧ v = .slice BA (U ++ (R.take k).flatMap be4).length bc ∧ Hid (WSt w (U ++ (R.take k).flatMap be4) R BA bc (some ⟨rb, 0, none⟩) rc wr2))
        (fun _ x _ => R.length - (intOf x).toNat)
      case atStart => exact ⟨0, BA, bc, Nat.zero_le _, rfl, by simp, by simpa using HST⟩
      case round =>
        obtain ⟨k, BA, bc, hk, rfl, rfl, HST⟩ := hrel
        obtain ⟨T, hT⟩ : ∃ T, T = U ++ (R.take k).flatMap be4 := ⟨_, rfl⟩
        have HT := Lib.hid hT
        rw [← hT] at HST ⊢
        clear hT
        by_cases hlt : k < R.length
        · have d : decide ((k : Int) < (R.length : Int)) = true := by rw [decide_eq_true_eq]; exact Int.ofNat_lt.2 hlt
          have dn : decide (k < R.length) = true := by rw [decide_eq_true_eq]; exact hlt
          have HLT := Lib.hid hlt
          have n1 : (0 : Int) ≤ (k : Int) := by omega
          have n2 : (k : Int) < (R.length : Int) := Int.ofNat_lt.2 hlt
          obtain ⟨x, hx⟩ : ∃ x, R[k]? = some x := ⟨_, List.getElem?_eq_getElem hlt⟩
          have HXI := Lib.hid hx
          have HX32 := Lib.hid (HRB.out x (List.mem_of_getElem? hx))
          have c0 := HST.out.r.cells (g := rb) rfl k (.int .i64 (x : Int)) (by rw [iv, List.getElem?_map, hx]; rfl)
          rw [addr_add, Nat.zero_add] at c0
          obtain ⟨T2, hT2⟩ : ∃ T2, T2 = T ++ be4 x := ⟨_, rfl⟩
          have HT2 := Lib.hid hT2
          have HT3 : Hid (T2 = U ++ (R.take (k + 1)).flatMap be4) := by
            rw [hT2, HT.out, List.take_succ_eq_append_getElem HLT.out, List.flatMap_append, List.append_assoc]
            have e : R[k]'HLT.out = x := by have h1 := HXI.out; rw [List.getElem?_eq_getElem HLT.out] at h1; injection h1
            rw [e]; simp [Hid]
          have HTL : Hid (T.length ≤ 200000000) := by
            have h1 := HLB.out.2
            have h3 := HLT.out
            rw [HT.out, List.length_append, flat4_len, List.length_take]
            unfold Hid; omega
          clear hlt hx hk hT2
          go_wp2_with fail
          refine (rword_any x HX32.out _).mono ?_
          rintro y v5 ⟨NA, nc, rfl, hbs, hx⟩
          have HBS := Lib.hid hbs
          have HSX := Lib.hid (HST.out.ext hx)
          clear hbs hx c0
          go_wp2_with (at_builtin; refine wst_add rfl (.tmp 88) (.tmp 93) rfl HSX.out rfl _ _ _ (be4 x) rfl HBS.out (by rw [be4_length]; omega) (by have := HTL.out; rw [be4_length]; omega) T2 HT2.out ?_)
          intro B6 c6 u6 hst
          have HST6 := Lib.hid hst
          clear hst
          go_wp2_with fail
          go_roundw
          case rel => exact ⟨k + 1, B6, c6, HLT.out, by rw [wrap_succ (by have := HLT.out; have := HLB.out; omega)], by rw [HT3.out], by rw [← HT3.out]; exact HST6⟩
          case measure =>
            rw [wrap_succ (by have := HLT.out; have := HLB.out; omega)]
            have := HLT.out
            simp [intOf]; omega
        · have hir : k = R.length := by omega
          have d : decide ((k : Int) < (R.length : Int)) = false := by rw [decide_eq_false_iff_not]; exact fun h => hlt (Int.ofNat_lt.1 h)
          have dn : decide (k < R.length) = false := by rw [decide_eq_false_iff_not]; exact hlt
          have HTF : Hid (T = U ++ R.flatMap be4) := by rw [HT.out, hir, List.take_length]; exact rfl
          obtain ⟨T2, hT2⟩ : ∃ T2, T2 = T ++ be4 R.length := ⟨_, rfl⟩
          have HT2 := Lib.hid hT2
          have HTE : Hid (U ++ (R.flatMap be4 ++ be4 R.length) = T2) := by rw [hT2, HTF.out, List.append_assoc]; exact rfl
          have HTL : Hid (T.length ≤ 200000000) := by
            have h1 := HLB.out.2
            rw [HTF.out, List.length_append, flat4_len]
            unfold Hid; omega
          clear hlt hk hir hT2
          go_wp2_with fail
          refine (rword_any R.length (by have := HLB.out; omega) _).mono ?_
          rintro y v5 ⟨NA, nc, rfl, hbs, hx⟩
          have HBS := Lib.hid hbs
          have HSX := Lib.hid (HST.out.ext hx)
          clear hbs hx
          go_wp2_with (at_builtin; refine wst_add rfl (.tmp 95) (.tmp 98) rfl HSX.out rfl _ _ _ (be4 R.length) rfl HBS.out (by rw [be4_length]; omega) (by have := HTL.out; rw [be4_length]; omega) T2 HT2.out ?_)
          intro B6 c6 u6 hst
          have HST6 := Lib.hid hst
          clear hst
          go_wp2_with fail
          refine bodyPost_ret (results_tmp2 rfl _ _ _) rfl ?_
          unfold RWriteAns
          rw [HWR.out, HTE.out, ← HRR.out]
          exact ⟨B6, c6, _, _, rfl, HST6.out⟩
end Go.Proofs.YthhgjeeangepaaaGreat
