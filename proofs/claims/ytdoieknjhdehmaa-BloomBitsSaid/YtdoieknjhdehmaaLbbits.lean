/- BloomBits: a key's bits are what the chapter says, for any key of at most 9000 bytes, any number of bits. -/
import Derived.Test.YtdoieknjhdehmaaBeq
namespace Go.Proofs.Ytdoieknjhdehmaa.bloomBits
open Go.ChangeShapes Go.WideShapes Go.ChangeAt Go.RowKit

set_option maxRecDepth 100000 in
set_option maxHeartbeats 8000000 in
theorem walk (w : World) (v : Value) (l : List Nat) (hl : ∀ b ∈ l, b < 256) (hv : Bs w 0 w.heap.size v l) (m : Int) (hm : (Lit.int .i64 m).wf = true) :
    Calls Try.prog 4 #[v, .int .i64 m] w fun e w' => e = .returned (.bool true) ∧ Below w.heap.size w w' := by
  obtain ⟨m1, m2⟩ := i64_wf hm
  have HV := Lib.hid hv
  have HL := Lib.hid hl
  have HB := Lib.hid (bits_any hv (Nat.le_refl _) hl m1 m2)
  obtain ⟨A, c, rfl, q1, q2, q3, _⟩ := hv
  have hll : (l.length : Int) ≤ 9223372036854775807 := by unfold maxLen at q2; omega
  clear q1 q2 q3 hl hm
  by_cases hbig : 9000 < l.length
  · have hd : decide ((9000 : Int) < (l.length : Int)) = true := by simp; omega
    have hd2 : decide (9000 < l.length) = true := by simp; omega
    clear hbig
    go_enter Try.func4, Try.ntmps4
    go_wp2_with fail
    refine (known_any w).mono ?_
    rintro e w3 ⟨rfl, hb⟩
    go_wp2_with fail
    go_ret
    exact ⟨rfl, hb⟩
  · have hd : decide ((9000 : Int) < (l.length : Int)) = false := by simp; omega
    have hd2 : decide (9000 < l.length) = false := by simp; omega
    have HLL := Lib.hid (show l.length ≤ 1000000 by omega)
    clear hbig
    obtain ⟨r, hr⟩ : ∃ r, r = bitsA l m := ⟨_, rfl⟩
    obtain ⟨n, hn⟩ : ∃ n, n = bitsN m := ⟨_, rfl⟩
    have HR5 : Hid (r.length = 5) := by rw [hr]; exact bitsA_length l m
    rw [← hr, ← hn] at HB
    have HR := Lib.hid hr
    have HN := Lib.hid hn
    clear hr hn
    go_enter Try.func4, Try.ntmps4
    go_wp2_with fail
    refine Calls.mono HB.out ?_
    rintro e w1 ⟨rfl, hx⟩
    have HX1 : Hid (Ext w w1) := hx
    have HZ5 := Lib.hid (zeros5 w1)
    clear hx
    go_upto_region 4 with (refine wpList_store_row rfl 26 (.tmp 5) (.tmp 15) rfl w1.heap.size (irow r) rfl rfl 26 _ HZ5.out (by rw [irow_size, HR5.out]; exact info5) (by simp [irow_size, HR5.out]) (irow_one _) ?_)
    obtain ⟨w4, hw4⟩ : ∃ w4, w4 = (w1.alloc (.cells #[.int .i64 0, .int .i64 0, .int .i64 0, .int .i64 0, .int .i64 0] 26)).setRow w1.heap.size (irow r) := ⟨_, rfl⟩
    have HA4 : Hid (IArr w4 w1.heap.size 26 r) := by rw [hw4]; exact HZ5.out.setRow _
    have HX4 : Hid (Ext w w4) := by rw [hw4]; exact below_row (Ext.trans HX1.out (ext_alloc _ _)) HX1.out.size _
    rw [← hw4]
    clear hw4 HZ5
    obtain ⟨g, hg⟩ : ∃ g, g = w1.heap.size := ⟨_, rfl⟩
    rw [← hg] at HA4 ⊢
    clear hg
    by_cases ha : m < 1 ∨ 1048576 < m
    · have HRZ : Hid (r = [0, 0, 0, 0, 0]) := by rw [HR.out]; exact if_pos ha
      have HN2 : Hid (n = 2) := by rw [HN.out]; exact if_pos ha
      obtain rfl : n = 2 := HN2.out
      rw [HRZ.out] at HA4
      by_cases hs : m < 1
      · have d : decide (m < 1) = true := decide_eq_true hs
        clear hs ha
        go_wp2_with (first | (refine wpList_load_row rfl 26 (.tmp 5) rfl g rfl 26 _ (0, 0) _ HA4.out Try.underlying26 rfl info5 ?_) | (refine wpList_eq5 rfl (.tmp 23) (.tmp 24) rfl [0, 0, 0, 0, 0] rfl rfl rfl ?_))
        refine (num_any _ _).mono ?_
        rintro e w5 ⟨rfl, rfl⟩
        go_wp2_with fail
        refine (known_any _).mono ?_
        rintro e w6 ⟨rfl, hb⟩
        go_wp2_with fail
        go_ret
        exact ⟨rfl, Ext.trans HX4.out hb⟩
      · have d : decide (m < 1) = false := decide_eq_false hs
        have d2 : decide (1048576 < m) = true := decide_eq_true (by omega)
        clear hs ha
        go_wp2_with (first | (refine wpList_load_row rfl 26 (.tmp 5) rfl g rfl 26 _ (0, 0) _ HA4.out Try.underlying26 rfl info5 ?_) | (refine wpList_eq5 rfl (.tmp 23) (.tmp 24) rfl [0, 0, 0, 0, 0] rfl rfl rfl ?_))
        refine (num_any _ _).mono ?_
        rintro e w5 ⟨rfl, rfl⟩
        go_wp2_with fail
        refine (known_any _).mono ?_
        rintro e w6 ⟨rfl, hb⟩
        go_wp2_with fail
        go_ret
        exact ⟨rfl, Ext.trans HX4.out hb⟩
    · have d : decide (m < 1) = false := decide_eq_false (by omega)
      have d2 : decide (1048576 < m) = false := decide_eq_false (by omega)
      have HRZ : Hid (r = kbs l m.toNat) := by rw [HR.out]; exact if_neg ha
      have HN2 : Hid (n = 0) := by rw [HN.out]; exact if_neg ha
      obtain rfl : n = 0 := HN2.out
      obtain ⟨k, hk⟩ : ∃ k : Nat, m = (k : Int) := ⟨m.toNat, by omega⟩
      subst hk
      have HRK : Hid (r = kbs l k) := HRZ.out
      have HP : Hid (∀ u, Ext w u → Calls Try.prog 15 #[.slice A l.length c, .int .i64 (k : Int)] u fun e w' => e = .returned (.agg (irow r)) ∧ Ext u w') := fun u hu => by
        rw [HRK.out]
        exact rbits_any _ 0 w.heap.size l k u (HV.out.below hu (Nat.le_refl _)) hu.size HL.out HLL.out (by omega) (by omega)
      obtain ⟨r0, r1, r2, r3, r4, hr⟩ := five_of HR5.out
      subst hr
      have hq := fun W => agg_eq (r0 : Int) (r1 : Int) (r2 : Int) (r3 : Int) (r4 : Int) W
      have HRW := Lib.hid (irow_five r0 r1 r2 r3 r4)
      rw [HRW.out] at HP ⊢
      have c0 := HA4.out.cell 0 (by simp)
      have c1 := HA4.out.cell 1 (by simp)
      have c2 := HA4.out.cell 2 (by simp)
      have c3 := HA4.out.cell 3 (by simp)
      have c4 := HA4.out.cell 4 (by simp)
      dsimp only [List.getElem_cons_zero, List.getElem_cons_succ] at c0 c1 c2 c3 c4
      clear ha
      go_upto_region 6 with (fail)
      refine flow (by kernel_rfl) [Is (.agg #[.int .i64 (r0 : Int), .int .i64 (r1 : Int), .int .i64 (r2 : Int), .int .i64 (r3 : Int), .int .i64 (r4 : Int)]), Is (.slice A l.length c), Is (.int .i64 (k : Int)), Is (.agg #[.int .i64 (r0 : Int), .int .i64 (r1 : Int), .int .i64 (r2 : Int), .int .i64 (r3 : Int), .int .i64 (r4 : Int)]), Is (.bool true), Is (.bool true), Is (.int .i64 0), Is (.int .i64 0), Is (.bool true), Is (.bool true), Is (.bool true), Is (.bool true), Is (.bool true), Is (.bool true)] (by kernel_rfl) (by kernel_rfl) ?mono (fun f1 => ?obl) ?fin
      case mono =>
        simp only [List.forall_mem_cons, List.not_mem_nil, false_imp_iff, implies_true, and_true]
        exact ⟨.is _, .is _, .is _, .is _, .is _, .is _, .is _, .is _, .is _, .is _, .is _, .is _, .is _, .is _⟩
      case fin =>
        intro g1 u hu hg
        simp only [puts, Act.put, List.setIfInBounds_toArray, List.set_cons_zero, List.set_cons_succ]
        have h13 : g1 13 = .bool true := hg 13 (by decide)
        rw [h13]
        have HXU : Hid (Ext w u) := Ext.trans HX4.out (Ext.trans (Ext.drew w4) hu)
        clear hg hu
        go_wp2_with fail
        go_ret
        exact ⟨rfl, HXU.out⟩
      case obl =>
        refine ⟨fun u hu hd => ?_, ?_⟩
        · have hu2 := Ext.trans (Ext.drew w4) hu
          have q0 := ext_cell hu2 c0
          have q1 := ext_cell hu2 c1
          have q2 := ext_cell hu2 c2
          have q3 := ext_cell hu2 c3
          have q4 := ext_cell hu2 c4
          go_simp
          exact ⟨Ext.refl _, rfl⟩
        refine ⟨fun u hu hd => ?_, ?_⟩
        · simp only [Act.put, List.setIfInBounds_toArray, List.set_cons_zero, List.set_cons_succ]
          go_simp
          exact ⟨Ext.refl _, rfl⟩
        refine ⟨fun u hu hd => ?_, ?_⟩
        · simp only [Act.put, List.setIfInBounds_toArray, List.set_cons_zero, List.set_cons_succ]
          go_simp
          exact ⟨Ext.refl _, rfl⟩
        refine ⟨fun u hu hd => ?_, ?_⟩
        · simp only [Act.put, List.setIfInBounds_toArray, List.set_cons_zero, List.set_cons_succ]
          have e1 : f1 1 = .slice A l.length c := hd 1 (by kernel_rfl)
          have e2 : f1 2 = .int .i64 (k : Int) := hd 2 (by kernel_rfl)
          have hu2 := Ext.trans (Ext.drew w4) hu
          go_simp
          refine (HP.out u (Ext.trans HX4.out hu2)).mono ?_
          rintro y w9 ⟨rfl, hy⟩
          exact ⟨_, rfl, hy, rfl⟩
        refine ⟨fun u hu hd => ?_, ?_⟩
        · simp only [Act.put, List.setIfInBounds_toArray, List.set_cons_zero, List.set_cons_succ]
          have e0 : f1 0 = .agg #[.int .i64 (r0 : Int), .int .i64 (r1 : Int), .int .i64 (r2 : Int), .int .i64 (r3 : Int), .int .i64 (r4 : Int)] := hd 0 (by kernel_rfl)
          have e3 : f1 3 = .agg #[.int .i64 (r0 : Int), .int .i64 (r1 : Int), .int .i64 (r2 : Int), .int .i64 (r3 : Int), .int .i64 (r4 : Int)] := hd 3 (by kernel_rfl)
          have q1 := hq u
          go_simp
          exact ⟨Ext.refl _, rfl⟩
        refine ⟨fun u hu hd => ?_, ?_⟩
        · simp only [Act.put, List.setIfInBounds_toArray, List.set_cons_zero, List.set_cons_succ]
          have e4 : f1 4 = .bool true := hd 4 (by kernel_rfl)
          go_simp
          exact ⟨Ext.refl _, rfl⟩
        refine ⟨fun u hu hd => ?_, ?_⟩
        · simp only [Act.put, List.setIfInBounds_toArray, List.set_cons_zero, List.set_cons_succ]
          have e5 : f1 5 = .bool true := hd 5 (by kernel_rfl)
          go_simp
          exact ⟨Ext.refl _, rfl⟩
        refine ⟨fun u hu hd => ?_, ?_⟩
        · simp only [Act.put, List.setIfInBounds_toArray, List.set_cons_zero, List.set_cons_succ]
          have e5 : f1 5 = .bool true := hd 5 (by kernel_rfl)
          have e6 : f1 6 = .int .i64 0 := hd 6 (by kernel_rfl)
          go_simp
          refine (num_any 0 u).mono ?_
          rintro y w9 ⟨rfl, rfl⟩
          exact ⟨_, rfl, Ext.refl _, rfl⟩
        refine ⟨fun u hu hd => ?_, ?_⟩
        · simp only [Act.put, List.setIfInBounds_toArray, List.set_cons_zero, List.set_cons_succ]
          have e5 : f1 5 = .bool true := hd 5 (by kernel_rfl)
          have e7 : f1 7 = .int .i64 0 := hd 7 (by kernel_rfl)
          go_simp
          exact ⟨Ext.refl _, rfl⟩
        refine ⟨fun u hu hd => ?_, ?_⟩
        · simp only [Act.put, List.setIfInBounds_toArray, List.set_cons_zero, List.set_cons_succ]
          have e5 : f1 5 = .bool true := hd 5 (by kernel_rfl)
          have e8 : f1 8 = .bool true := hd 8 (by kernel_rfl)
          go_simp
          exact ⟨Ext.refl _, rfl⟩
        refine ⟨fun u hu hd => ?_, ?_⟩
        · simp only [Act.put, List.setIfInBounds_toArray, List.set_cons_zero, List.set_cons_succ]
          have e9 : f1 9 = .bool true := hd 9 (by kernel_rfl)
          go_simp
          exact ⟨Ext.refl _, rfl⟩
        refine ⟨fun u hu hd => ?_, ?_⟩
        · simp only [Act.put, List.setIfInBounds_toArray, List.set_cons_zero, List.set_cons_succ]
          have e10 : f1 10 = .bool true := hd 10 (by kernel_rfl)
          go_simp
          refine (known_any u).mono ?_
          rintro y w9 ⟨rfl, hy⟩
          exact ⟨_, rfl, hy, rfl⟩
        refine ⟨fun u hu hd => ?_, ?_⟩
        · simp only [Act.put, List.setIfInBounds_toArray, List.set_cons_zero, List.set_cons_succ]
          have e10 : f1 10 = .bool true := hd 10 (by kernel_rfl)
          have e11 : f1 11 = .bool true := hd 11 (by kernel_rfl)
          go_simp
          exact ⟨Ext.refl _, rfl⟩
        refine ⟨fun u hu hd => ?_, ?_⟩
        · simp only [Act.put, List.setIfInBounds_toArray, List.set_cons_zero, List.set_cons_succ]
          have e12 : f1 12 = .bool true := hd 12 (by kernel_rfl)
          go_simp
          exact ⟨Ext.refl _, rfl⟩
        trivial
end Go.Proofs.Ytdoieknjhdehmaa.bloomBits

