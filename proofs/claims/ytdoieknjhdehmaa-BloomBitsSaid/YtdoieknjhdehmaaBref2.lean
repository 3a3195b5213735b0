/- The reference's May, Add, Make and Count. -/
import Derived.Test.YtdoieknjhdehmaaBref
namespace Go.Proofs.Ytdoieknjhdehmaa
open Go.ChangeShapes Go.WideShapes Go.ChangeAt Go.RowKit

theorem IArr.lt {w : World} {b : Nat} {t : TypeId} {l : List Nat} (h : IArr w b t l) : b < w.heap.size := (Array.getElem?_eq_some_iff.1 h).1
theorem setB_is {G : List Nat} {j q x M : Nat} (hq : q = j / 8) (hqn : q < G.length) (hx : x = G[q]) (hM : M = 2 ^ (j % 8)) (hx8 : x < 256) : (bitOf G j = true → setB G j = G) ∧ (bitOf G j = false → setB G j = G.set q (x + M) ∧ x + M < 256) := by
  subst hq hM
  have hb := bit_at hqn
  rw [← hx] at hb
  have hs := byte_set x hx8 (j % 8) (Nat.mod_lt _ (by decide))
  have hlt := byte_or x hx8 (j % 8) (Nat.mod_lt _ (by decide))
  have e : setB G j = G.set (j / 8) (x ||| 2 ^ (j % 8)) := by unfold setB; rw [List.getD_eq_getElem?_getD, List.getElem?_eq_getElem hqn, hx]; rfl
  constructor
  · intro h
    rw [hb, beq_iff_eq] at h
    rw [if_pos h] at hs
    rw [e, hs, hx, List.set_getElem_self]
  · intro h
    rw [hb] at h
    have h' : ¬ x / 2 ^ (j % 8) % 2 = 1 := by intro h2; rw [h2] at h; cases h
    rw [if_neg h'] at hs
    rw [hs] at hlt
    exact ⟨by rw [e, hs], hlt⟩

set_option maxRecDepth 100000 in
set_option maxHeartbeats 4000000 in
theorem rmay_any {u v : Value} {lo hi lo2 hi2 : Nat} {F l : List Nat} {w : World} (hu : Bs w lo hi u F) (hhi : hi ≤ w.heap.size) (hF : ∀ x ∈ F, x < 256) (hv : Bs w lo2 hi2 v l) (hhi2 : hi2 ≤ w.heap.size) (hl : ∀ x ∈ l, x < 256) (hll : l.length ≤ 1000000) :
    Calls Try.prog 23 #[u, v] w fun e w' => e = .returned (.bool (!okF F.length || mayB F l)) ∧ Ext w w' := by
  have HU := Lib.hid hu
  have HV := Lib.hid hv
  have HF := Lib.hid hF
  have HL := Lib.hid hl
  have HLL := Lib.hid hll
  obtain ⟨A, c, rfl, q1, q2, _, _⟩ := hu
  have HC := Lib.hid (rcheck_any (w := w) (A := A) (n := F.length) (c := c) (by unfold maxLen at q2; omega))
  clear q1 q2 hv hF hl hll
  cases hok : okF F.length with
  | false =>
    have e4 : chk F.length = 4 := by unfold chk; rw [hok]; rfl
    rw [e4] at HC
    clear hok e4
    go_enter Try.func23, Try.ntmps23
    go_wp2_with fail
    refine Calls.mono HC.out ?_
    rintro e w2 ⟨rfl, rfl⟩
    go_wp2_with fail
    go_ret
    exact ⟨rfl, Ext.refl _⟩
  | true =>
    have e4 : chk F.length = 0 := by unfold chk; rw [hok]; rfl
    obtain ⟨n0, _, n1⟩ := okF_iff.1 hok
    rw [e4] at HC
    clear hok e4
    have HN0 : Hid (0 < F.length) := Nat.pos_of_ne_zero n0
    have HN1 := Lib.hid n1
    clear n0 n1
    have hl8 : 8 * (F.length : Int) = ((8 * F.length : Nat) : Int) := by omega
    have HWL := Lib.hid hl8
    have hli : (F.length : Int) ≤ 131072 := by have := HN1.out; omega
    clear hl8
    have HP := Lib.hid (rbits_any v lo2 hi2 l (8 * F.length) w HV.out hhi2 HL.out HLL.out (by have := HN0.out; omega) (by have := HN1.out; omega))
    go_enter Try.func23, Try.ntmps23
    go_wp2_with fail
    refine Calls.mono HC.out ?_
    rintro e w2 ⟨rfl, rfl⟩
    go_wp2_with fail
    rw [HWL.out]
    refine Calls.mono HP.out ?_
    rintro e w2 ⟨rfl, hb⟩
    have HX2 : Hid (Ext w w2) := hb
    clear hb
    have HZ5 := Lib.hid (zeros5 w2)
    go_wp2_with (refine wpList_store_row rfl 26 (.tmp 5) (.tmp 14) rfl w2.heap.size (irow (kbs l (8 * F.length))) rfl rfl 26 _ HZ5.out info5 (by simp [irow_size, kbs_length]) (irow_one _) ?_)
    obtain ⟨w3, hw3⟩ : ∃ w3, w3 = (w2.alloc (.cells #[.int .i64 0, .int .i64 0, .int .i64 0, .int .i64 0, .int .i64 0] 26)).setRow w2.heap.size (irow (kbs l (8 * F.length))) := ⟨_, rfl⟩
    have HA3 : Hid (IArr w3 w2.heap.size 26 (kbs l (8 * F.length))) := by rw [hw3]; exact HZ5.out.setRow _
    have HX3 : Hid (Ext w w3) := by rw [hw3]; exact below_row (Ext.trans HX2.out (ext_alloc _ _)) HX2.out.size _
    rw [← hw3]
    clear hw3
    go_loopw [6] (fun i wr => ∃ k : Nat, k ≤ 5 ∧ i = .int .i64 (k : Int) ∧ Hid (∀ j ∈ (kbs l (8 * F.length)).take k, bitOf F j = true) ∧ w3 = wr) (fun i _ => 5 - (intOf i).toNat)
    case atStart => exact ⟨0, by omega, rfl, Lib.hid (by simp), rfl⟩
    case round =>
      obtain ⟨k, hk, rfl, HAL, rfl⟩ := hrel
      by_cases hlt : k < 5
      · obtain ⟨j, hj⟩ : ∃ j, j = kb l (8 * F.length) k := ⟨_, rfl⟩
        have hkj : (kbs l (8 * F.length))[k]'(by rw [kbs_length]; exact hlt) = j := by rw [kbs_get, hj]
        have HMEM : Hid (j ∈ kbs l (8 * F.length)) := by rw [← hkj]; exact List.getElem_mem _
        have HTK : Hid ((kbs l (8 * F.length)).take (k + 1) = (kbs l (8 * F.length)).take k ++ [j]) := by rw [List.take_succ_eq_append_getElem (by rw [kbs_length]; exact hlt), hkj]; exact rfl
        have hcell := HA3.out.cell k (by rw [kbs_length]; exact hlt)
        rw [hkj] at hcell
        have HONE := Lib.hid (rhas_any (j := j) (HU.out.below HX3.out hhi) HF.out (by rw [hj]; exact kb_lt (by have := HN0.out; omega)) (by have := HN1.out; omega))
        obtain ⟨z, hz⟩ : ∃ z, z = bitOf F j := ⟨_, rfl⟩
        rw [← hz] at HONE
        have HZ := Lib.hid hz
        clear hj hkj hz
        go_wp2_with fail
        refine Calls.mono HONE.out ?_
        rintro e w5 ⟨rfl, rfl⟩
        cases z with
        | false =>
          have HFL : Hid (mayB F l = false) := by
            unfold mayB Hid
            rw [List.all_eq_false]
            exact ⟨j, HMEM.out, by rw [← HZ.out]; decide⟩
          go_wp2_with fail
          go_ret
          exact ⟨by rw [HFL.out]; rfl, HX3.out⟩
        | true =>
          go_wp2_with fail
          go_roundw
          case rel =>
            refine ⟨k + 1, by omega, by go_num, Lib.hid (fun i hi => ?_), by trivial⟩
            rw [HTK.out] at hi
            rcases List.mem_append.1 hi with h | h
            · exact HAL.out i h
            · rw [List.mem_singleton] at h; rw [h]; exact HZ.out.symm
          case measure => simp [intOf]; omega
      · obtain rfl : k = 5 := by omega
        have HTR : Hid (mayB F l = true) := by
          unfold mayB Hid
          rw [List.all_eq_true]
          intro j hj
          exact HAL.out j (by rw [List.take_of_length_le (by rw [kbs_length]; exact Nat.le_refl _)]; exact hj)
        go_wp2_with fail
        go_ret
        exact ⟨by rw [HTR.out]; rfl, HX3.out⟩

set_option maxRecDepth 100000 in
set_option maxHeartbeats 4000000 in
theorem rcount_any {A : Option Addr} {c : Nat} {lo hi : Nat} {F : List Nat} {w : World} (hu : Bs w lo hi (.slice A F.length c) F) (hF : ∀ x ∈ F, x < 256) (hl : F.length ≤ 1000000) :
    Calls Try.prog 21 #[.slice A F.length c] w fun e w' => e = .returned (.int .i64 (cnt F : Nat)) ∧ w = w' := by
  have HU := Lib.hid hu
  have HF := Lib.hid hF
  have HLL := Lib.hid hl
  have hli : (F.length : Int) ≤ 1000000 := by omega
  clear hu hF hl
  go_enter Try.func21, Try.ntmps21
  go_wp2_with fail
  go_loop [3, 4] (fun n i => ∃ k : Nat, k ≤ 8 * F.length ∧ i = .int .i64 (k : Int) ∧ n = .int .i64 ((cntTo F k : Nat) : Int)) (fun _ i => 8 * F.length - (intOf i).toNat)
  case atStart => exact ⟨0, Nat.zero_le _, rfl, rfl⟩
  case round =>
    obtain ⟨k, hk, rfl, rfl⟩ := hrel
    have hki : (k : Int) ≤ 8000000 := by omega
    by_cases hlt : k < 8 * F.length
    · have d : decide ((k : Int) < 8 * (F.length : Int)) = true := decide_eq_true (by omega)
      have dn : decide (k < 8 * F.length) = true := decide_eq_true hlt
      have HONE := Lib.hid (rhas_any (j := k) HU.out HF.out hlt (by have := HLL.out; omega))
      obtain ⟨z, hz⟩ : ∃ z, z = bitOf F k := ⟨_, rfl⟩
      rw [← hz] at HONE
      have HS : Hid (cntTo F (k + 1) = cntTo F k + z.toNat) := by rw [hz]; exact cntTo_succ F k
      have hc1 : (cntTo F k : Int) ≤ 8000000 := by have := cntTo_le F k; omega
      clear hz
      go_wp2_with fail
      refine Calls.mono HONE.out ?_
      rintro e w5 ⟨rfl, rfl⟩
      cases z with
      | false =>
        go_wp2_with fail
        go_round
        case rel => exact ⟨k + 1, by omega, by go_num, by rw [HS.out]; rfl⟩
        case measure => simp [intOf]; omega
      | true =>
        go_wp2_with fail
        go_round
        case rel => exact ⟨k + 1, by omega, by go_num, by rw [HS.out]; rfl⟩
        case measure => simp [intOf]; omega
    · have d : decide ((k : Int) < 8 * (F.length : Int)) = false := decide_eq_false (by omega)
      have dn : decide (k < 8 * F.length) = false := decide_eq_false hlt
      obtain rfl : k = 8 * F.length := by omega
      have HALL := Lib.hid (cntTo_cnt F)
      go_wp2_with fail
      go_ret
      exact ⟨by rw [← HALL.out]; rfl, rfl⟩

set_option maxRecDepth 100000 in
set_option maxHeartbeats 8000000 in
theorem radd_any {u v : Value} {lo hi lo2 hi2 : Nat} {F l : List Nat} {w : World} (hu : Bs w lo hi u F) (hF : ∀ x ∈ F, x < 256) (hf0 : 0 < F.length) (hf1 : F.length ≤ 131072) (hv : Bs w lo2 hi2 v l) (hhi2 : hi2 ≤ w.heap.size) (hl : ∀ x ∈ l, x < 256) (hll : l.length ≤ 1000000) :
    Calls Try.prog 26 #[u, v] w fun e w' => ∃ g c, e = .returned (.slice (some ⟨g, 0, none⟩) F.length c) ∧ Own w.heap.size (addK F l) (.slice (some ⟨g, 0, none⟩) F.length c) w' ∧ Ext w w' := by
  have HU := Lib.hid hu
  have HV := Lib.hid hv
  have HF := Lib.hid hF
  have HL := Lib.hid hl
  have HN0 := Lib.hid hf0
  have HN1 := Lib.hid hf1
  have HLL := Lib.hid hll
  obtain ⟨A, c, rfl, q1, q2, _, _⟩ := hu
  have hl8 : 8 * (F.length : Int) = ((8 * F.length : Nat) : Int) := by omega
  have HWL := Lib.hid hl8
  have hli : (F.length : Int) ≤ 131072 := by omega
  clear q1 q2 hv hF hl hf0 hf1 hl8 hll
  go_enter Try.func26, Try.ntmps26
  go_wp2_with (at_builtin; refine wpList_addn rfl (.const (.slice none 0 0)) (.tmp 8) rfl w.heap.size _ [] rfl (Own.nil _ _) lo hi _ F rfl HU.out F F.length rfl rfl (by have := HN1.out; omega) (Nat.le_refl _) ?_)
  intro A2 c2 w2 ho2 hb2
  obtain ⟨g, c2', he, hg1, hg2, _⟩ := ho2.block HN0.out
  injection he with e1 _ e3
  subst e1 e3
  have HO2 := Lib.hid ho2
  have HX2 : Hid (Ext w w2) := hb2 w (Ext.refl _)
  clear ho2 hb2
  go_wp2_with fail
  rw [HWL.out]
  refine (rbits_any v lo2 hi2 l (8 * F.length) w2 (HV.out.below HX2.out hhi2) (Nat.le_trans hhi2 HX2.out.size) HL.out HLL.out (by have := HN0.out; omega) (by have := HN1.out; omega)).mono ?_
  rintro e w3 ⟨rfl, hb⟩
  have HX23 : Hid (Ext w2 w3) := hb
  clear hb
  have HZ5 := Lib.hid (zeros5 w3)
  go_wp2_with (refine wpList_store_row rfl 26 (.tmp 6) (.tmp 14) rfl w3.heap.size (irow (kbs l (8 * F.length))) rfl rfl 26 _ HZ5.out info5 (by simp [irow_size, kbs_length]) (irow_one _) ?_)
  obtain ⟨w4, hw4⟩ : ∃ w4, w4 = (w3.alloc (.cells #[.int .i64 0, .int .i64 0, .int .i64 0, .int .i64 0, .int .i64 0] 26)).setRow w3.heap.size (irow (kbs l (8 * F.length))) := ⟨_, rfl⟩
  obtain ⟨b, hb⟩ : ∃ b, b = w3.heap.size := ⟨_, rfl⟩
  have HA4 : Hid (IArr w4 b 26 (kbs l (8 * F.length))) := by rw [hw4, hb]; exact HZ5.out.setRow _
  have HX34 : Hid (Ext w3 w4) := by rw [hw4]; exact below_row (ext_alloc _ _) (Nat.le_refl _) _
  have HX4 : Hid (Ext w w4) := Ext.trans HX2.out (Ext.trans HX23.out HX34.out)
  have HO4 := Lib.hid ((HO2.out.below HX23.out).below HX34.out)
  have HGB : Hid (g < b) := by rw [hb]; have := HX23.out.size; unfold Hid; omega
  have HBW : Hid (w.heap.size ≤ b) := by have := HGB.out; unfold Hid; omega
  have HB4 : Hid (b < w4.heap.size) := by
    have h : w3.heap.size < w4.heap.size := by rw [hw4]; simp
    rw [hb]; exact h
  rw [← hw4, ← hb]
  clear hw4 hb HZ5 hg2
  go_loopw [7] (fun i wr => ∃ k : Nat, k ≤ 5 ∧ i = .int .i64 (k : Int) ∧ Hid (Own w.heap.size (((kbs l (8 * F.length)).take k).foldl setB F) (.slice (some ⟨g, 0, none⟩) F.length c2) wr) ∧ Hid (IArr wr b 26 (kbs l (8 * F.length))) ∧ Hid (Ext w wr)) (fun i _ => 5 - (intOf i).toNat)
  case atStart => exact ⟨0, by omega, rfl, HO4, HA4, HX4⟩
  case round =>
    obtain ⟨k, hk, rfl, HOK, HAK, HXK⟩ := hrel
    by_cases hlt : k < 5
    · obtain ⟨G, hG⟩ : ∃ G, G = ((kbs l (8 * F.length)).take k).foldl setB F := ⟨_, rfl⟩
      have HOG : Hid (Own w.heap.size G (.slice (some ⟨g, 0, none⟩) F.length c2) wr) := by rw [hG]; exact HOK.out
      have hGl : G.length = F.length := by rw [hG, setBs_length]
      have HGN : Hid (∀ x ∈ G, x < 256) := by rw [hG]; exact setBs_lt HF.out
      obtain ⟨j, hj⟩ : ∃ j, j = kb l (8 * F.length) k := ⟨_, rfl⟩
      have hjl : j < 8 * F.length := by rw [hj]; exact kb_lt (by have := HN0.out; omega)
      have hkj : (kbs l (8 * F.length))[k]'(by rw [kbs_length]; exact hlt) = j := by rw [kbs_get, hj]
      have a0 := HAK.out.cell k (by rw [kbs_length]; exact hlt)
      rw [hkj] at a0
      have HST : Hid (((kbs l (8 * F.length)).take (k + 1)).foldl setB F = setB G j) := by rw [kbs_take F l hlt, ← hG, ← hj]; exact rfl
      obtain ⟨q, hq⟩ : ∃ q, q = j / 8 := ⟨_, rfl⟩
      have hqn : q < G.length := by omega
      obtain ⟨x, hx⟩ : ∃ x, x = G[q] := ⟨_, rfl⟩
      have HX8 : Hid (x < 256) := by rw [hx]; exact HGN.out _ (List.getElem_mem _)
      obtain ⟨M, hM⟩ : ∃ M, M = 2 ^ (j % 8) := ⟨_, rfl⟩
      have HSB := Lib.hid (setB_is hq hqn hx hM HX8.out)
      have c0 : wr.cell? ⟨g, q, none⟩ = some (.int .u8 (x : Int)) := by rw [hx]; exact HOG.out.cell hqn
      have HBG : Bs wr 0 wr.heap.size (.slice (some ⟨g, 0, none⟩) G.length c2) G := by rw [hGl]; exact HOG.out.bs
      have HONE := Lib.hid (rhas_any (j := j) HBG HGN.out (by omega) (by omega))
      rw [hGl] at HONE
      obtain ⟨z, hz⟩ : ∃ z, z = bitOf G j := ⟨_, rfl⟩
      rw [← hz] at HONE HSB
      have HJ8 : Hid ((j : Int) / 8 = (q : Int)) := by rw [hq]; unfold Hid; omega
      have HWQ : Hid (IntKind.i64.wrap (q : Int) = (q : Int)) := IntWalk.i64_in _ (by omega)
      obtain ⟨r, hr⟩ : ∃ r, r = j % 8 := ⟨_, rfl⟩
      have hr8 : r < 8 := by rw [hr]; exact Nat.mod_lt _ (by decide)
      have HR8 : Hid ((j : Int).tmod 8 = (r : Int)) := by rw [hr, Int.tmod_eq_emod_of_nonneg (by omega)]; unfold Hid; omega
      have HWR : Hid (IntKind.u64.wrap (r : Int) = (r : Int)) := by rw [IntKind.wrap_u64]; unfold Hid; omega
      have HSH : Hid (IntKind.u8.wrap ((2 : Int) ^ r) = (M : Int)) := by rw [hr, hM]; exact shl8 j
      have hqi : (q : Int) < (F.length : Int) := by omega
      have HQL := Lib.hid hqn
      have hji : (j : Int) ≤ 1048576 := by omega
      clear hG hj hkj hq hx hqn hGl hk hM hz hr HBG
      cases z with
      | true =>
        have HSM := Lib.hid (HSB.out.1 rfl)
        go_wp2_with fail
        refine Calls.mono HONE.out ?_
        rintro e w5 ⟨rfl, rfl⟩
        go_wp2_with fail
        go_roundw
        case rel => exact ⟨k + 1, by omega, by go_num, by rw [HST.out, HSM.out]; exact HOG, HAK, HXK⟩
        case measure => simp [intOf]; omega
      | false =>
        obtain ⟨hsm, hxm⟩ := HSB.out.2 rfl
        have HSM := Lib.hid hsm
        have HXM : Hid (IntKind.u8.wrap ((x : Int) + (M : Int)) = ((x + M : Nat) : Int)) := by
          have e : (x : Int) + (M : Int) = ((x + M : Nat) : Int) := by omega
          rw [e]
          simp only [IntKind.wrap, IntKind.signed, IntKind.bits, Hid]
          simp
          omega
        clear hsm hxm
        obtain ⟨S, hS⟩ : ∃ S, S = x + M := ⟨_, rfl⟩
        rw [← hS] at HSM HXM
        clear hS
        go_upto_region 7 with (go_at_call 31; refine Calls.mono HONE.out ?_; rintro e w5 ⟨rfl, rfl⟩)
        refine flow_tail (by kernel_rfl) [Is (.slice (some ⟨g, 0, none⟩) F.length c2), Is (.int .i64 (k : Int)), Is (.pointer (some ⟨b, k, none⟩)), Is (.int .i64 (j : Int)), Is (.int .i64 (q : Int)), Is (.slice (some ⟨g, 0, none⟩) F.length c2), Is (.int .i64 (k : Int)), Is (.pointer (some ⟨b, k, none⟩)), Is (.int .i64 (j : Int)), Is (.int .i64 (q : Int)), Is (.pointer (some ⟨g, q, none⟩)), Is (.int .u8 (x : Int)), Is (.int .i64 (k : Int)), Is (.pointer (some ⟨b, k, none⟩)), Is (.int .i64 (j : Int)), Is (.int .i64 (r : Int)), Is (.int .u64 (r : Int)), Is (.int .u8 (M : Int)), Is (.int .u8 (S : Int)), Is (.pointer (some ⟨g, q, none⟩))] 20 (by kernel_rfl) (by kernel_rfl) (by kernel_rfl) (by kernel_rfl) ?mono (fun f1 => ?obl) ?fin
        case mono =>
          simp only [List.forall_mem_cons, List.not_mem_nil, false_imp_iff, implies_true, and_true]
          exact ⟨.is _, .is _, .is _, .is _, .is _, .is _, .is _, .is _, .is _, .is _, .is _, .is _, .is _, .is _, .is _, .is _, .is _, .is _, .is _, .is _⟩
        case fin =>
          intro g1 u hu hg
          simp only [List.take_succ_cons, List.take_zero, List.drop_succ_cons, List.drop_zero, puts, Act.put, List.setIfInBounds_toArray, List.set_cons_zero, List.set_cons_succ]
          have h18 : g1 18 = .int .u8 (S : Int) := hg 18 (by decide)
          have h19 : g1 19 = .pointer (some ⟨g, q, none⟩) := hg 19 (by decide)
          rw [h18, h19]
          have HXU : Hid (Ext wr u) := Ext.trans (Ext.drew wr) hu
          have HOU := Lib.hid (HOG.out.below HXU.out)
          have HAU := Lib.hid (HAK.out.below HXU.out HAK.out.lt)
          have c1 := ext_cell HXU.out c0
          have f1 : u.frozen? ⟨g, q, none⟩ = false := HOU.out.free q
          clear hg hu h18 h19 c0 a0
          go_wp2_with fail
          go_roundw
          case rel =>
            refine ⟨k + 1, by omega, by go_num, Lib.hid (by rw [HST.out, HSM.out]; exact HOU.out.set q _), Lib.hid (HAU.out.far (by have := HGB.out; simp; omega) _), Lib.hid ?_⟩
            exact (Ext.trans HXK.out HXU.out).setCell hg1 _
          case measure => simp [intOf]; omega
        case obl =>
          refine ⟨fun u hu hd => ?_, ?_⟩
          · go_simp
            exact ⟨Ext.refl _, rfl⟩
          refine ⟨fun u hu hd => ?_, ?_⟩
          · simp only [Act.put, List.setIfInBounds_toArray, List.set_cons_zero, List.set_cons_succ]
            go_simp
            exact ⟨Ext.refl _, rfl⟩
          refine ⟨fun u hu hd => ?_, ?_⟩
          · simp only [Act.put, List.setIfInBounds_toArray, List.set_cons_zero, List.set_cons_succ]
            have e1 : f1 1 = .int .i64 (k : Int) := hd 1 (by kernel_rfl)
            go_simp
            exact ⟨Ext.refl _, rfl⟩
          refine ⟨fun u hu hd => ?_, ?_⟩
          · simp only [Act.put, List.setIfInBounds_toArray, List.set_cons_zero, List.set_cons_succ]
            have e2 : f1 2 = .pointer (some ⟨b, k, none⟩) := hd 2 (by kernel_rfl)
            have hu2 := Ext.trans (Ext.drew wr) hu
            have q0 := ext_cell hu2 a0
            go_simp
            exact ⟨Ext.refl _, rfl⟩
          refine ⟨fun u hu hd => ?_, ?_⟩
          · simp only [Act.put, List.setIfInBounds_toArray, List.set_cons_zero, List.set_cons_succ]
            have e3 : f1 3 = .int .i64 (j : Int) := hd 3 (by kernel_rfl)
            have q1 := HJ8.out
            have q2 := HWQ.out
            go_simp
            exact ⟨Ext.refl _, rfl⟩
          refine ⟨fun u hu hd => ?_, ?_⟩
          · simp only [Act.put, List.setIfInBounds_toArray, List.set_cons_zero, List.set_cons_succ]
            go_simp
            exact ⟨Ext.refl _, rfl⟩
          refine ⟨fun u hu hd => ?_, ?_⟩
          · simp only [Act.put, List.setIfInBounds_toArray, List.set_cons_zero, List.set_cons_succ]
            go_simp
            exact ⟨Ext.refl _, rfl⟩
          refine ⟨fun u hu hd => ?_, ?_⟩
          · simp only [Act.put, List.setIfInBounds_toArray, List.set_cons_zero, List.set_cons_succ]
            have e6 : f1 6 = .int .i64 (k : Int) := hd 6 (by kernel_rfl)
            go_simp
            exact ⟨Ext.refl _, rfl⟩
          refine ⟨fun u hu hd => ?_, ?_⟩
          · simp only [Act.put, List.setIfInBounds_toArray, List.set_cons_zero, List.set_cons_succ]
            have e7 : f1 7 = .pointer (some ⟨b, k, none⟩) := hd 7 (by kernel_rfl)
            have hu2 := Ext.trans (Ext.drew wr) hu
            have q0 := ext_cell hu2 a0
            go_simp
            exact ⟨Ext.refl _, rfl⟩
          refine ⟨fun u hu hd => ?_, ?_⟩
          · simp only [Act.put, List.setIfInBounds_toArray, List.set_cons_zero, List.set_cons_succ]
            have e8 : f1 8 = .int .i64 (j : Int) := hd 8 (by kernel_rfl)
            have q1 := HJ8.out
            have q2 := HWQ.out
            go_simp
            exact ⟨Ext.refl _, rfl⟩
          refine ⟨fun u hu hd => ?_, ?_⟩
          · simp only [Act.put, List.setIfInBounds_toArray, List.set_cons_zero, List.set_cons_succ]
            have e5 : f1 5 = .slice (some ⟨g, 0, none⟩) F.length c2 := hd 5 (by kernel_rfl)
            have e9 : f1 9 = .int .i64 (q : Int) := hd 9 (by kernel_rfl)
            go_simp
            exact ⟨Ext.refl _, rfl⟩
          refine ⟨fun u hu hd => ?_, ?_⟩
          · simp only [Act.put, List.setIfInBounds_toArray, List.set_cons_zero, List.set_cons_succ]
            have e10 : f1 10 = .pointer (some ⟨g, q, none⟩) := hd 10 (by kernel_rfl)
            have hu2 := Ext.trans (Ext.drew wr) hu
            have q0 := ext_cell hu2 c0
            go_simp
            exact ⟨Ext.refl _, rfl⟩
          refine ⟨fun u hu hd => ?_, ?_⟩
          · simp only [Act.put, List.setIfInBounds_toArray, List.set_cons_zero, List.set_cons_succ]
            go_simp
            exact ⟨Ext.refl _, rfl⟩
          refine ⟨fun u hu hd => ?_, ?_⟩
          · simp only [Act.put, List.setIfInBounds_toArray, List.set_cons_zero, List.set_cons_succ]
            have e12 : f1 12 = .int .i64 (k : Int) := hd 12 (by kernel_rfl)
            go_simp
            exact ⟨Ext.refl _, rfl⟩
          refine ⟨fun u hu hd => ?_, ?_⟩
          · simp only [Act.put, List.setIfInBounds_toArray, List.set_cons_zero, List.set_cons_succ]
            have e13 : f1 13 = .pointer (some ⟨b, k, none⟩) := hd 13 (by kernel_rfl)
            have hu2 := Ext.trans (Ext.drew wr) hu
            have q0 := ext_cell hu2 a0
            go_simp
            exact ⟨Ext.refl _, rfl⟩
          refine ⟨fun u hu hd => ?_, ?_⟩
          · simp only [Act.put, List.setIfInBounds_toArray, List.set_cons_zero, List.set_cons_succ]
            have e14 : f1 14 = .int .i64 (j : Int) := hd 14 (by kernel_rfl)
            have q1 := HR8.out
            go_simp
            exact ⟨Ext.refl _, rfl⟩
          refine ⟨fun u hu hd => ?_, ?_⟩
          · simp only [Act.put, List.setIfInBounds_toArray, List.set_cons_zero, List.set_cons_succ]
            have e15 : f1 15 = .int .i64 (r : Int) := hd 15 (by kernel_rfl)
            have q1 := HWR.out
            go_simp
            exact ⟨Ext.refl _, rfl⟩
          refine ⟨fun u hu hd => ?_, ?_⟩
          · simp only [Act.put, List.setIfInBounds_toArray, List.set_cons_zero, List.set_cons_succ]
            have e16 : f1 16 = .int .u64 (r : Int) := hd 16 (by kernel_rfl)
            have q1 := HSH.out
            go_simp
            exact ⟨Ext.refl _, rfl⟩
          refine ⟨fun u hu hd => ?_, ?_⟩
          · simp only [Act.put, List.setIfInBounds_toArray, List.set_cons_zero, List.set_cons_succ]
            have e11 : f1 11 = .int .u8 (x : Int) := hd 11 (by kernel_rfl)
            have e17 : f1 17 = .int .u8 (M : Int) := hd 17 (by kernel_rfl)
            have q1 := HXM.out
            go_simp
            exact ⟨Ext.refl _, rfl⟩
          refine ⟨fun u hu hd => ?_, ?_⟩
          · simp only [Act.put, List.setIfInBounds_toArray, List.set_cons_zero, List.set_cons_succ]
            have e0 : f1 0 = .slice (some ⟨g, 0, none⟩) F.length c2 := hd 0 (by kernel_rfl)
            have e4 : f1 4 = .int .i64 (q : Int) := hd 4 (by kernel_rfl)
            go_simp
            exact ⟨Ext.refl _, rfl⟩
          trivial
    · obtain rfl : k = 5 := by omega
      have e := HOK.out
      rw [List.take_of_length_le (by rw [kbs_length]; exact Nat.le_refl _)] at e
      have HE := Lib.hid e
      clear e
      go_wp2_with fail
      go_ret
      exact ⟨g, c2, rfl, HE.out, HXK.out⟩

end Go.Proofs.Ytdoieknjhdehmaa

