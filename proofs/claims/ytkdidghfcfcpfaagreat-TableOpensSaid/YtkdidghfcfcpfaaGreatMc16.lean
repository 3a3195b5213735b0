import Derived.Test.YtkdidghfcfcpfaaGreatMc15
import Derived.Test.YtkdidghfcfcpfaaGreatMc13
import Derived.Test.YtkdidghfcfcpfaaGreatMc9
import Derived.Test.YtkdidghfcfcpfaaGreatMc14
import Derived.Test.YtkdidghfcfcpfaaGreatMc0
namespace Go.Proofs.YtkdidghfcfcpfaaGreat.Bl
open Go.ChangeShapes Go.WideShapes Go.ChangeAt Go.RowKit
theorem IArr.lt {w : World} {b : Nat} {t : TypeId} {l : List Nat} (h : IArr w b t l) : b < w.heap.size := (zAg.1 h).1
theorem setB_is {G : List Nat} {j q x M : Nat} (hq : q = j / 8) (hqn : q < G.length) (hx : x = G[q]) (hM : M = 2 ^ (j % 8)) (hx8 : x < 256) : (bitOf G j = true → setB G j = G) ∧ (bitOf G j = false → setB G j = G.set q (x + M) ∧ x + M < 256) := by
 subst hq hM
 have hb := bit_at hqn
 rw [← hx] at hb
 have hs := byte_set x hx8 (j % 8) (Nat.mod_lt _ (by decide))
 have hlt := byte_or x hx8 (j % 8) (Nat.mod_lt _ (by decide))
 have e : setB G j = G.set (j / 8) (x ||| 2 ^ (j % 8)) := by unfold setB; rw [List.getD_eq_getElem?_getD, List.getElem?_eq_getElem hqn, hx]; rfl
 constructor
 · intro h
   rw [hb, beq_iff_eq] at h
   rw [if_pos h] at hs
   rw [e, hs, hx, List.set_getElem_self]
 · intro h
   rw [hb] at h
   have h' : ¬ x / 2 ^ (j % 8) % 2 = 1 := by intro h2; rw [h2] at h; cases h
   rw [if_neg h'] at hs
   rw [hs] at hlt
   exact ⟨by rw [e, hs], hlt⟩
set_option maxRecDepth 100000 in
set_option maxHeartbeats 8000000 in
theorem radd_any {u v : Value} {lo hi lo2 hi2 : Nat} {F l : List Nat} {w : World} (hu : Bs w lo hi u F) (hF : ∀ x ∈ F, x < 256) (hf0 : 0 < F.length) (hf1 : F.length ≤ 131072) (hv : Bs w lo2 hi2 v l) (hhi2 : hi2 ≤ w.heap.size) (hl : ∀ x ∈ l, x < 256) (hll : l.length ≤ 1000000) :
    Calls Tryz.prog 96 #[u, v] w fun e w' => ∃ g c, e = .returned (.slice (some ⟨g, 0, none⟩) F.length c) ∧ Own w.heap.size (addK F l) (.slice (some ⟨g, 0, none⟩) F.length c) w' ∧ Ext w w' := by
 have HU := zHd hu
 have HV := zHd hv
 have HF := zHd hF
 have HL := zHd hl
 have HN0 := zHd hf0
 have HN1 := zHd hf1
 have HLL := zHd hll
 obtain ⟨A, c, rfl, q1, q2, _, _⟩ := hu
 have hl8 : 8 * (F.length : Int) = ((8 * F.length : Nat) : Int) := by omega
 have HWL := zHd hl8
 have hli : (F.length : Int) ≤ 131072 := by omega
 clear q1 q2 hv hF hl hf0 hf1 hl8 hll
 go_enter Tryz.func96, Tryz.ntmps96
 go_wp2_with (at_builtin; refine wpList_addn rfl (.const (.slice none 0 0)) (.tmp 8) rfl w.heap.size _ [] rfl (Own.nil _ _) lo hi _ F rfl HU.out F F.length rfl rfl (by have := HN1.out; omega) (zNr _) ?_)
 intro A2 c2 w2 ho2 hb2
 obtain ⟨g, c2', he, hg1, hg2, _⟩ := ho2.block HN0.out
 injection he with e1 _ e3
 subst e1 e3
 have HO2 := zHd ho2
 have HX2 : Hid (Ext w w2) := hb2 w (Ext.refl _)
 clear ho2 hb2
 go_wp2_with fail
 rw [HWL.out]
 refine (rbits_any v lo2 hi2 l (8 * F.length) w2 (HV.out.below HX2.out hhi2) (zNt hhi2 HX2.out.size) HL.out HLL.out (by have := HN0.out; omega) (by have := HN1.out; omega)).mono ?_
 rintro e w3 ⟨rfl, hb⟩
 have HX23 : Hid (Ext w2 w3) := hb
 clear hb
 have HZ5 := zHd (zeros5 w3)
 go_wp2_with (refine wpList_store_row rfl 131 (.tmp 6) (.tmp 14) rfl w3.heap.size (irow (kbs l (8 * F.length))) rfl rfl 131 _ HZ5.out info5 (by simp [irow_size, kbs_length]) (irow_one _) ?_)
 obtain ⟨w4, hw4⟩ : ∃ w4, w4 = (w3.alloc (.cells #[.int .i64 0, .int .i64 0, .int .i64 0, .int .i64 0, .int .i64 0] 131)).setRow w3.heap.size (irow (kbs l (8 * F.length))) := ⟨_, rfl⟩
 obtain ⟨b, hb⟩ : ∃ b, b = w3.heap.size := ⟨_, rfl⟩
 have HA4 : Hid (IArr w4 b 131 (kbs l (8 * F.length))) := by rw [hw4, hb]; exact HZ5.out.setRow _
 have HX34 : Hid (Ext w3 w4) := by rw [hw4]; exact below_row (ext_alloc _ _) (zNr _) _
 have HX4 : Hid (Ext w w4) := zEt HX2.out (zEt HX23.out HX34.out)
 have HO4 := zHd ((HO2.out.below HX23.out).below HX34.out)
 have HGB : Hid (g < b) := by rw [hb]; have := HX23.out.size; unfold Hid; omega
 have HBW : Hid (w.heap.size ≤ b) := by have := HGB.out; unfold Hid; omega
 have HB4 : Hid (b < w4.heap.size) := by
  have h : w3.heap.size < w4.heap.size := by rw [hw4]; simp
  rw [hb]; exact h
 rw [← hw4, ← hb]
 clear hw4 hb HZ5 hg2
 go_loopw [7] (fun i wr => ∃ k : Nat, k ≤ 5 ∧ i = .int .i64 (k : Int) ∧ Hid (Own w.heap.size (((kbs l (8 * F.length)).take k).foldl setB F) (.slice (some ⟨g, 0, none⟩) F.length c2) wr) ∧ Hid (IArr wr b 131 (kbs l (8 * F.length))) ∧ Hid (Ext w wr)) (fun i _ => 5 - (intOf i).toNat)
 case atStart => exact ⟨0, by omega, rfl, HO4, HA4, HX4⟩
 case round =>
  obtain ⟨k, hk, rfl, HOK, HAK, HXK⟩ := hrel
  by_cases hlt : k < 5
  · obtain ⟨G, hG⟩ : ∃ G, G = ((kbs l (8 * F.length)).take k).foldl setB F := ⟨_, rfl⟩
    have HOG : Hid (Own w.heap.size G (.slice (some ⟨g, 0, none⟩) F.length c2) wr) := by rw [hG]; exact HOK.out
    have hGl : G.length = F.length := by rw [hG, setBs_length]
    have HGN : Hid (∀ x ∈ G, x < 256) := by rw [hG]; exact setBs_lt HF.out
    obtain ⟨j, hj⟩ : ∃ j, j = kb l (8 * F.length) k := ⟨_, rfl⟩
    have hjl : j < 8 * F.length := by rw [hj]; exact kb_lt (by have := HN0.out; omega)
    have hkj : (kbs l (8 * F.length))[k]'(by rw [kbs_length]; exact hlt) = j := by rw [kbs_get, hj]
    have a0 := HAK.out.cell k (by rw [kbs_length]; exact hlt)
    rw [hkj] at a0
    have HST : Hid (((kbs l (8 * F.length)).take (k + 1)).foldl setB F = setB G j) := by rw [kbs_take F l hlt, ← hG, ← hj]; exact rfl
    obtain ⟨q, hq⟩ : ∃ q, q = j / 8 := ⟨_, rfl⟩
    have hqn : q < G.length := by omega
    obtain ⟨x, hx⟩ : ∃ x, x = G[q] := ⟨_, rfl⟩
    have HX8 : Hid (x < 256) := by rw [hx]; exact HGN.out _ (List.getElem_mem _)
    obtain ⟨M, hM⟩ : ∃ M, M = 2 ^ (j % 8) := ⟨_, rfl⟩
    have HSB := zHd (setB_is hq hqn hx hM HX8.out)
    have c0 : wr.cell? ⟨g, q, none⟩ = some (.int .u8 (x : Int)) := by rw [hx]; exact HOG.out.cell hqn
    have HBG : Bs wr 0 wr.heap.size (.slice (some ⟨g, 0, none⟩) G.length c2) G := by rw [hGl]; exact HOG.out.bs
    have HONE := zHd (rhas_any (j := j) HBG HGN.out (by omega) (by omega))
    rw [hGl] at HONE
    obtain ⟨z, hz⟩ : ∃ z, z = bitOf G j := ⟨_, rfl⟩
    rw [← hz] at HONE HSB
    have HJ8 : Hid ((j : Int) / 8 = (q : Int)) := by rw [hq]; unfold Hid; omega
    have HWQ : Hid (IntKind.i64.wrap (q : Int) = (q : Int)) := IntWalk.i64_in _ (by omega)
    obtain ⟨r, hr⟩ : ∃ r, r = j % 8 := ⟨_, rfl⟩
    have hr8 : r < 8 := by rw [hr]; exact Nat.mod_lt _ (by decide)
    have HR8 : Hid ((j : Int).tmod 8 = (r : Int)) := by rw [hr, Int.tmod_eq_emod_of_nonneg (by omega)]; unfold Hid; omega
    have HWR : Hid (IntKind.u64.wrap (r : Int) = (r : Int)) := by rw [IntKind.wrap_u64]; unfold Hid; omega
    have HSH : Hid (IntKind.u8.wrap ((2 : Int) ^ r) = (M : Int)) := by rw [hr, hM]; exact shl8 j
    have hqi : (q : Int) < (F.length : Int) := by omega
    have HQL := zHd hqn
    have hji : (j : Int) ≤ 1048576 := by omega
    clear hG hj hkj hq hx hqn hGl hk hM hz hr HBG
    cases z with
    | true =>
     have HSM := zHd (HSB.out.1 rfl)
     go_wp2_with fail
     refine Calls.mono HONE.out ?_
     rintro e w5 ⟨rfl, rfl⟩
     go_wp2_with fail
     go_roundw
     case rel => exact ⟨k + 1, by omega, by go_num, by rw [HST.out, HSM.out]; exact HOG, HAK, HXK⟩
     case measure => simp [intOf]; omega
    | false =>
     obtain ⟨hsm, hxm⟩ := HSB.out.2 rfl
     have HSM := zHd hsm
     have HXM : Hid (IntKind.u8.wrap ((x : Int) + (M : Int)) = ((x + M : Nat) : Int)) := by
      have e : (x : Int) + (M : Int) = ((x + M : Nat) : Int) := by omega
      rw [e]
      simp only [IntKind.wrap, IntKind.signed, IntKind.bits, Hid]
      simp
      omega
     clear hsm hxm
     obtain ⟨S, hS⟩ : ∃ S, S = x + M := ⟨_, rfl⟩
     rw [← hS] at HSM HXM
     clear hS
     go_upto_region 7 with (go_at_call 94; refine Calls.mono HONE.out ?_; rintro e w5 ⟨rfl, rfl⟩)
     refine flow_tail (by kernel_rfl) [Is (.slice (some ⟨g, 0, none⟩) F.length c2), Is (.int .i64 (k : Int)), Is (.pointer (some ⟨b, k, none⟩)), Is (.int .i64 (j : Int)), Is (.int .i64 (q : Int)), Is (.slice (some ⟨g, 0, none⟩) F.length c2), Is (.int .i64 (k : Int)), Is (.pointer (some ⟨b, k, none⟩)), Is (.int .i64 (j : Int)), Is (.int .i64 (q : Int)), Is (.pointer (some ⟨g, q, none⟩)), Is (.int .u8 (x : Int)), Is (.int .i64 (k : Int)), Is (.pointer (some ⟨b, k, none⟩)), Is (.int .i64 (j : Int)), Is (.int .i64 (r : Int)), Is (.int .u64 (r : Int)), Is (.int .u8 (M : Int)), Is (.int .u8 (S : Int)), Is (.pointer (some ⟨g, q, none⟩))] 20 (by kernel_rfl) (by kernel_rfl) (by kernel_rfl) (by kernel_rfl) ?mono (fun f1 => ?obl) ?fin
     case mono =>
      simp only [List.forall_mem_cons, List.not_mem_nil, false_imp_iff, implies_true, and_true]
      and_intros <;> exact .is _
     case fin =>
      intro g1 u hu hg
      simp only [List.take_succ_cons, List.take_zero, List.drop_succ_cons, List.drop_zero, puts, Act.put, zq]
      have h18 : g1 18 = _ := hg 18 (by decide)
      have h19 : g1 19 = _ := hg 19 (by decide)
      rw [h18, h19]
      have HXU : Hid (Ext wr u) := zEt (Ext.drew wr) hu
      have HOU := zHd (HOG.out.below HXU.out)
      have HAU := zHd (HAK.out.below HXU.out HAK.out.lt)
      have c1 := ext_cell HXU.out c0
      have f1 : u.frozen? ⟨g, q, none⟩ = false := HOU.out.free q
      clear hg hu h18 h19 c0 a0
      go_wp2_with fail
      go_roundw
      case rel =>
       refine ⟨k + 1, by omega, by go_num, zHd (by rw [HST.out, HSM.out]; exact HOU.out.set q _), zHd (HAU.out.far (by have := HGB.out; simp; omega) _), zHd ?_⟩
       exact (zEt HXK.out HXU.out).setCell hg1 _
      case measure => simp [intOf]; omega
     case obl =>
      refine ⟨fun u hu hd => ?_, fun u hu hd => ?_, fun u hu hd => ?_, fun u hu hd => ?_, fun u hu hd => ?_, fun u hu hd => ?_, fun u hu hd => ?_, fun u hu hd => ?_, fun u hu hd => ?_, fun u hu hd => ?_, fun u hu hd => ?_, fun u hu hd => ?_, fun u hu hd => ?_, fun u hu hd => ?_, fun u hu hd => ?_, fun u hu hd => ?_, fun u hu hd => ?_, fun u hu hd => ?_, fun u hu hd => ?_, fun u hu hd => ?_, trivial⟩
      all_goals try simp only [Act.put, zq]
      · go_simp
        exact zEr
      · go_simp
        exact zEr
      · have e1 : f1 1 = _ := hd 1 (by kernel_rfl)
        go_simp
        exact zEr
      · have e2 : f1 2 = _ := hd 2 (by kernel_rfl)
        have hu2 := zEt (Ext.drew wr) hu
        have q0 := ext_cell hu2 a0
        go_simp
        exact zEr
      · have e3 : f1 3 = _ := hd 3 (by kernel_rfl)
        have q1 := HJ8.out
        have q2 := HWQ.out
        go_simp
        exact zEr
      · go_simp
        exact zEr
      · go_simp
        exact zEr
      · have e6 : f1 6 = _ := hd 6 (by kernel_rfl)
        go_simp
        exact zEr
      · have e7 : f1 7 = _ := hd 7 (by kernel_rfl)
        have hu2 := zEt (Ext.drew wr) hu
        have q0 := ext_cell hu2 a0
        go_simp
        exact zEr
      · have e8 : f1 8 = _ := hd 8 (by kernel_rfl)
        have q1 := HJ8.out
        have q2 := HWQ.out
        go_simp
        exact zEr
      · have e5 : f1 5 = _ := hd 5 (by kernel_rfl)
        have e9 : f1 9 = _ := hd 9 (by kernel_rfl)
        go_simp
        exact zEr
      · have e10 : f1 10 = _ := hd 10 (by kernel_rfl)
        have hu2 := zEt (Ext.drew wr) hu
        have q0 := ext_cell hu2 c0
        go_simp
        exact zEr
      · go_simp
        exact zEr
      · have e12 : f1 12 = _ := hd 12 (by kernel_rfl)
        go_simp
        exact zEr
      · have e13 : f1 13 = _ := hd 13 (by kernel_rfl)
        have hu2 := zEt (Ext.drew wr) hu
        have q0 := ext_cell hu2 a0
        go_simp
        exact zEr
      · have e14 : f1 14 = _ := hd 14 (by kernel_rfl)
        have q1 := HR8.out
        go_simp
        exact zEr
      · have e15 : f1 15 = _ := hd 15 (by kernel_rfl)
        have q1 := HWR.out
        go_simp
        exact zEr
      · have e16 : f1 16 = _ := hd 16 (by kernel_rfl)
        have q1 := HSH.out
        go_simp
        exact zEr
      · have e11 : f1 11 = _ := hd 11 (by kernel_rfl)
        have e17 : f1 17 = _ := hd 17 (by kernel_rfl)
        have q1 := HXM.out
        go_simp
        exact zEr
      · have e0 : f1 0 = _ := hd 0 (by kernel_rfl)
        have e4 : f1 4 = _ := hd 4 (by kernel_rfl)
        go_simp
        exact zEr
  · obtain rfl : k = 5 := by omega
    have e := HOK.out
    rw [List.take_of_length_le (by rw [kbs_length]; exact zNr _)] at e
    have HE := zHd e
    clear e
    go_wp2_with fail
    go_ret
    exact ⟨g, c2, rfl, HE.out, HXK.out⟩
end Go.Proofs.YtkdidghfcfcpfaaGreat.Bl
namespace Go.Proofs.YtkdidghfcfcpfaaGreat.Bl
open Go.ChangeShapes Go.WideShapes Go.ChangeAt Go.RowKit
set_option maxRecDepth 100000 in
set_option maxHeartbeats 4000000 in
theorem rmake_any (A : Option Addr) (c lo hi : Nat) (vs : List Value) (ls : List (List Nat)) (w : World) (h : Rows2 w lo hi A vs ls) (hhi : hi ≤ w.heap.size) (hlen : ls.length ≤ 65536) (hl : ∀ l ∈ ls, ∀ x ∈ l, x < 256) (hll : ∀ l ∈ ls, l.length ≤ 1000000) :
    Calls Tryz.prog 58 #[.slice A ls.length c] w fun e w' => ∃ A' c', e = .returned (.slice A' (bsize ls.length) c') ∧ Own w.heap.size (mk ls) (.slice A' (bsize ls.length) c') w' ∧ Ext w w' := by
 have HR := zHd h
 have HL := zHd hl
 have HLL := zHd hll
 clear h hl hll
 have HS := zHd (rsize_any (ls.length : Int) (by omega) (by omega) w)
 have HZ := zHd (bsize_pos ls.length)
 have HZ2 : Hid (bsize ls.length ≤ 65544) := bsize_le (by omega)
 rw [sizeI_nat (by omega)] at HS
 obtain ⟨N, hN⟩ : ∃ N, N = bsize ls.length := ⟨_, rfl⟩
 rw [← hN] at HS HZ HZ2
 have HN := zHd hN
 obtain ⟨w1, hrun, hown, hx⟩ := zeros_run w N (by have := HZ2.out; omega)
 have HO1 := zHd hown
 have HX1 := zHd hx
 have hli : (ls.length : Int) ≤ 65536 := by omega
 clear hown hx hN
 go_enter Tryz.func58, Tryz.ntmps58
 go_wp2_with fail
 refine Calls.mono HS.out ?_
 rintro e w2 ⟨rfl, rfl⟩
 go_wp2_with fail
 have HF0 : Hid ((List.replicate N 0).length = N) := List.length_replicate
 go_loopw [3, 4] (fun f i wr => ∃ (k : Nat) (g : Nat) (cc : Nat), k ≤ ls.length ∧ i = .int .i64 (k : Int) ∧ f = .slice (some ⟨g, 0, none⟩) N cc ∧ Hid (Own w.heap.size ((ls.take k).foldl addK (List.replicate N 0)) (.slice (some ⟨g, 0, none⟩) N cc) wr) ∧ Hid (Ext w wr)) (fun _ i _ => ls.length - (intOf i).toNat)
 case atStart => exact ⟨0, w.heap.size, N, Nat.zero_le _, rfl, rfl, HO1, HX1⟩
 case round =>
  obtain ⟨k, g, cc, hk, rfl, rfl, HOK, HXK⟩ := hrel
  have HRK : Hid (Rows2 wr lo hi A vs ls) := HR.out.below HXK.out hhi
  by_cases hlt : k < ls.length
  · have d : decide ((k : Int) < (ls.length : Int)) = true := decide_eq_true (by omega)
    have dn : decide (k < ls.length) = true := decide_eq_true hlt
    obtain ⟨b, o, A', c', rfl, hcell, q1, q2, q3, q4⟩ := HRK.out.at_ hlt
    have HV : Hid (Bs wr lo hi (.slice A' ls[k].length c') ls[k]) := ⟨A', c', rfl, q1, q2, q3, q4⟩
    obtain ⟨G, hG⟩ : ∃ G, G = (ls.take k).foldl addK (List.replicate N 0) := ⟨_, rfl⟩
    have hGN : G.length = N := by rw [hG, addKs_length, HF0.out]
    have HOG : Hid (Own w.heap.size G (.slice (some ⟨g, 0, none⟩) G.length cc) wr) := by rw [hGN, hG]; exact HOK.out
    have HADD := zHd (radd_any HOG.out.bs (by rw [hG]; exact addKs_lt (zeros_lt _)) (by have := HZ.out; omega) (by have := HZ2.out; omega) HV.out (by have := HXK.out.size; omega) (HL.out _ (List.getElem_mem hlt)) (HLL.out _ (List.getElem_mem hlt)))
    rw [hGN] at HADD
    have HNX : Hid ((ls.take (k + 1)).foldl addK (List.replicate N 0) = addK G ls[k]) := by rw [hG]; exact mk_take ls _ hlt
    clear q1 q2 q3 q4 hG hGN
    go_wp2_with fail
    refine Calls.mono HADD.out ?_
    rintro e w3 ⟨g3, c3, rfl, ho, hb⟩
    have HO3 : Hid (Own w.heap.size (addK G ls[k]) (.slice (some ⟨g3, 0, none⟩) N c3) w3) := ho.base HXK.out.size
    have HX3 : Hid (Ext w w3) := zEt HXK.out hb
    clear ho hb
    go_wp2_with fail
    go_roundw
    case rel => exact ⟨k + 1, g3, c3, by omega, by go_num, rfl, by rw [HNX.out]; exact HO3, HX3⟩
    case measure => simp [intOf]; omega
  · have d : decide ((k : Int) < (ls.length : Int)) = false := decide_eq_false (by omega)
    have dn : decide (k < ls.length) = false := decide_eq_false hlt
    obtain rfl : k = ls.length := by omega
    go_wp2_with fail
    go_ret
    refine ⟨some ⟨g, 0, none⟩, cc, by rw [HN.out]; rfl, ?_, HXK.out⟩
    have e := HOK.out
    rw [List.take_length] at e
    unfold mk
    rw [← HN.out]
    exact e
end Go.Proofs.YtkdidghfcfcpfaaGreat.Bl
namespace Go.Proofs.YtkdidghfcfcpfaaGreat
open Go.ChangeShapes Go.WideShapes Go.ChangeAt Go.RowKit
theorem idxs_take_le : ∀ (C : List (List Ent)) (k a : Nat), (idxs a (C.take k)).length ≤ (idxs a C).length
 | [], k, a => by simp
 | p :: C, 0, a => by simp [idxs]
 | p :: C, k + 1, a => by
  have := idxs_take_le C k (a + (wr p).length)
  simp only [List.take_succ_cons, idxs, List.length_append]; omega
theorem idxs_at {C : List (List Ent)} {k : Nat} {p : List Ent} (h : C[k]? = some p) : idxs 0 (C.take (k + 1)) = idxs 0 (C.take k) ++ idx1 p (blks (C.take k)).length (wr p).length := by
 obtain ⟨hk, rfl⟩ := zLg.1 h
 rw [List.take_succ_eq_append_getElem hk, idxs_snoc, Nat.zero_add]
theorem idx1_at {q : List Ent} {m : Nat} {e : Ent} (hm : q.length = m + 1) (he : q[m]? = some e) (a n : Nat) : idx1 q a n = bytesForm e.key ++ (form e.seq.toNat ++ (form a ++ form n)) := by
 unfold idx1
 have : q.getLast? = some e := by rw [List.getLast?_eq_getElem?, hm]; exact he
 rw [this]; rfl
def BoxV (B : Nat) (v : Value) (u : World) : Prop := ∃ (g : Nat) (cs : Array Value), v = .pointer (some ⟨g, 0, none⟩) ∧ B ≤ g ∧ u.heap[g]? = some (.cells cs 50 (0, 0)) ∧ cs.size = 4
theorem BoxV.mono (B : Nat) : Mono (BoxV B) := fun _ _ _ ⟨g, cs, h, hb, hg, hs⟩ hx => ⟨g, cs, h, hb, ext_heap hx hg, hs⟩
def RTAns (w : World) (Ls : List Ent) (x : Ending) (w' : World) : Prop :=
 Ext w w' ∧ ∃ (C : List (List Ent)) (v : Value), x = .returned v ∧ C.flatten = Ls ∧ Cuts C ∧ Own w.heap.size (tb C Ls) v w'
set_option maxRecDepth 100000 in
set_option maxHeartbeats 16000000 in
theorem rtwrite_any {w : World} {lo hi c : Nat} {A : Option Addr} {L : List (Ent × Hd)} (h : Es w lo hi A L) (hhi : hi ≤ w.heap.size) (hm : MayT (L.map Prod.fst)) :
    Calls Tryz.prog 30 #[.slice A L.length c] w (RTAns w (L.map Prod.fst)) := by
 have HE := zHd h
 have HHI := zHd hhi
 have HM := zHd hm
 have HLEN : Hid (1 ≤ L.length ∧ L.length ≤ 4096) := by have h1 := hm.1; have h2 := hm.2.1; rw [List.length_map] at h1 h2; exact ⟨h1, h2⟩
 have HC := zHd (rtcut_any (c := c) h hhi hm)
 obtain ⟨Ls, hLs⟩ : ∃ Ls, Ls = L.map Prod.fst := ⟨_, rfl⟩
 have HLS := zHd hLs
 rw [← hLs] at HM ⊢
 clear h hhi hm hLs
 go_enter Tryz.func30, Tryz.ntmps30
 go_wp2_with fail
 refine HC.out.mono ?_
 rintro x w3 ⟨hx3, C, X, dd, rfl, hfl, hcuts, hrow⟩
 have hne : C ≠ [] := fun e => by rw [e] at hfl; have := HLEN.out; rw [← hfl] at this; simp at this
 obtain ⟨gO, rfl, hpc⟩ := hrow.pcs HE.out HHI.out hx3 hfl hne
 obtain ⟨Cs, hCs⟩ : ∃ Cs, Cs = C.map (·.map Prod.fst) := ⟨_, rfl⟩
 have HX3 : Hid (Ext w w3) := hx3
 have HPC := zHd hpc
 have HCS := zHd hCs
 have HCU : Hid (Cuts Cs) := by rw [hCs]; exact hcuts
 have HCF : Hid (Cs.flatten = Ls) := by unfold Hid; rw [hCs, HLS.out, ← hfl, List.map_flatten]
 have HMY : Hid (∀ e ∈ Cs.flatten, e.may = true) := by rw [HCF.out]; exact HM.out.2.2.2
 have HMB : Hid (∀ p ∈ Cs, MayB p) := pieces_mayB (by rw [HCF.out]; exact HM.out.2.2.1) HMY.out HCU.out
 have HCL : Hid (Cs.length = C.length) := by rw [hCs]; simp [Hid]
 have HCN : Hid (1 ≤ C.length ∧ C.length ≤ 4096) := by
  have h1 := tcuts_len HCU.out
  rw [HCF.out, HLS.out, List.length_map, HCL.out] at h1
  have h2 := List.length_pos_iff.2 hne
  have := HLEN.out
  unfold Hid; omega
 have HBM : Hid ((blks Cs).length ≤ 269144064) := by
  have h1 := blks_most HCU.out HMY.out
  rw [HCF.out, HLS.out, List.length_map] at h1
  have := HLEN.out
  unfold Hid; omega
 have HIM : Hid ((idxs 0 Cs).length ≤ 294912) := by
  have h1 := idxs_most (a := 0) HCU.out HMY.out (by have := HBM.out; omega)
  rw [HCL.out] at h1
  have := HCN.out
  unfold Hid; omega
 have HFN : Hid ((form C.length).length ≤ 10) := form_len64 ⟨by have := HCN.out; omega⟩
 obtain ⟨N, hN⟩ : ∃ N, N = C.length := ⟨_, rfl⟩
 have HN := zHd hN
 rw [← hN] at HCN HCL HFN ⊢
 have hnI : (N : Int) ≤ 4096 := by have := HCN.out; omega
 clear hx3 hfl hcuts hrow hne hpc hCs hN HC
 have hq : IntKind.u64.wrap (N : Int) = (N : Int) := by have := HCN.out; rw [IntKind.wrap_u64]; omega
 go_wp2_with fail
 refine (rnumber_any N ⟨by have := HCN.out; omega⟩ _).mono ?_
 rintro x w4 ⟨v4, rfl, ho4, hx4⟩
 have ho4' : Own w3.heap.size (form N) v4 w4 := ho4
 obtain ⟨A4, c4, rfl⟩ := ho4'.slice
 have HST4 : Hid (W2 w3 (blks (Cs.take 0)) (form N ++ idxs 0 (Cs.take 0)) none 0 A4 c4 w4) := by
  have e : form N ++ idxs 0 (Cs.take 0) = form N := by simp [idxs]
  unfold Hid
  rw [e]
  exact ⟨World.ownsRow_nil _ _ _ _, ho4', hx4, fun g hg => by cases hg⟩
 have HAL : Hid ((form N).length = (form N ++ idxs 0 (Cs.take 0)).length) := by simp [idxs, Hid]
 rw [HAL.out]
 clear ho4 hx4 hq ho4' HAL
 go_wp2_with fail
 go_loopw [4, 5, 6, 7, 8, 9] (fun bv_ rv iv_ _ _ _ wq => ∃ (k : Nat) (BA RA : Option Addr) (bc rc : Nat), k ≤ N ∧ iv_ = .int .i64 (k : Int) ∧ bv_ = .slice BA (blks (Cs.take k)).length bc ∧ rv = .slice RA (form N ++ idxs 0 (Cs.take k)).length rc ∧ Hid (W2 w3 (blks (Cs.take k)) (form N ++ idxs 0 (Cs.take k)) BA bc RA rc wq))
  (fun _ _ x _ _ _ _ => N - (intOf x).toNat)
 case atStart => exact ⟨0, none, A4, 0, c4, Nat.zero_le _, rfl, rfl, by simp, HST4⟩
 case round =>
  rename World => wq
  obtain ⟨k, BA, RA, bc, rc, hk, rfl, rfl, rfl, HST⟩ := hrel
  by_cases hlt : k < N
  · have d : decide ((k : Int) < (N : Int)) = true := decide_eq_true (by omega)
    have dn : decide (k < N) = true := decide_eq_true hlt
    have HLT := zHd hlt
    have HKC : Hid (k < C.length) := by rw [← HN.out]; exact hlt
    obtain ⟨q, hq⟩ : ∃ q, C[k]? = some q := ⟨_, List.getElem?_eq_getElem HKC.out⟩
    have HQS : Hid (Cs[k]? = some (q.map Prod.fst)) := by unfold Hid; rw [HCS.out, List.getElem?_map, hq]; rfl
    have HMQ := zHd (HMB.out _ (List.mem_of_getElem? HQS.out))
    obtain ⟨qA, qc, hcl, hes⟩ := HPC.out k q hq
    have HESQ := zHd hes
    obtain ⟨m, hm⟩ : ∃ m, q.length = m + 1 := ⟨q.length - 1, by have := HMQ.out.1; rw [List.length_map] at this; omega⟩
    have HQM := zHd hm
    obtain ⟨qb, qo, rfl⟩ := hes.base (by omega)
    rw [hm] at hcl
    have HCL3 := zHd hcl
    have HHS : Hid (w3.heap.size ≤ w3.heap.size) := zNr _
    obtain ⟨pe, hpe⟩ : ∃ pe, q[m]? = some pe := ⟨_, List.getElem?_eq_getElem (by omega)⟩
    have HPE := zHd hpe
    obtain ⟨ql, hql⟩ : ∃ ql, ql = q.map Prod.fst := ⟨_, rfl⟩
    have HQL := zHd hql
    rw [← hql] at HQS HMQ
    have HPM : Hid (ql[m]? = some pe.1) := by unfold Hid; rw [hql, List.getElem?_map, hpe]; rfl
    have HQLM : Hid (ql.length = m + 1) := by rw [hql, List.length_map]; exact hm
    have n1 : (0 : Int) ≤ (k : Int) := Int.natCast_nonneg _
    have n2 : (k : Int) < (N : Int) := Int.ofNat_lt.2 hlt
    have HW7 := zHd (rwrite_any (c := qc) (HESQ.out.below HST.out.x (zNr _)) HST.out.x.size (by rw [← hql]; exact HMQ.out))
    rw [hm, ← hql] at HW7
    have c0 := ext_cell HST.out.x HCL3.out
    clear hk hlt hq hm hcl hes hpe hql
    obtain ⟨T0, hT0⟩ : ∃ T0, T0 = blks (Cs.take k) := ⟨_, rfl⟩
    obtain ⟨S0, hS0⟩ : ∃ S0, S0 = form N ++ idxs 0 (Cs.take k) := ⟨_, rfl⟩
    have HT0 := zHd hT0
    have HS0 := zHd hS0
    rw [← hT0, ← hS0] at HST ⊢
    have HTM : Hid (T0.length ≤ 269144064 ∧ S0.length ≤ 294922) := by
     have h1 := blks_take_le Cs k
     have h2 := idxs_take_le Cs k 0
     have := HBM.out; have := HIM.out; have := HFN.out
     refine ⟨by rw [hT0]; omega, by rw [hS0, List.length_append]; omega⟩
    clear hT0 hS0
    go_wp2_with fail
    refine HW7.out.mono ?_
    rintro x w8 ⟨VA, vc, RA8, rc8, rfl, hst8⟩
    have HX8 : Hid (Ext wq w8) := hst8.x
    obtain ⟨n8, hn8⟩ : ∃ n8, n8 = (wr ql).length := ⟨_, rfl⟩
    have HN8 := zHd hn8
    have HB8 : Hid (Bs w8 wq.heap.size w8.heap.size (.slice VA (wr ql).length vc) (wr ql)) := Bs.of_own hst8.b
    have HRA9 : Hid (∀ g, (Value.slice RA S0.length rc).ownBlock = some g → g < wq.heap.size ∨ w8.heap.size ≤ g) := fun g hg => .inl (row_lt HST.out.r g hg).2
    rw [← hn8] at HB8 ⊢
    have HST8 := zHd (HST.out.ext hst8.x)
    have d0 := ext_cell hst8.x c0
    obtain ⟨e0, e1, e2, e3⟩ := (HESQ.out.below HST8.out.x (zNr _)).get HPE.out
    have m1 : (0 : Int) ≤ (m : Int) := Int.natCast_nonneg _
    have m2 : (m : Int) < ((m + 1 : Nat) : Int) := by omega
    have m3 : (m : Int) < (m : Int) + 1 := by omega
    clear hst8 hn8 c0 HW7
    go_upto_region 8 with (fail)
    refine flow_tail (by kernel_rfl) [Is (.slice (some ⟨gO, 0, none⟩) N dd), Is (.int .i64 (k : Int)), Is (.pointer (some ⟨gO, k, none⟩)), Is (.slice (some ⟨qb, qo, none⟩) (m + 1) qc), Is (.slice (some ⟨gO, 0, none⟩) N dd), Is (.int .i64 (k : Int)), Is (.pointer (some ⟨gO, k, none⟩)), Is (.slice (some ⟨qb, qo, none⟩) (m + 1) qc), Is (.int .i64 ((m + 1 : Nat) : Int)), Is (.int .i64 (m : Int)), Is (.pointer (some ⟨qb, qo + m * 4, none⟩)), Is (.agg #[.slice pe.2.kA pe.1.key.length pe.2.kc, .int .i64 pe.1.seq, .int .i64 pe.1.kind, .slice pe.2.vA pe.1.val.length pe.2.vc]), BoxV w8.heap.size] 13 (by kernel_rfl) (by kernel_rfl) (by kernel_rfl) (by kernel_rfl) ?mono (fun f1 => ?obl) ?fin
    case mono =>
     simp only [List.forall_mem_cons, List.not_mem_nil, false_imp_iff, implies_true, and_true]
     exact ⟨.is _, .is _, .is _, .is _, .is _, .is _, .is _, .is _, .is _, .is _, .is _, .is _, BoxV.mono _⟩
    case fin =>
     intro g1 u hu hg
     simp only [List.take_succ_cons, List.take_zero, List.drop_succ_cons, List.drop_zero, puts, Act.put, zq]
     obtain ⟨gb, cs, h12, hgb0, hgb, hcs⟩ := (show BoxV w8.heap.size (g1 12) u from hg 12 (by decide))
     have e11 : g1 11 = _ := hg 11 (by decide)
     rw [h12, e11]
     have HXU : Hid (Ext w8 u) := zEt (Ext.drew w8) hu
     refine wpList_store_row rfl 50 (.tmp 9) (.tmp 46) rfl gb _ rfl rfl 50 cs hgb (by kernel_rfl) (by rw [hcs]; rfl) (by simp [Value.oneCell']) ?_
     obtain ⟨w9, hw9⟩ : ∃ w9, w9 = u.setRow gb #[.slice pe.2.kA pe.1.key.length pe.2.kc, .int .i64 pe.1.seq, .int .i64 pe.1.kind, .slice pe.2.vA pe.1.val.length pe.2.vc] := ⟨_, rfl⟩
     rw [← hw9]
     have HX9 : Hid (Ext w8 w9) := by rw [hw9]; exact below_sr HXU.out hgb0 _
     have HBX9 : Hid (w9.heap[gb]? = some (.cells #[.slice pe.2.kA pe.1.key.length pe.2.kc, .int .i64 pe.1.seq, .int .i64 pe.1.kind, .slice pe.2.vA pe.1.val.length pe.2.vc] 50 (0, 0))) := by rw [hw9]; exact setRow_heap _ _ _ _ _ _ hgb
     have HST9 := zHd (HST8.out.ext HX9.out)
     have HB9 := zHd (HB8.out.below HX9.out (zNr _))
     have HSZ9 : Hid (w8.heap.size ≤ w9.heap.size) := HX9.out.size
     have hmp := HMY.out pe.1 (List.mem_flatten.2 ⟨ql, List.mem_of_getElem? HQS.out, List.mem_of_getElem? HPM.out⟩)
     have HMP := zHd (mayN_iff.1 hmp)
     have HEM : Hid (Em w3 0 w3.heap.size pe.1 pe.2) := HESQ.out.each pe (List.mem_of_getElem? HPE.out)
     obtain ⟨qn, hqn, hqt⟩ : ∃ n : Nat, pe.1.seq = (n : Int) ∧ pe.1.seq.toNat = n := ⟨pe.1.seq.toNat, by have := HMP.out; omega, rfl⟩
     have HQN := zHd hqn
     have HQT := zHd hqt
     have HUQ : Hid (U64 qn) := by have := (Ent.may_u64 hmp).2.1; rw [hqt] at this; exact this
     have HTN : Hid (T0.length + n8 ≤ 269144064 ∧ 0 < n8) := by
      have h1 := blks_take_le Cs (k + 1)
      rw [offB_succ HQS.out, ← HT0.out, List.length_append, ← HN8.out] at h1
      have h2 := wr_pos ql
      rw [← HN8.out] at h2
      have := HBM.out
      refine ⟨by omega, by omega⟩
     have HFL : Hid ((bytesForm pe.1.key).length ≤ 60 ∧ (form qn).length ≤ 10 ∧ (form T0.length).length ≤ 10 ∧ (form n8).length ≤ 10) := by
      have h1 := HMP.out
      have h2 := (bytesForm_len (l := pe.1.key) ⟨by omega⟩).1
      exact ⟨by omega, form_len64 HUQ.out, form_len64 ⟨by have := HTM.out; omega⟩, form_len64 ⟨by have := HTN.out; omega⟩⟩
     clear h12 e11 hg hu hgb0 hgb hcs hw9 hmp hqn hqt d0 e0 e1 e2 e3 HXU HB8
     have b0 := cell_of HBX9.out (k := 0) rfl
     go_wp2_with fail
     refine (rbytes_any _ 0 w3.heap.size pe.1.key _ (HEM.out.k.below HST9.out.x (zNr _)) HST9.out.x.size (by have := HMP.out; omega)).mono ?_
     intro x v9 hN
     obtain ⟨NA9, nc9, rfl, hbs, hx⟩ := hN.out
     have HBS9 := zHd hbs
     have HSX9 := zHd (HST9.out.ext hx)
     have hx9 := hx
     clear b0
     obtain ⟨S9, hS9⟩ : ∃ T, T = S0 ++ bytesForm pe.1.key := ⟨_, rfl⟩
     have HS9 := zHd hS9
     have HSL9 : Hid (S9.length = S0.length + (bytesForm pe.1.key).length) := by rw [hS9]; exact List.length_append ..
     clear hS9
     go_wp2_with (at_builtin; refine w2_addr rfl (.tmp 47) (.tmp 50) rfl HSX9.out rfl _ _ _ (bytesForm pe.1.key) rfl HBS9.out (bytesForm_pos _) (by have := HTM.out; have := HFL.out;  omega) S9 HS9.out ?_)
     intro B9 c9x u9 hst hgr hf
     have HST10 := zHd hst
     have HBX10 : Hid (u9.heap[gb]? = _) := box_kept HSX9.out.r (ext_heap hx9 HBX9.out) hgr
     have HSV9 : Hid (w8.heap.size ≤ v9.heap.size) := zNt HSZ9.out hx.size
     have HB10 := zHd ((HB9.out.below hx HSZ9.out).grown hgr HSV9.out HRA9.out)
     have HSZ10 : Hid (w8.heap.size ≤ u9.heap.size) := zNt HSV9.out hgr.size
     have HRA10 : Hid (∀ g, (Value.slice B9 S9.length c9x).ownBlock = some g → g < wq.heap.size ∨ w8.heap.size ≤ g) := fun g hg => by
      rcases hf with hf | hf
      · exact HRA9.out g (by rw [← hf]; exact hg)
      · rw [hf] at hg; injection hg with hg; have := HSV9.out; omega
     clear hN hbs hx hst hgr hf hx9
     have b1 := cell_of HBX10.out (k := 1) rfl
     rw [HQN.out] at b1
     have hq : IntKind.u64.wrap (qn : Int) = (qn : Int) := by have := HMP.out; have := HQT.out; rw [IntKind.wrap_u64]; omega
     go_wp2_with fail
     refine (rnumber_any qn HUQ.out _).mono ?_
     intro x v10 hN
     obtain ⟨NA10, nc10, rfl, hbs, hx⟩ := hN.out
     have HBS10 := zHd hbs
     have HSX10 := zHd (HST10.out.ext hx)
     have hx10 := hx
     clear b1 hq
     obtain ⟨S10, hS10⟩ : ∃ T, T = S9 ++ form qn := ⟨_, rfl⟩
     have HS10 := zHd hS10
     have HSL10 : Hid (S10.length = S9.length + (form qn).length) := by rw [hS10]; exact List.length_append ..
     clear hS10
     go_wp2_with (at_builtin; refine w2_addr rfl (.tmp 52) (.tmp 56) rfl HSX10.out rfl _ _ _ (form qn) rfl HBS10.out (form_pos _) (by have := HTM.out; have := HFL.out; have := HSL9.out; omega) S10 HS10.out ?_)
     intro B10 c10x u10 hst hgr hf
     have HST11 := zHd hst
     have HSV10 : Hid (w8.heap.size ≤ v10.heap.size) := zNt HSZ10.out hx.size
     have HB11 := zHd ((HB10.out.below hx HSZ10.out).grown hgr HSV10.out HRA10.out)
     have HSZ11 : Hid (w8.heap.size ≤ u10.heap.size) := zNt HSV10.out hgr.size
     have HRA11 : Hid (∀ g, (Value.slice B10 S10.length c10x).ownBlock = some g → g < wq.heap.size ∨ w8.heap.size ≤ g) := fun g hg => by
      rcases hf with hf | hf
      · exact HRA10.out g (by rw [← hf]; exact hg)
      · rw [hf] at hg; injection hg with hg; have := HSV10.out; omega
     clear hN hbs hx hst hgr hf hx10
     have hq : IntKind.u64.wrap (T0.length : Int) = (T0.length : Int) := by have := HTM.out; rw [IntKind.wrap_u64]; omega
     go_wp2_with fail
     refine (rnumber_any T0.length ⟨by have := HTM.out; omega⟩ _).mono ?_
     intro x v11 hN
     obtain ⟨NA11, nc11, rfl, hbs, hx⟩ := hN.out
     have HBS11 := zHd hbs
     have HSX11 := zHd (HST11.out.ext hx)
     clear hq
     obtain ⟨S11, hS11⟩ : ∃ T, T = S10 ++ form T0.length := ⟨_, rfl⟩
     have HS11 := zHd hS11
     have HSL11 : Hid (S11.length = S10.length + (form T0.length).length) := by rw [hS11]; exact List.length_append ..
     clear hS11
     go_wp2_with (at_builtin; refine w2_addr rfl (.tmp 58) (.tmp 62) rfl HSX11.out rfl _ _ _ (form T0.length) rfl HBS11.out (form_pos _) (by have := HTM.out; have := HFL.out; have := HSL9.out; have := HSL10.out; omega) S11 HS11.out ?_)
     intro B11 c11x u11 hst hgr hf
     have HST12 := zHd hst
     have HSV11 : Hid (w8.heap.size ≤ v11.heap.size) := zNt HSZ11.out hx.size
     have HB12 := zHd ((HB11.out.below hx HSZ11.out).grown hgr HSV11.out HRA11.out)
     have HSZ12 : Hid (w8.heap.size ≤ u11.heap.size) := zNt HSV11.out hgr.size
     have HRA12 : Hid (∀ g, (Value.slice B11 S11.length c11x).ownBlock = some g → g < wq.heap.size ∨ w8.heap.size ≤ g) := fun g hg => by
      rcases hf with hf | hf
      · exact HRA11.out g (by rw [← hf]; exact hg)
      · rw [hf] at hg; injection hg with hg; have := HSV11.out; omega
     clear hN hbs hx hst hgr hf
     have hq : IntKind.u64.wrap (n8 : Int) = (n8 : Int) := by have := HTN.out; rw [IntKind.wrap_u64]; omega
     go_wp2_with fail
     refine (rnumber_any n8 ⟨by have := HTN.out; omega⟩ _).mono ?_
     intro x v12 hN
     obtain ⟨NA12, nc12, rfl, hbs, hx⟩ := hN.out
     have HBS12 := zHd hbs
     have HSX12 := zHd (HST12.out.ext hx)
     clear hq
     obtain ⟨S12, hS12⟩ : ∃ T, T = S11 ++ form n8 := ⟨_, rfl⟩
     have HS12 := zHd hS12
     have HSL12 : Hid (S12.length = S11.length + (form n8).length) := by rw [hS12]; exact List.length_append ..
     clear hS12
     go_wp2_with (at_builtin; refine w2_addr rfl (.tmp 64) (.tmp 68) rfl HSX12.out rfl _ _ _ (form n8) rfl HBS12.out (form_pos _) (by have := HTM.out; have := HFL.out; have := HSL9.out; have := HSL10.out; have := HSL11.out; omega) S12 HS12.out ?_)
     intro B12 c12x u12 hst hgr hf
     have HST13 := zHd hst
     have HSV12 : Hid (w8.heap.size ≤ v12.heap.size) := zNt HSZ12.out hx.size
     have HB13 := zHd ((HB12.out.below hx HSZ12.out).grown hgr HSV12.out HRA12.out)
     have HSZ13 : Hid (w8.heap.size ≤ u12.heap.size) := zNt HSV12.out hgr.size
     have HRA13 : Hid (∀ g, (Value.slice B12 S12.length c12x).ownBlock = some g → g < wq.heap.size ∨ w8.heap.size ≤ g) := fun g hg => by
      rcases hf with hf | hf
      · exact HRA12.out g (by rw [← hf]; exact hg)
      · rw [hf] at hg; injection hg with hg; have := HSV12.out; omega
     clear hN hbs hx hst hgr hf
     obtain ⟨T13, hT13⟩ : ∃ T, T = T0 ++ wr ql := ⟨_, rfl⟩
     have HT13 := zHd hT13
     clear hT13
     go_wp2_with (at_builtin; refine w2_addb rfl (.tmp 70) (.tmp 71) rfl HST13.out rfl _ _ _ (wr ql) rfl HB13.out (by rw [← HN8.out]; exact HTN.out.2) (by rw [← HN8.out]; have := HTN.out; omega) T13 HT13.out ?_)
     intro B13 c13x u13 hst
     have HST14 := zHd hst
     clear hst
     have hTT : T13 = blks (Cs.take (k + 1)) := by rw [HT13.out, HT0.out, offB_succ HQS.out]
     have hSS : S12 = form N ++ idxs 0 (Cs.take (k + 1)) := by
      rw [HS12.out, HS11.out, HS10.out, HS9.out, HS0.out, idxs_at HQS.out, idx1_at HQLM.out HPM.out, ← HT0.out, ← HN8.out, HQT.out]
      simp only [List.append_assoc]
     go_wp2_with fail
     go_roundw
     case rel => exact ⟨k + 1, B13, B12, c13x, c12x, HLT.out, by go_num, by rw [← hTT], by rw [← hSS], by rw [← hTT, ← hSS]; exact HST14⟩
     case measure => have := HLT.out; simp [intOf]; omega
    case obl =>
     refine ⟨fun u hu hd => ?_, fun u hu hd => ?_, fun u hu hd => ?_, fun u hu hd => ?_, fun u hu hd => ?_, fun u hu hd => ?_, fun u hu hd => ?_, fun u hu hd => ?_, fun u hu hd => ?_, fun u hu hd => ?_, fun u hu hd => ?_, fun u hu hd => ?_, fun u hu hd => ?_, trivial⟩
     all_goals try simp only [Act.put, zq]
     · go_simp
       exact zEr
     · go_simp
       exact zEr
     · have e0 : f1 0 = _ := hd 0 (by kernel_rfl)
       have e1 : f1 1 = _ := hd 1 (by kernel_rfl)
       go_simp
       exact zEr
     · have e2 : f1 2 = _ := hd 2 (by kernel_rfl)
       have hu2 := zEt (Ext.drew w8) hu
       have q0 := ext_cell hu2 d0
       go_simp
       exact zEr
     · go_simp
       exact zEr
     · go_simp
       exact zEr
     · have e4 : f1 4 = _ := hd 4 (by kernel_rfl)
       have e5 : f1 5 = _ := hd 5 (by kernel_rfl)
       go_simp
       exact zEr
     · have e6 : f1 6 = _ := hd 6 (by kernel_rfl)
       have hu2 := zEt (Ext.drew w8) hu
       have q0 := ext_cell hu2 d0
       go_simp
       exact zEr
     · have e7 : f1 7 = _ := hd 7 (by kernel_rfl)
       go_simp
       exact zEr
     · have e8 : f1 8 = _ := hd 8 (by kernel_rfl)
       have hs : IntKind.i64.wrap (m : Int) = (m : Int) := by have := HMQ.out.2.1; have := HQLM.out; rw [IntKind.wrap_i64]; omega
       go_simp
       exact zEr
     · have e3 : f1 3 = _ := hd 3 (by kernel_rfl)
       have e9 : f1 9 = _ := hd 9 (by kernel_rfl)
       go_simp
       exact zEr
     · have e10 : f1 10 = _ := hd 10 (by kernel_rfl)
       have hu2 := zEt (Ext.drew w8) hu
       have q0 := ext_cell hu2 e0
       have q1 := ext_cell hu2 e1
       have q2 := ext_cell hu2 e2
       have q3 := ext_cell hu2 e3
       go_simp
       exact zEr
     · have hu2 := zEt (Ext.drew w8) hu
       go_simp
       exact ⟨ext_alloc _ _, _, _, rfl, hu2.size, heap_at _ _ rfl, rfl⟩
  · have hkN : k = N := Nat.le_antisymm hk (Nat.le_of_not_lt hlt)
    have d : decide ((k : Int) < (N : Int)) = false := decide_eq_false (by omega)
    have dn : decide (k < N) = false := decide_eq_false hlt
    have hT : blks (Cs.take k) = blks Cs := by rw [hkN, ← HCL.out, List.take_length]
    have hS : form N ++ idxs 0 (Cs.take k) = index Cs := by rw [hkN, ← HCL.out, List.take_length]; rfl
    rw [hT, hS] at HST ⊢
    obtain ⟨T0, hT0⟩ : ∃ T0, T0 = blks Cs := ⟨_, rfl⟩
    obtain ⟨S0, hS0⟩ : ∃ S0, S0 = index Cs := ⟨_, rfl⟩
    rw [← hT0, ← hS0] at HST ⊢
    have HT0 := zHd hT0
    have HS0 := zHd hS0
    have HTM : Hid (T0.length ≤ 269144064 ∧ S0.length ≤ 294922 ∧ 0 < S0.length) := by
     have h1 := HBM.out; have h2 := HIM.out; have h3 := HFN.out; have h4 := form_pos N
     refine ⟨by rw [hT0]; exact h1, ?_, ?_⟩
     · rw [hS0]; unfold index; rw [HCL.out, List.length_append]; omega
     · rw [hS0]; unfold index; rw [HCL.out, List.length_append]; omega
    obtain ⟨Fl, hFl⟩ : ∃ Fl, Fl = Bl.mk (keysT Ls) := ⟨_, rfl⟩
    have HFL := zHd hFl
    have HLL : Hid (Ls.length = L.length) := by rw [HLS.out]; exact List.length_map ..
    have HKL : Hid ((keysT Ls).length ≤ 4096) := by
     have h1 := keysTo_len Ls Ls.length
     rw [HLL.out] at h1
     have := HLEN.out.2
     unfold Hid keysT; rw [HLL.out]; omega
    have HFM : Hid (0 < Fl.length ∧ Fl.length ≤ 65544) := by
     rw [hFl]
     have h1 := Bl.bsize_pos (keysT Ls).length
     have h2 := Bl.bsize_le (n := (keysT Ls).length) (by have := HKL.out; omega)
     rw [← Bl.mk_length] at h1 h2
     exact ⟨by omega, h2⟩
    obtain ⟨T1, hT1⟩ : ∃ T1, T1 = T0 ++ S0 := ⟨_, rfl⟩
    have HT1 := zHd hT1
    have HT1L : Hid (T1.length = T0.length + S0.length) := by rw [hT1]; exact List.length_append ..
    obtain ⟨T2, hT2⟩ : ∃ T2, T2 = T1 ++ Fl := ⟨_, rfl⟩
    have HT2 := zHd hT2
    have HT2L : Hid (T2.length = T1.length + Fl.length) := by rw [hT2]; exact List.length_append ..
    have HA2 : Hid (T2 = ahd Cs Ls) := by unfold Hid ahd; rw [hT2, hT1, hT0, hS0, hFl, List.append_assoc]
    have HLT2 : Hid (∀ x ∈ T2, x < 256) := by
     rw [HA2.out]
     refine ahd_lt HCU.out HMY.out (by rw [HCF.out]; exact HM.out.2.2.1) (fun e he => ?_) Ls
     rw [HCF.out, HLS.out] at he
     obtain ⟨p, hp, rfl⟩ := List.mem_map.1 he
     exact ⟨(HE.out.each p hp).bk, (HE.out.each p hp).bv⟩
    have HLV : Hid (Ls.length ≤ 4096) := by rw [HLL.out]; exact HLEN.out.2
    clear hk hlt hkN hT hS hT0 hS0 hFl hT1 hT2
    go_wp2_with (at_builtin; refine w2_addb rfl (.tmp 75) (.tmp 76) rfl HST.out rfl _ _ _ S0 rfl (Bs.of_own HST.out.r) HTM.out.2.2 (by have := HTM.out; omega) T1 HT1.out ?_)
    intro B1 c1x u1 hst
    have HST1 := zHd hst
    have HZ1 : Hid (hi ≤ u1.heap.size) := zNt HHI.out (zNt HX3.out.size hst.x.size)
    have HKY := zHd (rtkeys_any (c := c) ((HE.out.below HX3.out HHI.out).below hst.x (zNt HHI.out HX3.out.size)) HZ1.out HLEN.out.2)
    rw [← HLS.out] at HKY
    clear hst
    go_wp2_with fail
    refine HKY.out.mono ?_
    rintro x u2 ⟨kv, rfl, hkr, hx2⟩
    obtain ⟨KA, kc, xs, rfl, hrows, _, _⟩ := hkr.rows (zNt HZ1.out hx2.size)
    have HST2 := zHd (HST1.out.ext hx2)
    have HMK := zHd (Bl.rmake_any KA kc 0 u2.heap.size xs (keysT Ls) u2 hrows (zNr _) (by have := HKL.out; omega) (fun l hl x hx => by
     obtain ⟨e, he, rfl⟩ := keysTo_mem hl
     rw [HLS.out] at he
     obtain ⟨p, hp, rfl⟩ := List.mem_map.1 he
     exact (HE.out.each p hp).bk x hx) (fun l hl => by
     obtain ⟨e, he, rfl⟩ := keysTo_mem hl
     have := mayN_iff.1 (HM.out.2.2.2 e he)
     omega))
    rw [← Bl.mk_length, ← HFL.out] at HMK
    clear hkr hx2 hrows HKY
    go_wp2_with fail
    refine HMK.out.mono ?_
    rintro x u3 ⟨FA, fc, rfl, hof, hx3⟩
    have HST3 := zHd (HST2.out.ext hx3)
    have HOF : Hid (Bs u3 0 u3.heap.size (.slice FA Fl.length fc) Fl) := hof.bs
    clear hof hx3 HMK
    go_wp2_with (at_builtin; refine w2_addb rfl (.tmp 83) (.tmp 84) rfl HST3.out rfl _ _ _ Fl rfl HOF.out HFM.out.1 (by have := HTM.out; have := HFM.out; have := HT1L.out; omega) T2 HT2.out ?_)
    intro B2 c2x u4 hst
    have HST4 := zHd hst
    have HSM := zHd (Bl.rsum_any (.slice B2 T2.length c2x) 0 u4.heap.size T2 u4 hst.b.bs HLT2.out)
    obtain ⟨cr, hcr⟩ : ∃ cr, cr = Bl.crc T2 := ⟨_, rfl⟩
    have HCR := zHd hcr
    have HCR32 : Hid (cr < 4294967296) := by rw [hcr]; exact Bl.crc_lt HLT2.out
    rw [← hcr] at HSM
    clear hst hcr
    go_wp2_with fail
    refine HSM.out.mono ?_
    rintro x u5 ⟨rfl, rfl⟩
    clear HSM
    have hq : IntKind.u32.wrap (T0.length : Int) = (T0.length : Int) := by have := HTM.out; rw [IntKind.wrap_u32]; omega
    go_wp2_with fail
    refine (rtwordo_any T0.length (by have := HTM.out; omega) _).mono ?_
    rintro x v5 ⟨WA, wc, rfl, how, hx⟩
    have HST5 : Hid (W2 w3 T2 (be4 T0.length) B2 c2x WA wc v5) := by
     refine ⟨HST4.out.b.below hx, how.base HST4.out.x.size, zEt HST4.out.x hx, fun g h1 h2 => ?_⟩
     have a1 := (row_lt HST4.out.b g h1).2
     have a2 := (row_lt how g h2).1
     omega
    clear how hx hq
    have hq : IntKind.u32.wrap ((S0.length : Nat) : Int) = ((S0.length : Nat) : Int) := by rw [IntKind.wrap_u32]; have := HTM.out; have := HT1L.out; have := HFM.out; have := HLV.out; omega
    go_wp2_with fail
    refine (rtword_any S0.length (by have := HTM.out; have := HT1L.out; have := HFM.out; have := HLV.out; omega) _).mono ?_
    rintro x v5a ⟨NA5, nc5, rfl, hbs, hx⟩
    have HBS5 := zHd hbs
    have HSX5 := zHd (HST5.out.ext hx)
    clear hbs hx hq
    obtain ⟨F5, hF5⟩ : ∃ F, F = be4 T0.length ++ be4 S0.length := ⟨_, rfl⟩
    have HF5 := zHd hF5
    have HFL5 : Hid (F5.length = (be4 T0.length).length + 4) := by rw [hF5, List.length_append]; rfl
    clear hF5
    go_wp2_with (at_builtin; refine w2_addr rfl (.tmp 90) (.tmp 94) rfl HSX5.out rfl _ _ _ (be4 S0.length) rfl HBS5.out (by rw [be4_length]; decide) (by  have := be4_length T0.length; have := be4_length (S0.length); omega) F5 HF5.out ?_)
    intro D5 d5x y5 hst _ _
    have HST6 := zHd hst
    clear hst
    have hq : IntKind.u32.wrap ((T1.length : Nat) : Int) = ((T1.length : Nat) : Int) := by rw [IntKind.wrap_u32]; have := HTM.out; have := HT1L.out; have := HFM.out; have := HLV.out; omega
    go_wp2_with fail
    refine (rtword_any T1.length (by have := HTM.out; have := HT1L.out; have := HFM.out; have := HLV.out; omega) _).mono ?_
    rintro x v6a ⟨NA6, nc6, rfl, hbs, hx⟩
    have HBS6 := zHd hbs
    have HSX6 := zHd (HST6.out.ext hx)
    clear hbs hx hq
    obtain ⟨F6, hF6⟩ : ∃ F, F = F5 ++ be4 T1.length := ⟨_, rfl⟩
    have HF6 := zHd hF6
    have HFL6 : Hid (F6.length = (F5).length + 4) := by rw [hF6, List.length_append]; rfl
    clear hF6
    go_wp2_with (at_builtin; refine w2_addr rfl (.tmp 95) (.tmp 98) rfl HSX6.out rfl _ _ _ (be4 T1.length) rfl HBS6.out (by rw [be4_length]; decide) (by have := HFL5.out; have := be4_length T0.length; have := be4_length (T1.length); omega) F6 HF6.out ?_)
    intro D6 d6x y6 hst _ _
    have HST7 := zHd hst
    clear hst
    have hq : IntKind.u32.wrap ((Fl.length : Nat) : Int) = ((Fl.length : Nat) : Int) := by rw [IntKind.wrap_u32]; have := HTM.out; have := HT1L.out; have := HFM.out; have := HLV.out; omega
    go_wp2_with fail
    refine (rtword_any Fl.length (by have := HTM.out; have := HT1L.out; have := HFM.out; have := HLV.out; omega) _).mono ?_
    rintro x v7a ⟨NA7, nc7, rfl, hbs, hx⟩
    have HBS7 := zHd hbs
    have HSX7 := zHd (HST7.out.ext hx)
    clear hbs hx hq
    obtain ⟨F7, hF7⟩ : ∃ F, F = F6 ++ be4 Fl.length := ⟨_, rfl⟩
    have HF7 := zHd hF7
    have HFL7 : Hid (F7.length = (F6).length + 4) := by rw [hF7, List.length_append]; rfl
    clear hF7
    go_wp2_with (at_builtin; refine w2_addr rfl (.tmp 100) (.tmp 104) rfl HSX7.out rfl _ _ _ (be4 Fl.length) rfl HBS7.out (by rw [be4_length]; decide) (by have := HFL5.out; have := HFL6.out; have := be4_length T0.length; have := be4_length (Fl.length); omega) F7 HF7.out ?_)
    intro D7 d7x y7 hst _ _
    have HST8 := zHd hst
    clear hst
    have hq : IntKind.u32.wrap ((L.length : Nat) : Int) = ((L.length : Nat) : Int) := by rw [IntKind.wrap_u32]; have := HLEN.out; omega
    go_wp2_with fail
    refine (rtword_any L.length (by have := HLEN.out; omega) _).mono ?_
    rintro x v8a ⟨NA8, nc8, rfl, hbs, hx⟩
    have HBS8 := zHd hbs
    have HSX8 := zHd (HST8.out.ext hx)
    clear hbs hx hq
    obtain ⟨F8, hF8⟩ : ∃ F, F = F7 ++ be4 L.length := ⟨_, rfl⟩
    have HF8 := zHd hF8
    have HFL8 : Hid (F8.length = (F7).length + 4) := by rw [hF8, List.length_append]; rfl
    clear hF8
    go_wp2_with (at_builtin; refine w2_addr rfl (.tmp 105) (.tmp 109) rfl HSX8.out rfl _ _ _ (be4 L.length) rfl HBS8.out (by rw [be4_length]; decide) (by have := HFL5.out; have := HFL6.out; have := HFL7.out; have := be4_length T0.length; have := be4_length (L.length); omega) F8 HF8.out ?_)
    intro D8 d8x y8 hst _ _
    have HST9 := zHd hst
    clear hst
    go_wp2_with fail
    refine (rtword_any cr (by exact HCR32.out) _).mono ?_
    rintro x v9a ⟨NA9, nc9, rfl, hbs, hx⟩
    have HBS9 := zHd hbs
    have HSX9 := zHd (HST9.out.ext hx)
    clear hbs hx
    obtain ⟨F9, hF9⟩ : ∃ F, F = F8 ++ be4 cr := ⟨_, rfl⟩
    have HF9 := zHd hF9
    have HFL9 : Hid (F9.length = (F8).length + 4) := by rw [hF9, List.length_append]; rfl
    clear hF9
    go_wp2_with (at_builtin; refine w2_addr rfl (.tmp 110) (.tmp 112) rfl HSX9.out rfl _ _ _ (be4 cr) rfl HBS9.out (by rw [be4_length]; decide) (by have := HFL5.out; have := HFL6.out; have := HFL7.out; have := HFL8.out; have := be4_length T0.length; have := be4_length (cr); omega) F9 HF9.out ?_)
    intro D9 d9x y9 hst _ _
    have HST10 := zHd hst
    clear hst
    have HF24 : Hid (F9 = foot24 Cs Ls) := by
     have e1 : T1.length = (blks Cs).length + (index Cs).length := by rw [HT1L.out, HT0.out, HS0.out]
     unfold Hid foot24
     rw [HF9.out, HF8.out, HF7.out, HF6.out, HF5.out, e1, HT0.out, HS0.out, HFL.out, ← HLL.out, HCR.out, HA2.out]
     simp only [List.append_assoc]
    have HF24L : Hid (F9.length = 24) := by rw [HF24.out]; exact foot24_len _ _
    have HLF : Hid (∀ x ∈ F9, x < 256) := by
     rw [HF24.out]
     intro x hx
     unfold foot24 at hx
     simp only [List.mem_append] at hx
     rcases hx with h | h | h | h | h | h <;> exact be4_lt _ x h
    obtain ⟨T3, hT3⟩ : ∃ T3, T3 = T2 ++ F9 := ⟨_, rfl⟩
    have HT3 := zHd hT3
    have HT3L : Hid (T3.length = T2.length + 24) := by rw [hT3, List.length_append, HF24L.out]; rfl
    clear hT3
    go_wp2_with (at_builtin; refine w2_addb rfl (.tmp 114) (.tmp 115) rfl HST10.out rfl _ _ _ F9 rfl (Bs.of_own HST10.out.r) (by have := HF24L.out; omega) (by have := HTM.out; have := HFM.out; have := HT1L.out; have := HT2L.out; have := HF24L.out; omega) T3 HT3.out ?_)
    intro B3 c3x u9 hst
    have HST11 := zHd hst
    have HSM := zHd (Bl.rsum_any (.slice D9 F9.length d9x) 0 u9.heap.size F9 u9 hst.r.bs HLF.out)
    obtain ⟨cf, hcf⟩ : ∃ cf, cf = Bl.crc F9 := ⟨_, rfl⟩
    have HCF9 := zHd hcf
    have HCF32 : Hid (cf < 4294967296) := by rw [hcf]; exact Bl.crc_lt HLF.out
    rw [← hcf] at HSM
    clear hst hcf
    go_wp2_with fail
    refine HSM.out.mono ?_
    rintro x u10 ⟨rfl, rfl⟩
    clear HSM
    go_wp2_with fail
    refine (rtword_any cf (by exact HCF32.out) _).mono ?_
    rintro x v11a ⟨NA11, nc11, rfl, hbs, hx⟩
    have HBS11 := zHd hbs
    have HSX11 := zHd (HST11.out.ext hx)
    clear hbs hx
    obtain ⟨T4, hT4⟩ : ∃ T4, T4 = T3 ++ be4 cf := ⟨_, rfl⟩
    have HT4 := zHd hT4
    clear hT4
    go_wp2_with (at_builtin; refine w2_addb rfl (.tmp 116) (.tmp 119) rfl HSX11.out rfl _ _ _ (be4 cf) rfl HBS11.out (by rw [be4_length]; decide) (by have := HTM.out; have := HFM.out; have := HT1L.out; have := HT2L.out; have := HT3L.out; have := be4_length cf; omega) T4 HT4.out ?_)
    intro B4 c4x u11 hst
    have HST12 := zHd hst
    clear hst
    go_wp2_with fail
    refine bodyPost_ret (results_tmp rfl _ _ _) rfl ?_
    refine ⟨zEt HX3.out HST12.out.x, Cs, .slice B4 T4.length c4x, rfl, HCF.out, HCU.out, ?_⟩
    have e : tb Cs Ls = T4 := by
     unfold tb
     rw [HT4.out, HT3.out, HCF9.out, HF24.out, HA2.out, List.append_assoc]
    rw [e]
    exact HST12.out.b.base HX3.out.size
set_option maxRecDepth 100000 in
set_option maxHeartbeats 4000000 in
theorem rnum9_any {w : World} {lo hi : Nat} {A : Option Addr} {cc : Nat} {t : List Nat} (h : Bs w lo hi (.slice A t.length cc) t) (h4 : 4 ≤ t.length) (hb : ∀ x ∈ t, x < 256) :
    Calls Tryz.prog 36 #[.slice A t.length cc] w fun e w' => e = .returned (.int .i64 (num4 (t.take 4) : Int)) ∧ Ext w w' := by
 obtain ⟨a, b, c, d, rr, rfl⟩ : ∃ a b c d rr, t = a :: b :: c :: d :: rr := by
  match t, h4 with
  | a :: b :: c :: d :: rr, _ => exact ⟨a, b, c, d, rr, rfl⟩
 obtain ⟨A', c', e1, _, _, _, hby⟩ := h
 injection e1 with e1 e2 e3
 subst e1 e3
 obtain ⟨bl, o, rfl, _, _, ca⟩ := hby.at_ (i := 0) (by simp)
 obtain ⟨b1, o1, e1, _, _, cb⟩ := hby.at_ (i := 1) (by simp)
 obtain ⟨b2, o2, e2, _, _, cc2⟩ := hby.at_ (i := 2) (by simp)
 obtain ⟨b3, o3, e3, _, _, cd⟩ := hby.at_ (i := 3) (by simp)
 obtain ⟨rfl, rfl⟩ : bl = b1 ∧ o = o1 := ⟨congrArg Addr.block (Option.some.inj e1), congrArg Addr.off (Option.some.inj e1)⟩
 obtain ⟨rfl, rfl⟩ : bl = b2 ∧ o = o2 := ⟨congrArg Addr.block (Option.some.inj e2), congrArg Addr.off (Option.some.inj e2)⟩
 obtain ⟨rfl, rfl⟩ : bl = b3 ∧ o = o3 := ⟨congrArg Addr.block (Option.some.inj e3), congrArg Addr.off (Option.some.inj e3)⟩
 simp only [List.getElem_cons_zero, List.getElem_cons_succ] at ca cb cc2 cd
 simp only [Nat.add_zero] at ca
 have ha := hb a (by simp)
 have hb' := hb b (by simp)
 have hc := hb c (by simp)
 have hd := hb d (by simp)
 have HB := zHd (And.intro ha (And.intro hb' (And.intro hc hd)))
 have HS := zHd (sum_four ha hb' hc hd)
 have htk : (a :: b :: c :: d :: rr).take 4 = [a, b, c, d] := rfl
 rw [htk]
 have HN : Hid (num4 [a, b, c, d] = a * 16777216 + b * 65536 + c * 256 + d) := by unfold Hid; simp only [num4, List.foldl]; omega
 obtain ⟨n, hn⟩ : ∃ n, n = (a :: b :: c :: d :: rr).length := ⟨_, rfl⟩
 have n4 : (4 : Int) ≤ (n : Int) := by rw [hn]; simp; omega
 have n0 : (0 : Int) < (n : Int) := by omega
 have n1 : (1 : Int) < (n : Int) := by omega
 have n2 : (2 : Int) < (n : Int) := by omega
 have n3 : (3 : Int) < (n : Int) := by omega
 have m0 : 0 < n := by omega
 have m1 : 1 < n := by omega
 have m2 : 2 < n := by omega
 have m3 : 3 < n := by omega
 rw [← hn, HN.out]
 clear hn h4 htk n4
 clear e1 e3 hby hb ha hb' hc hd
 obtain ⟨p, hp⟩ : ∃ p, p = a * 16777216 := ⟨_, rfl⟩
 obtain ⟨q, hq⟩ : ∃ q, q = b * 65536 := ⟨_, rfl⟩
 obtain ⟨r, hr⟩ : ∃ r, r = c * 256 := ⟨_, rfl⟩
 have HP : Hid (p < 4294967296 ∧ q < 16777216 ∧ r < 65536 ∧ d < 256) := by have := HB.out; unfold Hid; omega
 rw [← hp, ← hq, ← hr] at HS ⊢
 obtain ⟨s1, hs1⟩ : ∃ s, s = p + q := ⟨_, rfl⟩
 obtain ⟨s2, hs2⟩ : ∃ s, s = s1 + r := ⟨_, rfl⟩
 obtain ⟨s3, hs3⟩ : ∃ s, s = s2 + d := ⟨_, rfl⟩
 have HT1 : Hid (IntKind.i64.wrap ((p : Int) + (q : Int)) = (s1 : Int)) := by rw [hs1]; have := HP.out; exact sum_two (by omega) (by omega)
 have HT2 : Hid (IntKind.i64.wrap ((s1 : Int) + (r : Int)) = (s2 : Int)) := by rw [hs2]; have := HP.out; exact sum_two (by omega) (by omega)
 have HT3 : Hid (IntKind.i64.wrap ((s2 : Int) + (d : Int)) = (s3 : Int)) := by rw [hs3]; have := HP.out; exact sum_two (by omega) (by omega)
 have he : p + q + r + d = s3 := by rw [hs3, hs2, hs1]
 rw [he]
 clear hp hq hr hs1 hs2 hs3 he HN
 go_enter Tryz.func36, Tryz.ntmps36
 go_upto_region 1 with (fail)
 refine flow (by kernel_rfl) [Is (.slice (some ⟨bl, o, none⟩) n cc), Is (.pointer (some ⟨bl, o + 0, none⟩)), Is (.int .u8 (a : Int)), Is (.int .i64 (a : Int)), Is (.int .i64 (p : Int)), Is (.slice (some ⟨bl, o, none⟩) n cc), Is (.pointer (some ⟨bl, o + 1, none⟩)), Is (.int .u8 (b : Int)), Is (.int .i64 (b : Int)), Is (.int .i64 (q : Int)), Is (.int .i64 (s1 : Int)), Is (.slice (some ⟨bl, o, none⟩) n cc), Is (.pointer (some ⟨bl, o + 2, none⟩)), Is (.int .u8 (c : Int)), Is (.int .i64 (c : Int)), Is (.int .i64 (r : Int)), Is (.int .i64 (s2 : Int)), Is (.slice (some ⟨bl, o, none⟩) n cc), Is (.pointer (some ⟨bl, o + 3, none⟩)), Is (.int .u8 (d : Int)), Is (.int .i64 (d : Int)), Is (.int .i64 (s3 : Int)), Is (.int .i64 (s3 : Int))] (by kernel_rfl) (by kernel_rfl) ?mono (fun f1 => ?obl) ?fin
 case mono =>
  simp only [List.forall_mem_cons, List.not_mem_nil, false_imp_iff, implies_true, and_true]
  and_intros <;> exact .is _
 case fin =>
  intro g1 u hu hg
  simp only [puts, Act.put, zq]
  have e22 : g1 22 = _ := hg 22 (by decide)
  have HXU : Hid (Ext w u) := zEt (Ext.drew w) hu
  rw [e22]
  clear hg hu e22
  go_wp2_with fail
  go_ret
  exact ⟨rfl, HXU.out⟩
 case obl =>
  refine ⟨fun u hu hd => ?_, fun u hu hd => ?_, fun u hu hd => ?_, fun u hu hd => ?_, fun u hu hd => ?_, fun u hu hd => ?_, fun u hu hd => ?_, fun u hu hd => ?_, fun u hu hd => ?_, fun u hu hd => ?_, fun u hu hd => ?_, fun u hu hd => ?_, fun u hu hd => ?_, fun u hu hd => ?_, fun u hu hd => ?_, fun u hu hd => ?_, fun u hu hd => ?_, fun u hu hd => ?_, fun u hu hd => ?_, fun u hu hd => ?_, fun u hu hd => ?_, fun u hu hd => ?_, fun u hu hd => ?_, trivial⟩
  all_goals try simp only [Act.put, zq]
  · go_simp
    exact zEr
  · have e0 : f1 0 = _ := hd 0 (by kernel_rfl)
    go_simp
    exact zEr
  · have e1 : f1 1 = _ := hd 1 (by kernel_rfl)
    have hu2 := zEt (Ext.drew w) hu
    have q0 := ext_cell hu2 ca
    go_simp
    exact zEr
  · have e2 : f1 2 = _ := hd 2 (by kernel_rfl)
    have hx := conv_byte HB.out.1
    go_simp
    first | exact zEr | (rw [hx]; exact zEr) | exact ⟨Ext.refl _, by rw [hx]⟩ | (rw [hx]; rfl) | rfl
  · have e3 : f1 3 = _ := hd 3 (by kernel_rfl)
    have hx := HS.out.1
    go_simp
    first | exact zEr | (rw [hx]; exact zEr) | exact ⟨Ext.refl _, by rw [hx]⟩ | (rw [hx]; rfl) | rfl
  · go_simp
    exact zEr
  · have e5 : f1 5 = _ := hd 5 (by kernel_rfl)
    go_simp
    exact zEr
  · have e6 : f1 6 = _ := hd 6 (by kernel_rfl)
    have hu2 := zEt (Ext.drew w) hu
    have q0 := ext_cell hu2 cb
    go_simp
    exact zEr
  · have e7 : f1 7 = _ := hd 7 (by kernel_rfl)
    have hx := conv_byte HB.out.2.1
    go_simp
    first | exact zEr | (rw [hx]; exact zEr) | exact ⟨Ext.refl _, by rw [hx]⟩ | (rw [hx]; rfl) | rfl
  · have e8 : f1 8 = _ := hd 8 (by kernel_rfl)
    have hx := HS.out.2.1
    go_simp
    first | exact zEr | (rw [hx]; exact zEr) | exact ⟨Ext.refl _, by rw [hx]⟩ | (rw [hx]; rfl) | rfl
  · have e4 : f1 4 = _ := hd 4 (by kernel_rfl)
    have e9 : f1 9 = _ := hd 9 (by kernel_rfl)
    have hx := HT1.out
    go_simp
    first | exact zEr | (rw [hx]; exact zEr) | exact ⟨Ext.refl _, by rw [hx]⟩ | (rw [hx]; rfl) | rfl
  · go_simp
    exact zEr
  · have e11 : f1 11 = _ := hd 11 (by kernel_rfl)
    go_simp
    exact zEr
  · have e12 : f1 12 = _ := hd 12 (by kernel_rfl)
    have hu2 := zEt (Ext.drew w) hu
    have q0 := ext_cell hu2 cc2
    go_simp
    exact zEr
  · have e13 : f1 13 = _ := hd 13 (by kernel_rfl)
    have hx := conv_byte HB.out.2.2.1
    go_simp
    first | exact zEr | (rw [hx]; exact zEr) | exact ⟨Ext.refl _, by rw [hx]⟩ | (rw [hx]; rfl) | rfl
  · have e14 : f1 14 = _ := hd 14 (by kernel_rfl)
    have hx := HS.out.2.2
    go_simp
    first | exact zEr | (rw [hx]; exact zEr) | exact ⟨Ext.refl _, by rw [hx]⟩ | (rw [hx]; rfl) | rfl
  · have e10 : f1 10 = _ := hd 10 (by kernel_rfl)
    have e15 : f1 15 = _ := hd 15 (by kernel_rfl)
    have hx := HT2.out
    go_simp
    first | exact zEr | (rw [hx]; exact zEr) | exact ⟨Ext.refl _, by rw [hx]⟩ | (rw [hx]; rfl) | rfl
  · go_simp
    exact zEr
  · have e17 : f1 17 = _ := hd 17 (by kernel_rfl)
    go_simp
    exact zEr
  · have e18 : f1 18 = _ := hd 18 (by kernel_rfl)
    have hu2 := zEt (Ext.drew w) hu
    have q0 := ext_cell hu2 cd
    go_simp
    exact zEr
  · have e19 : f1 19 = _ := hd 19 (by kernel_rfl)
    have hx := conv_byte HB.out.2.2.2
    go_simp
    first | exact zEr | (rw [hx]; exact zEr) | exact ⟨Ext.refl _, by rw [hx]⟩ | (rw [hx]; rfl) | rfl
  · have e16 : f1 16 = _ := hd 16 (by kernel_rfl)
    have e20 : f1 20 = _ := hd 20 (by kernel_rfl)
    have hx := HT3.out
    go_simp
    first | exact zEr | (rw [hx]; exact zEr) | exact ⟨Ext.refl _, by rw [hx]⟩ | (rw [hx]; rfl) | rfl
  · have e21 : f1 21 = _ := hd 21 (by kernel_rfl)
    go_simp
    exact zEr
set_option maxRecDepth 100000 in
theorem wpList_addheld {ops : Array Oper} {rest : List Oper} {o : Oper} {a : Act} {Q : Exit → Act → World → Prop} {u : World} (hgd : o.guard = none) (s x : Operand)
    (ho : o.op = .call { callee := .builtin .append, args := #[s, x], argTypes := #[28, 28] }) (B : Nat) (v : Value) (R : List (Ent × Hd)) (hs : a.eval s = v) (hgot : Held B v R u)
    (X : List (Ent × Hd)) (ad : Addr) (xc lo hi : Nat) (hx : a.eval x = .slice (some ad) X.length xc) (hX : Es u lo hi (some ad) X) (h1 : B ≤ lo) (h2 : hi ≤ u.heap.size) (h3 : ∀ g, v.ownBlock = some g → g < lo ∨ hi ≤ g) (hX0 : 0 < X.length) (hlen : R.length + X.length ≤ 1000000000000) (hB : B ≤ u.heap.size)
    (h : ∀ A' c' w', Held B (.slice A' (R ++ X).length c') (R ++ X) w' → u.grownBy w' v.ownBlock → wpList Tryz.prog ops Q rest (a.put o.dst (.slice A' (R ++ X).length c')) w') :
    wpList Tryz.prog ops Q (o :: rest) a u := by
 obtain ⟨i0, hi0', ix0, ix1, ix2⟩ := info_parts einfo
 refine wpList_append_own_at _ hgd s x 28 ho B 50 i0 _ 4 64 Tryz.underlying28 hi0' ix0 ix1 ix2 rfl (by decide) v R.length (erow R) hs hgot.row ad X.length xc (erow X) hx (erow_length X) (fun j q hj => ?n1) (erow_one X) ?n3 ?n4 hB (fun v' w5 hown hgr _ hat => ?rest)
 case n1 =>
  rcases hX.outer with h0 | ⟨b, of, he, _, _, hc⟩
  · have := congrArg List.length h0
    rw [erow_length] at this
    simp at this; omega
  · injection he with he; subst he; rw [addr_add]; exact hc j q hj
 case n3 => unfold maxLen; omega
 case n4 => omega
 case rest =>
  have hke : ∀ q : Ent × Hd, (∃ lo hi, B ≤ lo ∧ hi ≤ u.heap.size ∧ Em u lo hi q.1 q.2 ∧ ∀ g, v.ownBlock = some g → g < lo ∨ hi ≤ g) → ∃ lo hi, B ≤ lo ∧ hi ≤ w5.heap.size ∧ Em w5 lo hi q.1 q.2 ∧ ∀ g, v'.ownBlock = some g → g < lo ∨ hi ≤ g := by
   rintro q ⟨lo, hi, h1, h2, h3, h4⟩
   refine ⟨lo, hi, h1, zNt h2 hgr.size, h3.grown hgr h2 h4, fun g hg => ?_⟩
   rcases hat with e | e
   · exact h4 g (e ▸ hg)
   · rw [e] at hg; injection hg with hg; omega
  have hgot' : Held B v' (R ++ X) w5 := by
   refine ⟨by rw [List.length_append, erow_append]; exact hown, fun q hq => ?_⟩
   rcases List.mem_append.1 hq with hq | hq
   · exact hke q (hgot.each q hq)
   · exact hke q ⟨lo, hi, h1, h2, hX.each q hq, h3⟩
  obtain ⟨A', c', rfl⟩ := rowN_slice hgot'.row
  exact h A' c' w5 hgot' hgr
theorem rise_lt {L : List Ent} (h : Rise L) : ∀ (d i : Nat) (a b : Ent), L[i]? = some a → L[i + d + 1]? = some b → cmpE a b < 0 := by
 intro d
 induction d with
 | zero => intro i a b ha hb; exact h i a b ha hb
 | succ d ih =>
  intro i a b ha hb
  have hlt := (zLg.1 hb).1
  obtain ⟨m, hm⟩ : ∃ m, L[i + d + 1]? = some m := ⟨_, List.getElem?_eq_getElem (by omega)⟩
  have h1 := ih i a m ha hm
  have h2 := h (i + d + 1) m b hm hb
  have r1 := cmpE_range a m
  have r2 := cmpE_range m b
  have := cmpE_lt_trans (a := a) (b := m) (c := b) (by omega) (by omega)
  omega
theorem rise_at {L : List Ent} (h : Rise L) {i j : Nat} {a b : Ent} (hij : i < j) (ha : L[i]? = some a) (hb : L[j]? = some b) : cmpE a b < 0 := by
 obtain ⟨d, rfl⟩ : ∃ d, j = i + d + 1 := ⟨j - i - 1, by omega⟩
 exact rise_lt h d i a b ha hb
structure Cut (L : List Ent) (x : Ent) (n : Nat) : Prop where
 le : n ≤ L.length
 lo : ∀ j a, j < n → L[j]? = some a → cmpE a x < 0
 hi : ∀ j a, n ≤ j → L[j]? = some a → 0 ≤ cmpE a x
theorem cut_lo {L : List Ent} (h : Rise L) {x a : Ent} {m : Nat} (hm : L[m]? = some a) (hc : cmpE a x < 0) : ∀ j b, j < m + 1 → L[j]? = some b → cmpE b x < 0 := by
 intro j b hj hb
 rcases Nat.lt_or_ge j m with h1 | h1
 · have h2 := rise_at h h1 hb hm
   have r1 := cmpE_range b a
   have r2 := cmpE_range a x
   have := cmpE_lt_trans (a := b) (b := a) (c := x) (by omega) (by omega)
   omega
 · have : j = m := by omega
   subst this
   rw [hm] at hb; injection hb with hb; subst hb; exact hc
theorem cut_hi {L : List Ent} (h : Rise L) {x a : Ent} {m : Nat} (hm : L[m]? = some a) (hc : 0 ≤ cmpE a x) : ∀ j b, m ≤ j → L[j]? = some b → 0 ≤ cmpE b x := by
 intro j b hj hb
 rcases Nat.lt_or_ge m j with h1 | h1
 · have h2 := rise_at h h1 hm hb
   rcases Int.lt_or_le (cmpE b x) 0 with h3 | h3
   · have r1 := cmpE_range a b
     have r2 := cmpE_range b x
     have := cmpE_lt_trans (a := a) (b := b) (c := x) (by omega) (by omega)
     omega
   · exact h3
 · have : j = m := by omega
   subst this
   rw [hm] at hb; injection hb with hb; subst hb; exact hc
theorem wrap_sum {l h : Nat} (k : l + h < 1000000) : wrap64 ((l : Int) + (h : Int)) = ((l + h : Nat) : Int) := by unfold wrap64; omega
theorem wrap_div {m : Nat} (k : m < 1000000) : wrap64 ((m : Int) / 2) = ((m / 2 : Nat) : Int) := by unfold wrap64; omega
set_option maxRecDepth 100000 in
set_option maxHeartbeats 8000000 in
theorem first_any {w : World} {lo hi lo2 hi2 c : Nat} {A : Option Addr} {L : List (Ent × Hd)} {x : Ent} {g : Hd} (h : Es w lo hi A L) (hhi : hi ≤ w.heap.size) (hn : L.length ≤ 1024) (hr : Rise (L.map Prod.fst)) (hx : Em w lo2 hi2 x g) (hhi2 : hi2 ≤ w.heap.size) :
    Calls Tryz.prog 81 #[.slice A L.length c, x.at_ g] w fun e w' => ∃ n : Nat, Cut (L.map Prod.fst) x n ∧ e = .returned (.int .i64 (n : Int)) ∧ Ext w w' := by
 obtain ⟨w1, hw1⟩ : ∃ w1, w1 = w.alloc (.cells #[.slice g.kA x.key.length g.kc, .int .i64 x.seq, .int .i64 x.kind, .slice g.vA x.val.length g.vc] 50) := ⟨_, rfl⟩
 have HX1 : Hid (Ext w w1) := by rw [hw1]; exact ext_alloc _ _
 have HB1 : Hid (w1.heap[w.heap.size]? = some (.cells #[.slice g.kA x.key.length g.kc, .int .i64 x.seq, .int .i64 x.kind, .slice g.vA x.val.length g.vc] 50 (0, 0))) := by rw [hw1]; exact heap_at _ _ rfl
 have HE := zHd (h.below HX1.out hhi)
 have HM := zHd (hx.below HX1.out hhi2)
 have HH : Hid (hi ≤ w1.heap.size ∧ hi2 ≤ w1.heap.size) := ⟨zNt hhi HX1.out.size, zNt hhi2 HX1.out.size⟩
 have HR := zHd hr
 have HN := zHd hn
 clear h hhi hn hr hx hhi2
 unfold Ent.at_
 go_enter Tryz.func81, Tryz.ntmps81
 go_upto_region 1 with (fail)
 rw [← hw1]
 clear hw1
 go_step3
 go_wp2_with fail
 go_step3
 go_wp2_with fail
 go_loopw [5, 6, 7] (fun a b _ wr => ∃ l k : Nat, l ≤ k ∧ k ≤ L.length ∧ a = .int .i64 (l : Int) ∧ b = .int .i64 (k : Int) ∧ Hid (∀ j y, j < l → (L.map Prod.fst)[j]? = some y → cmpE y x < 0) ∧ Hid (∀ j y, k ≤ j → (L.map Prod.fst)[j]? = some y → 0 ≤ cmpE y x) ∧ Hid (Ext w1 wr))
  (fun a b _ _ => (intOf b).toNat - (intOf a).toNat)
 case atStart => exact ⟨0, L.length, Nat.zero_le _, zNr _, rfl, rfl, fun j y h => absurd h (Nat.not_lt_zero _), fun j y h hy => by have := (zLg.1 hy).1; rw [List.length_map] at this; omega, Ext.refl _⟩
 case round =>
  obtain ⟨l, k, hlk, hkn, rfl, rfl, HLO, HHI, HX⟩ := hrel
  by_cases hlt : l < k
  · have d : decide ((l : Int) < (k : Int)) = true := by rw [decide_eq_true_eq]; exact Int.ofNat_lt.2 hlt
    have dn : decide (l < k) = true := by rw [decide_eq_true_eq]; exact hlt
    obtain ⟨m, hm⟩ : ∃ m, m = (l + k) / 2 := ⟨_, rfl⟩
    have HMM : Hid (l ≤ m ∧ m < k ∧ k ≤ L.length ∧ L.length ≤ 1024) := by have := HN.out; unfold Hid; omega
    have hs1 := wrap_sum (l := l) (h := k) (by have := HN.out; omega)
    obtain ⟨s, hs⟩ : ∃ s, s = l + k := ⟨_, rfl⟩
    rw [← hs] at hs1 hm
    have hs2 := wrap_div (m := s) (by have := HN.out; omega)
    rw [← hm] at hs2
    have HS2 := zHd hs2
    have hml : m < L.length := by have := HMM.out; omega
    obtain ⟨p, hp⟩ : ∃ p, L[m]? = some p := ⟨_, List.getElem?_eq_getElem hml⟩
    have HP := zHd hp
    obtain ⟨bb, oo, rfl⟩ := HE.out.base (by omega)
    have HEr := zHd (HE.out.below HX.out HH.out.1)
    obtain ⟨c0, c1, c2, c3⟩ := HEr.out.get hp
    have HBr : Hid (wr.heap[w.heap.size]? = some (.cells #[.slice g.kA x.key.length g.kc, .int .i64 x.seq, .int .i64 x.kind, .slice g.vA x.val.length g.vc] 50 (0, 0))) := ext_heap HX.out HB1.out
    have e0 := cell_of HBr.out (k := 0) rfl
    have e1 := cell_of HBr.out (k := 1) rfl
    have e2 := cell_of HBr.out (k := 2) rfl
    have e3 := cell_of HBr.out (k := 3) rfl
    have n1 : (0 : Int) ≤ (m : Int) := Int.natCast_nonneg _
    have n2 : (m : Int) < (L.length : Int) := Int.ofNat_lt.2 hml
    have HCK : Hid (∀ u, Ext wr u → Calls Tryz.prog 79 #[p.1.at_ p.2, x.at_ g] u fun y w' => y = .returned (.int .i64 (cmpE p.1 x)) ∧ Ext u w') := fun u hu => by
     have hz := HX.out.size
     exact compare_any ((HEr.out.each p (List.mem_of_getElem? HP.out)).below hu (zNt HH.out.1 hz)) (HM.out.below (zEt HX.out hu) HH.out.2) (zNt HH.out.1 (zNt hz hu.size)) (zNt HH.out.2 (zNt hz hu.size))
    obtain ⟨z, hz⟩ : ∃ z, z = cmpE p.1 x := ⟨_, rfl⟩
    have HZ := zHd hz
    rw [← hz] at HCK
    have HPM : Hid ((L.map Prod.fst)[m]? = some p.1) := by rw [List.getElem?_map, HP.out]; exact rfl
    unfold Ent.at_ at HCK
    clear hlt hp hml hm hs hlk hkn hz
    by_cases hneg : z < 0
    · have dz : decide (z < 0) = true := decide_eq_true hneg
      have HNG := zHd hneg
      clear hneg
      go_upto_region 4 with (fail)
      refine flow (by kernel_rfl) [Is (.slice (some ⟨bb, oo, none⟩) L.length c), Is (.int .i64 (m : Int)), Is (.pointer (some ⟨bb, oo + m * 4, none⟩)), Is (.agg #[.slice p.2.kA p.1.key.length p.2.kc, .int .i64 p.1.seq, .int .i64 p.1.kind, .slice p.2.vA p.1.val.length p.2.vc]), Is (.agg #[.slice g.kA x.key.length g.kc, .int .i64 x.seq, .int .i64 x.kind, .slice g.vA x.val.length g.vc]), Is (.int .i64 z), Is (.bool true)] (by kernel_rfl) (by kernel_rfl) ?mono (fun f1 => ?obl) ?fin
      case mono =>
       simp only [List.forall_mem_cons, List.not_mem_nil, false_imp_iff, implies_true, and_true]
       and_intros <;> exact .is _
      case fin =>
       intro g1 u hu hg
       simp only [puts, Act.put, zq]
       have hxu := zEt (Ext.drew wr) hu
       have HXU : Hid (Ext w1 u) := zEt HX.out hxu
       have e6 : g1 6 = _ := hg 6 (by decide)
       rw [e6]
       clear hxu hu hg e6 hs1 hs2 e0 e1 e2 e3 c0 c1 c2 c3
       go_wp2_with fail
       go_roundw
       case rel =>
        have hmm := HMM.out
        refine ⟨m + 1, k, by omega, by omega, ?_, rfl, ?_, HHI, HXU⟩
        · rw [HS2.out, wrap_succ (by omega)]
        · exact cut_lo HR.out HPM.out (by rw [← HZ.out]; exact HNG.out)
       case measure =>
        have hmm := HMM.out
        rw [HS2.out, wrap_succ (by omega)]
        simp [intOf]; omega
      case obl =>
       refine ⟨fun u hu hd => ?_, fun u hu hd => ?_, fun u hu hd => ?_, fun u hu hd => ?_, fun u hu hd => ?_, fun u hu hd => ?_, fun u hu hd => ?_, trivial⟩
       all_goals try simp only [Act.put, zq]
       · go_simp
         exact zEr
       · go_simp
         exact zEr
       · have e0 : f1 0 = _ := hd 0 (by kernel_rfl)
         have e1 : f1 1 = _ := hd 1 (by kernel_rfl)
         go_simp
         exact zEr
       · have e2 : f1 2 = _ := hd 2 (by kernel_rfl)
         have hu2 := zEt (Ext.drew wr) hu
         have q0 := ext_cell hu2 c0
         have q1 := ext_cell hu2 c1
         have q2 := ext_cell hu2 c2
         have q3 := ext_cell hu2 c3
         go_simp
         exact zEr
       · have hu2 := zEt (Ext.drew wr) hu
         have q0 := ext_cell hu2 e0
         have q1 := ext_cell hu2 e1
         have q2 := ext_cell hu2 e2
         have q3 := ext_cell hu2 e3
         go_simp
         exact zEr
       · have e3 : f1 3 = _ := hd 3 (by kernel_rfl)
         have e4 : f1 4 = _ := hd 4 (by kernel_rfl)
         have hu2 := zEt (Ext.drew wr) hu
         go_simp
         refine (HCK.out _ hu2).mono ?_
         rintro y w9 ⟨rfl, hx9⟩
         exact ⟨_, rfl, hx9, rfl⟩
       · have e5 : f1 5 = _ := hd 5 (by kernel_rfl)
         go_simp
         exact zEr
    · have dz : decide (z < 0) = false := decide_eq_false hneg
      have HNG := zHd hneg
      clear hneg
      go_upto_region 4 with (fail)
      refine flow (by kernel_rfl) [Is (.slice (some ⟨bb, oo, none⟩) L.length c), Is (.int .i64 (m : Int)), Is (.pointer (some ⟨bb, oo + m * 4, none⟩)), Is (.agg #[.slice p.2.kA p.1.key.length p.2.kc, .int .i64 p.1.seq, .int .i64 p.1.kind, .slice p.2.vA p.1.val.length p.2.vc]), Is (.agg #[.slice g.kA x.key.length g.kc, .int .i64 x.seq, .int .i64 x.kind, .slice g.vA x.val.length g.vc]), Is (.int .i64 z), Is (.bool false)] (by kernel_rfl) (by kernel_rfl) ?mono (fun f1 => ?obl) ?fin
      case mono =>
       simp only [List.forall_mem_cons, List.not_mem_nil, false_imp_iff, implies_true, and_true]
       and_intros <;> exact .is _
      case fin =>
       intro g1 u hu hg
       simp only [puts, Act.put, zq]
       have hxu := zEt (Ext.drew wr) hu
       have HXU : Hid (Ext w1 u) := zEt HX.out hxu
       have e6 : g1 6 = _ := hg 6 (by decide)
       rw [e6]
       clear hxu hu hg e6 hs1 hs2 e0 e1 e2 e3 c0 c1 c2 c3
       go_wp2_with fail
       go_roundw
       case rel =>
        have hmm := HMM.out
        refine ⟨l, m, by omega, by omega, rfl, by rw [HS2.out], HLO, ?_, HXU⟩
        exact cut_hi HR.out HPM.out (by rw [← HZ.out]; have := HNG.out; omega)
       case measure =>
        have hmm := HMM.out
        rw [HS2.out]
        simp [intOf]; omega
      case obl =>
       refine ⟨fun u hu hd => ?_, fun u hu hd => ?_, fun u hu hd => ?_, fun u hu hd => ?_, fun u hu hd => ?_, fun u hu hd => ?_, fun u hu hd => ?_, trivial⟩
       all_goals try simp only [Act.put, zq]
       · go_simp
         exact zEr
       · go_simp
         exact zEr
       · have e0 : f1 0 = _ := hd 0 (by kernel_rfl)
         have e1 : f1 1 = _ := hd 1 (by kernel_rfl)
         go_simp
         exact zEr
       · have e2 : f1 2 = _ := hd 2 (by kernel_rfl)
         have hu2 := zEt (Ext.drew wr) hu
         have q0 := ext_cell hu2 c0
         have q1 := ext_cell hu2 c1
         have q2 := ext_cell hu2 c2
         have q3 := ext_cell hu2 c3
         go_simp
         exact zEr
       · have hu2 := zEt (Ext.drew wr) hu
         have q0 := ext_cell hu2 e0
         have q1 := ext_cell hu2 e1
         have q2 := ext_cell hu2 e2
         have q3 := ext_cell hu2 e3
         go_simp
         exact zEr
       · have e3 : f1 3 = _ := hd 3 (by kernel_rfl)
         have e4 : f1 4 = _ := hd 4 (by kernel_rfl)
         have hu2 := zEt (Ext.drew wr) hu
         go_simp
         refine (HCK.out _ hu2).mono ?_
         rintro y w9 ⟨rfl, hx9⟩
         exact ⟨_, rfl, hx9, rfl⟩
       · have e5 : f1 5 = _ := hd 5 (by kernel_rfl)
         go_simp
         exact zEr
  · have d : decide ((l : Int) < (k : Int)) = false := by rw [decide_eq_false_iff_not]; exact fun h => hlt (Int.ofNat_lt.1 h)
    have dn : decide (l < k) = false := by rw [decide_eq_false_iff_not]; exact hlt
    have HLK : Hid (l = k ∧ k ≤ L.length) := ⟨by omega, hkn⟩
    clear hlt hlk hkn
    go_wp2_with fail
    rw [Exit.noGoto_ret]
    go_ret
    exact ⟨l, ⟨by rw [List.length_map]; have := HLK.out; omega, HLO.out, by rw [HLK.out.1]; exact HHI.out⟩, rfl, zEt HX1.out HX.out⟩
end Go.Proofs.YtkdidghfcfcpfaaGreat
