/- Bits, Count and May. -/
import Derived.Test.YtdoieknjhdehmaaBmake
import Derived.Laws.ResultCell
namespace Go.Proofs.Ytdoieknjhdehmaa
open Go.ChangeShapes Go.WideShapes Go.ChangeAt Go.RowKit

/-- The bits, or five noughts. -/
def bitsA (l : List Nat) (m : Int) : List Nat := if m < 1 ∨ 1048576 < m then [0, 0, 0, 0, 0] else kbs l m.toNat
def bitsN (m : Int) : Int := if m < 1 ∨ 1048576 < m then 2 else 0
theorem bitsA_length (l : List Nat) (m : Int) : (bitsA l m).length = 5 := by unfold bitsA; split <;> rfl
theorem bits_ret {tmps : Array Value} {w : World} {g : Nat} {r : List Nat} {k : Value} {R : Ending → World → Prop} (h2 : tmps.getD 4 undef = .pointer (some ⟨g, 0, none⟩)) (h3 : tmps.getD 5 undef = k) (hr5 : r.length = 5) (hg : IArr w g 26 r)
    (h : R (.returned (.tuple #[.agg (irow r), k])) w) : bodyPost Try.prog Try.f13 R .ret { tmps := tmps, defers := [] } w := by
  refine ⟨rfl, .tuple #[.agg (irow r), k], ?_, h⟩
  have hr : (Try.f13).results = #[.cell 4 26, .tmp 5] := by kernel_rfl
  have hl := run_loadVar_row (P := Try.prog) w g 26 26 (irow r) (0, 0) _ hg Try.underlying26 rfl (by rw [irow_size, hr5]; exact info5)
  have ha : (asAddr (.pointer (some ⟨g, 0, none⟩))).run Try.prog w = .ok ⟨g, 0, none⟩ w := rfl
  rw [results_cell_tmp hr, h2, h3, ha, Result.andThen_ok, hl, Result.andThen_ok]
theorem zeros5 (w : World) : IArr (w.alloc (.cells #[.int .i64 0, .int .i64 0, .int .i64 0, .int .i64 0, .int .i64 0] 26)) w.heap.size 26 [0, 0, 0, 0, 0] := heap_alloc_new _ _

set_option maxRecDepth 100000 in
set_option maxHeartbeats 4000000 in
theorem bits_any {v : Value} {lo hi : Nat} {l : List Nat} {m : Int} {w : World} (hv : Bs w lo hi v l) (hhi : hi ≤ w.heap.size) (hl : ∀ x ∈ l, x < 256) (m1 : -9223372036854775808 ≤ m) (m2 : m ≤ 9223372036854775807) :
    Calls Try.prog 13 #[v, .int .i64 m] w fun e w' => e = .returned (.tuple #[.agg (irow (bitsA l m)), .int .i64 (bitsN m)]) ∧ Ext w w' := by
  by_cases ha : m < 1
  · have d : decide (m < 1) = true := decide_eq_true ha
    have HA : Hid (bitsA l m = [0, 0, 0, 0, 0]) := if_pos (.inl ha)
    have HN : Hid (bitsN m = 2) := if_pos (.inl ha)
    have HI5 := Lib.hid (zeros5 w)
    go_enter Try.func13, Try.ntmps13
    go_wp2_with fail
    refine bits_ret (r := [0, 0, 0, 0, 0]) rfl rfl rfl HI5.out ⟨by rw [HA.out, HN.out]; rfl, ext_alloc _ _⟩
  · have d : decide (m < 1) = false := decide_eq_false ha
    by_cases hb : 1048576 < m
    · have d2 : decide (1048576 < m) = true := decide_eq_true hb
      have HA : Hid (bitsA l m = [0, 0, 0, 0, 0]) := if_pos (.inr hb)
      have HN : Hid (bitsN m = 2) := if_pos (.inr hb)
      have HI5 := Lib.hid (zeros5 w)
      go_enter Try.func13, Try.ntmps13
      go_wp2_with fail
      refine bits_ret (r := [0, 0, 0, 0, 0]) rfl rfl rfl HI5.out ⟨by rw [HA.out, HN.out]; rfl, ext_alloc _ _⟩
    · have d2 : decide (1048576 < m) = false := decide_eq_false hb
      obtain ⟨n, rfl⟩ : ∃ n : Nat, m = (n : Int) := ⟨m.toNat, by omega⟩
      have HA : Hid (bitsA l (n : Int) = kbs l n) := if_neg (by omega)
      have HN : Hid (bitsN (n : Int) = 0) := if_neg (by omega)
      have HV := Lib.hid hv
      have HP := Lib.hid (places_any v lo hi l n (w.alloc (.cells #[.int .i64 0, .int .i64 0, .int .i64 0, .int .i64 0, .int .i64 0] 26)) (HV.out.alloc hhi _) (by simp; omega) hl (by omega) (by omega))
      have HI5 := Lib.hid (zeros5 w)
      clear ha hb hv m1 m2
      go_enter Try.func13, Try.ntmps13
      go_wp2_with fail
      refine Calls.mono HP.out ?_
      rintro e w1 ⟨rfl, hb⟩
      have HI1 : Hid (IArr w1 w.heap.size 26 [0, 0, 0, 0, 0]) := HI5.out.below hb (by simp)
      have HX1 : Hid (Ext w w1) := (ext_alloc w _).trans hb
      clear hb
      go_wp2_with (refine wpList_store_row rfl 26 (.tmp 4) (.tmp 15) rfl w.heap.size (irow (kbs l n)) rfl rfl 26 _ HI1.out info5 (by simp [irow_size, kbs_length]) (irow_one _) ?_)
      refine bits_ret (r := kbs l n) rfl rfl rfl (HI1.out.setRow _) ⟨by rw [HA.out, HN.out]; rfl, below_row HX1.out (Nat.le_refl _) _⟩

theorem and_u8 {x y : Nat} (h : x < 256) (k : y < 256) : bits .and .u8 (x : Int) (y : Int) = ((x &&& y : Nat) : Int) := by
  have hx : x &&& y < 2 ^ 8 := Nat.and_lt_two_pow _ (by omega)
  have h1 : (BitVec.ofInt 8 (x : Int)).toNat = x := by
    rw [BitVec.ofInt_natCast, BitVec.toNat_ofNat]; exact Nat.mod_eq_of_lt (by omega)
  have h2 : (BitVec.ofInt 8 (y : Int)).toNat = y := by
    rw [BitVec.ofInt_natCast, BitVec.toNat_ofNat]; exact Nat.mod_eq_of_lt (by omega)
  show IntKind.u8.wrap ((BitVec.ofInt 8 (x : Int) &&& BitVec.ofInt 8 (y : Int)).toNat : Int) = _
  rw [BitVec.toNat_and, h1, h2]
  simp only [IntKind.wrap, IntKind.signed, IntKind.bits]
  simp
  omega
theorem mask_and {x : Nat} (h : x < 256) (j : Nat) : (((x &&& 2 ^ (j % 8) : Nat) : Int) != 0) = (x / 2 ^ (j % 8) % 2 == 1) := by
  have h2 := byte_and x h (j % 8) (Nat.mod_lt _ (by decide))
  have e : (((x &&& 2 ^ (j % 8) : Nat) : Int) != 0) = !(x &&& 2 ^ (j % 8) == 0) := by
    cases h3 : (x &&& 2 ^ (j % 8) == 0) with
    | true => rw [beq_iff_eq] at h3; rw [h3]; rfl
    | false =>
      have : x &&& 2 ^ (j % 8) ≠ 0 := by intro h4; rw [h4] at h3; cases h3
      simp
      omega
  rw [e, h2, Bool.not_not]
theorem bit_at {F : List Nat} {j : Nat} (h : j / 8 < F.length) : bitOf F j = (F[j / 8] / 2 ^ (j % 8) % 2 == 1) := by
  unfold bitOf
  rw [List.getD_eq_getElem?_getD, List.getElem?_eq_getElem h]
  rfl

/-- The closure that tells of a bit. -/
theorem hasin_any (A : Option Addr) (n c : Nat) (w : World) : Calls Try.prog 32 #[.slice A n c] w fun e w' =>
    e = .returned (.func (.func 37) #[] #[.pointer (some ⟨w.heap.size, 0, none⟩)]) ∧ w' = w.alloc (.cells #[.slice A n c] 25) := by
  go_enter Try.func32, Try.ntmps32
  go_wp2_with fail
  go_ret
  exact ⟨rfl, rfl⟩
set_option maxRecDepth 100000 in
set_option maxHeartbeats 4000000 in
theorem hasone_any {w : World} {lo hi b c : Nat} {A : Option Addr} {F : List Nat} {j : Nat} (hc : w.cell? ⟨b, 0, none⟩ = some (.slice A F.length c)) (hu : Bs w lo hi (.slice A F.length c) F) (hF : ∀ x ∈ F, x < 256) (hj : j < 8 * F.length) (hl : F.length ≤ 131072) :
    Calls Try.prog 37 #[.int .i64 (j : Int), .pointer (some ⟨b, 0, none⟩)] w fun e w' => e = .returned (.bool (bitOf F j)) ∧ Ext w w' := by
  obtain ⟨q, hq⟩ : ∃ q, q = j / 8 := ⟨_, rfl⟩
  have hqn : q < F.length := by omega
  obtain ⟨x, hx⟩ : ∃ x, x = F[q] := ⟨_, rfl⟩
  have HX8 : Hid (x < 256) := by rw [hx]; exact hF _ (List.getElem_mem _)
  have HBT : Hid (bitOf F j = (x / 2 ^ (j % 8) % 2 == 1)) := by subst hq; rw [hx]; exact bit_at hqn
  have HMA := Lib.hid (mask_and HX8.out j)
  obtain ⟨A', c', he, _, _, _, hby⟩ := hu
  injection he with e1 _ e3
  subst e1 e3
  obtain ⟨g, o, rfl, _, _, c0⟩ := hby.at_ hqn
  rw [← hx] at c0
  have HJ8 : Hid ((j : Int) / 8 = (q : Int)) := by rw [hq]; unfold Hid; omega
  have HWQ : Hid (IntKind.i64.wrap (q : Int) = (q : Int)) := IntWalk.i64_in _ (by omega)
  obtain ⟨M, hM⟩ : ∃ M, M = 2 ^ (j % 8) := ⟨_, rfl⟩
  have HAN := Lib.hid (and_u8 HX8.out (show M < 256 by rw [hM]; exact pow8 j))
  have HMK := Lib.hid (fun W => mask_any j (by omega) W)
  rw [← hM] at HMK HMA HBT
  obtain ⟨z, hz⟩ : ∃ z, z = (x / M % 2 == 1) := ⟨_, rfl⟩
  rw [← hz] at HMA HBT
  have hqi : (q : Int) < (F.length : Int) := by omega
  have hji : (j : Int) ≤ 1048576 := by omega
  clear hq hx hM hz hby hF hj hl
  go_enter Try.func37, Try.ntmps37
  go_upto_region 1 with (fail)
  refine flow (by kernel_rfl) [Is (.slice (some ⟨g, o, none⟩) F.length c), Is (.int .i64 (j : Int)), Is (.int .i64 (q : Int)), Is (.pointer (some ⟨g, o + q, none⟩)), Is (.int .u8 (x : Int)), Is (.int .i64 (j : Int)), Is (.int .u8 (M : Int)), Is (.int .u8 ((x &&& M : Nat) : Int)), Is (.bool z), Is (.bool z)] (by kernel_rfl) (by kernel_rfl) ?mono (fun f1 => ?obl) ?fin
  case mono =>
    simp only [List.forall_mem_cons, List.not_mem_nil, false_imp_iff, implies_true, and_true]
    exact ⟨.is _, .is _, .is _, .is _, .is _, .is _, .is _, .is _, .is _, .is _⟩
  case fin =>
    intro g1 u hu hg
    simp only [puts, Act.put, List.setIfInBounds_toArray, List.set_cons_zero, List.set_cons_succ]
    have h9 : g1 9 = .bool z := hg 9 (by decide)
    rw [h9]
    clear hg
    go_wp2_with fail
    go_ret
    exact ⟨by rw [HBT.out]; rfl, Ext.trans (Ext.drew w) hu⟩
  case obl =>
    refine ⟨fun u hu hd => ?_, ?_⟩
    · have hu2 := Ext.trans (Ext.drew w) hu
      have q0 := ext_cell hu2 hc
      go_simp
      exact ⟨Ext.refl _, rfl⟩
    refine ⟨fun u hu hd => ?_, ?_⟩
    · simp only [Act.put, List.setIfInBounds_toArray, List.set_cons_zero, List.set_cons_succ]
      go_simp
      exact ⟨Ext.refl _, rfl⟩
    refine ⟨fun u hu hd => ?_, ?_⟩
    · simp only [Act.put, List.setIfInBounds_toArray, List.set_cons_zero, List.set_cons_succ]
      have e1 : f1 1 = .int .i64 (j : Int) := hd 1 (by kernel_rfl)
      have q1 := HJ8.out
      have q2 := HWQ.out
      go_simp
      exact ⟨Ext.refl _, rfl⟩
    refine ⟨fun u hu hd => ?_, ?_⟩
    · simp only [Act.put, List.setIfInBounds_toArray, List.set_cons_zero, List.set_cons_succ]
      have e0 : f1 0 = .slice (some ⟨g, o, none⟩) F.length c := hd 0 (by kernel_rfl)
      have e2 : f1 2 = .int .i64 (q : Int) := hd 2 (by kernel_rfl)
      go_simp
      exact ⟨Ext.refl _, rfl⟩
    refine ⟨fun u hu hd => ?_, ?_⟩
    · simp only [Act.put, List.setIfInBounds_toArray, List.set_cons_zero, List.set_cons_succ]
      have e3 : f1 3 = .pointer (some ⟨g, o + q, none⟩) := hd 3 (by kernel_rfl)
      have hu2 := Ext.trans (Ext.drew w) hu
      have q0 := ext_cell hu2 c0
      go_simp
      exact ⟨Ext.refl _, rfl⟩
    refine ⟨fun u hu hd => ?_, ?_⟩
    · simp only [Act.put, List.setIfInBounds_toArray, List.set_cons_zero, List.set_cons_succ]
      go_simp
      exact ⟨Ext.refl _, rfl⟩
    refine ⟨fun u hu hd => ?_, ?_⟩
    · simp only [Act.put, List.setIfInBounds_toArray, List.set_cons_zero, List.set_cons_succ]
      have e5 : f1 5 = .int .i64 (j : Int) := hd 5 (by kernel_rfl)
      go_simp
      refine (HMK.out u).mono ?_
      rintro y w9 ⟨rfl, rfl⟩
      exact ⟨_, rfl, Ext.refl _, rfl⟩
    refine ⟨fun u hu hd => ?_, ?_⟩
    · simp only [Act.put, List.setIfInBounds_toArray, List.set_cons_zero, List.set_cons_succ]
      have e4 : f1 4 = .int .u8 (x : Int) := hd 4 (by kernel_rfl)
      have e6 : f1 6 = .int .u8 (M : Int) := hd 6 (by kernel_rfl)
      have q1 := HAN.out
      go_simp
      exact ⟨Ext.refl _, rfl⟩
    refine ⟨fun u hu hd => ?_, ?_⟩
    · simp only [Act.put, List.setIfInBounds_toArray, List.set_cons_zero, List.set_cons_succ]
      have e7 : f1 7 = .int .u8 ((x &&& M : Nat) : Int) := hd 7 (by kernel_rfl)
      have q1 := HMA.out
      go_simp
      exact ⟨Ext.refl _, rfl⟩
    refine ⟨fun u hu hd => ?_, ?_⟩
    · simp only [Act.put, List.setIfInBounds_toArray, List.set_cons_zero, List.set_cons_succ]
      have e8 : f1 8 = .bool z := hd 8 (by kernel_rfl)
      go_simp
      exact ⟨Ext.refl _, rfl⟩
    trivial
set_option maxRecDepth 100000 in
set_option maxHeartbeats 4000000 in
theorem may_any {u v : Value} {lo hi lo2 hi2 : Nat} {F l : List Nat} {w : World} (hu : Bs w lo hi u F) (hhi : hi ≤ w.heap.size) (hF : ∀ x ∈ F, x < 256) (hv : Bs w lo2 hi2 v l) (hhi2 : hi2 ≤ w.heap.size) (hl : ∀ x ∈ l, x < 256) :
    Calls Try.prog 22 #[u, v] w fun e w' => e = .returned (.bool (!okF F.length || mayB F l)) ∧ Ext w w' := by
  have HU := Lib.hid hu
  have HV := Lib.hid hv
  have HF := Lib.hid hF
  have HL := Lib.hid hl
  obtain ⟨A, c, rfl, q1, q2, _, _⟩ := hu
  have HC := Lib.hid (check_any (w := w) (A := A) (n := F.length) (c := c) (by unfold maxLen at q2; omega))
  clear q1 q2 hv hF hl
  cases hok : okF F.length with
  | false =>
    have e4 : chk F.length = 4 := by unfold chk; rw [hok]; rfl
    rw [e4] at HC
    clear hok e4
    go_enter Try.func22, Try.ntmps22
    go_wp2_with fail
    refine Calls.mono HC.out ?_
    rintro e w2 ⟨rfl, rfl⟩
    go_wp2_with fail
    go_ret
    exact ⟨rfl, Ext.refl _⟩
  | true =>
    have e4 : chk F.length = 0 := by unfold chk; rw [hok]; rfl
    obtain ⟨n0, _, n1⟩ := okF_iff.1 hok
    rw [e4] at HC
    clear hok e4
    have HN0 : Hid (0 < F.length) := Nat.pos_of_ne_zero n0
    have HN1 := Lib.hid n1
    clear n0 n1
    go_enter Try.func22, Try.ntmps22
    go_wp2_with fail
    refine Calls.mono HC.out ?_
    rintro e w2 ⟨rfl, rfl⟩
    go_wp2_with fail
    have hwl : wrap64 ((F.length : Int) * 8) = ((8 * F.length : Nat) : Int) := by unfold wrap64; have := HN1.out; omega
    have hl8 : (F.length : Int) * 8 = ((8 * F.length : Nat) : Int) := by omega
    have HWL := Lib.hid hl8
    have hli : (F.length : Int) ≤ 131072 := by have := HN1.out; omega
    clear hwl hl8
    refine (hasin_any A F.length c w).mono ?_
    rintro e w1 ⟨rfl, hw1⟩
    have HX1 : Hid (Ext w w1) := by rw [hw1]; exact ext_alloc _ _
    have HB1 : Hid (w1.cell? ⟨w.heap.size, 0, none⟩ = some (.slice A F.length c)) := by rw [hw1]; exact cell_of (heap_at _ _ rfl) rfl
    have HP := Lib.hid (places_any v lo2 hi2 l (8 * F.length) w1 (HV.out.below HX1.out hhi2) (Nat.le_trans hhi2 HX1.out.size) HL.out (by have := HN0.out; omega) (by have := HN1.out; omega))
    clear hw1
    go_wp2_with fail
    rw [HWL.out]
    refine Calls.mono HP.out ?_
    rintro e w2 ⟨rfl, hb⟩
    have HX2 : Hid (Ext w1 w2) := hb
    clear hb
    go_wp2_with fail
    go_loopw [18] (fun i wr => ∃ k : Nat, k ≤ 5 ∧ i = .int .i64 (k : Int) ∧ Hid (∀ j ∈ (kbs l (8 * F.length)).take k, bitOf F j = true) ∧ Hid (Ext w1 wr)) (fun i _ => 5 - (intOf i).toNat)
    case atStart => exact ⟨0, by omega, rfl, Lib.hid (by simp), HX2⟩
    case round =>
      obtain ⟨k, hk, rfl, HAL, HXK⟩ := hrel
      by_cases hlt : k < 5
      · obtain ⟨j, hj⟩ : ∃ j, j = kb l (8 * F.length) k := ⟨_, rfl⟩
        have hkj : (kbs l (8 * F.length))[k]'(by rw [kbs_length]; exact hlt) = j := by rw [kbs_get, hj]
        have HMEM : Hid (j ∈ kbs l (8 * F.length)) := by rw [← hkj]; exact List.getElem_mem _
        have HTK : Hid ((kbs l (8 * F.length)).take (k + 1) = (kbs l (8 * F.length)).take k ++ [j]) := by rw [List.take_succ_eq_append_getElem (by rw [kbs_length]; exact hlt), hkj]; exact rfl
        have hix := irow_index (kbs_length l (8 * F.length)) hlt
        rw [hkj] at hix
        have HW : Hid (Ext w wr) := Ext.trans HX1.out HXK.out
        have HONE := Lib.hid (hasone_any (j := j) (ext_cell HXK.out HB1.out) (HU.out.below HW.out hhi) HF.out (by rw [hj]; exact kb_lt (by have := HN0.out; omega)) HN1.out)
        obtain ⟨z, hz⟩ : ∃ z, z = bitOf F j := ⟨_, rfl⟩
        rw [← hz] at HONE
        have HZ := Lib.hid hz
        clear hj hkj hz
        go_wp2_with fail
        refine Calls.mono HONE.out ?_
        rintro e w5 ⟨rfl, hb⟩
        have HX5 : Hid (Ext w1 w5) := Ext.trans HXK.out hb
        clear hb hix
        cases z with
        | false =>
          have HFL : Hid (mayB F l = false) := by
            unfold mayB Hid
            rw [List.all_eq_false]
            exact ⟨j, HMEM.out, by rw [← HZ.out]; decide⟩
          go_wp2_with fail
          go_ret
          exact ⟨by rw [HFL.out]; rfl, Ext.trans HX1.out HX5.out⟩
        | true =>
          go_wp2_with fail
          go_roundw
          case rel =>
            refine ⟨k + 1, by omega, by go_num, Lib.hid (fun i hi => ?_), HX5⟩
            rw [HTK.out] at hi
            rcases List.mem_append.1 hi with h | h
            · exact HAL.out i h
            · rw [List.mem_singleton] at h; rw [h]; exact HZ.out.symm
          case measure => simp [intOf]; omega
      · obtain rfl : k = 5 := by omega
        have HTR : Hid (mayB F l = true) := by
          unfold mayB Hid
          rw [List.all_eq_true]
          intro j hj
          exact HAL.out j (by rw [List.take_of_length_le (by rw [kbs_length]; exact Nat.le_refl _)]; exact hj)
        go_wp2_with fail
        go_ret
        exact ⟨by rw [HTR.out]; rfl, Ext.trans HX1.out HXK.out⟩
end Go.Proofs.Ytdoieknjhdehmaa
