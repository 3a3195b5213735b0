/- set: a key's bits made 1 in a filter of the call's own. -/
import Derived.Test.YtdoieknjhdehmaaBown
import Derived.Test.YtdoieknjhdehmaaTail
import Derived.Test.YtdoieknjhdehmaaBplaces
namespace Go.Proofs.Ytdoieknjhdehmaa
open Go.ChangeShapes Go.WideShapes Go.ChangeAt Go.RowKit

theorem irow_index {l : List Nat} (hl : l.length = 5) {i : Nat} (hi : i < 5) (w : World) : (Instr.index 26 (.agg (irow l)) (.int .i64 (i : Int))).run Try.prog w = .ok (.int .i64 (l[i] : Int)) w := by
  obtain ⟨a, b, c, d, e, rfl⟩ : ∃ a b c d e, l = [a, b, c, d, e] := by
    match l, hl with
    | [a, b, c, d, e], _ => exact ⟨a, b, c, d, e, rfl⟩
  rcases i with _ | _ | _ | _ | _ | i
  · kernel_rfl
  · kernel_rfl
  · kernel_rfl
  · kernel_rfl
  · kernel_rfl
  · omega
theorem or_u8 {x y : Nat} (h : x < 256) (k : y < 256) : bits .or .u8 (x : Int) (y : Int) = ((x ||| y : Nat) : Int) := by
  have hx : x ||| y < 2 ^ 8 := Nat.or_lt_two_pow (by omega) (by omega)
  have h1 : (BitVec.ofInt 8 (x : Int)).toNat = x := by
    rw [BitVec.ofInt_natCast, BitVec.toNat_ofNat]; exact Nat.mod_eq_of_lt (by omega)
  have h2 : (BitVec.ofInt 8 (y : Int)).toNat = y := by
    rw [BitVec.ofInt_natCast, BitVec.toNat_ofNat]; exact Nat.mod_eq_of_lt (by omega)
  show IntKind.u8.wrap ((BitVec.ofInt 8 (x : Int) ||| BitVec.ofInt 8 (y : Int)).toNat : Int) = _
  rw [BitVec.toNat_or, h1, h2]
  simp only [IntKind.wrap, IntKind.signed, IntKind.bits]
  simp
  omega
theorem pow8 (j : Nat) : 2 ^ (j % 8) < 256 := Nat.pow_lt_pow_right (a := 2) (m := j % 8) (n := 8) (by omega) (by omega)
theorem kbs_take (F l : List Nat) {k : Nat} (h : k < 5) (m : Nat) : ((kbs l m).take (k + 1)).foldl setB F = setB (((kbs l m).take k).foldl setB F) (kb l m k) := by
  rw [List.take_succ_eq_append_getElem (by rw [kbs_length]; exact h), List.foldl_append, kbs_get]
  rfl

set_option maxRecDepth 100000 in
set_option maxHeartbeats 4000000 in
theorem set_any (w : World) (B g c : Nat) (F : List Nat) (h : Own B F (.slice (some ⟨g, 0, none⟩) F.length c) w) (hB : B ≤ g) (hg : g < w.heap.size) (hF : ∀ x ∈ F, x < 256) (h0 : 0 < F.length) (h1 : F.length ≤ 131072)
    (v : Value) (lo hi : Nat) (l : List Nat) (hv : Bs w lo hi v l) (hhi : hi ≤ w.heap.size) (hl : ∀ x ∈ l, x < 256) :
    Calls Try.prog 29 #[.slice (some ⟨g, 0, none⟩) F.length c, v] w fun e w' => e = .returned (.tuple #[]) ∧ Own B (addK F l) (.slice (some ⟨g, 0, none⟩) F.length c) w' ∧ (∀ w0, Below B w0 w → Below B w0 w') := by
  have HF := Lib.hid hF
  have HO := Lib.hid h
  have HP := Lib.hid (places_any v lo hi l (8 * F.length) w hv hhi hl (by omega) (by omega))
  have e8 : wrap64 ((F.length : Int) * 8) = ((8 * F.length : Nat) : Int) := by unfold wrap64; omega
  clear h hF hv
  go_enter Try.func29, Try.ntmps29
  go_wp2_with fail
  have e9 : (F.length : Int) * 8 = ((8 * F.length : Nat) : Int) := by omega
  rw [e9]
  refine Calls.mono HP.out ?_
  rintro e w1 ⟨rfl, hb1⟩
  have HX1 : Hid (Ext w w1) := hb1
  have HO1 := Lib.hid (HO.out.below hb1)
  have hg1 : g < w1.heap.size := by have := hb1.size; omega
  have hBw : B ≤ w.heap.size := by omega
  clear hb1 e8 e9 hg
  go_wp2_with fail
  go_loopw [11] (fun i wr => ∃ k : Nat, k ≤ 5 ∧ i = .int .i64 (k : Int) ∧ Hid (Own B (((kbs l (8 * F.length)).take k).foldl setB F) (.slice (some ⟨g, 0, none⟩) F.length c) wr) ∧ Hid (∀ w0, Below B w0 w1 → Below B w0 wr)) (fun i _ => 5 - (intOf i).toNat)
  case atStart => exact ⟨0, by omega, rfl, HO1, Lib.hid (fun _ h => h)⟩
  case round =>
    obtain ⟨k, hk, rfl, HOK, HBK⟩ := hrel
    by_cases hlt : k < 5
    · have HIX := Lib.hid (irow_index (kbs_length l (8 * F.length)) hlt)
      have hix := HIX.out
      obtain ⟨G, hG⟩ : ∃ G, G = ((kbs l (8 * F.length)).take k).foldl setB F := ⟨_, rfl⟩
      have HOG : Hid (Own B G (.slice (some ⟨g, 0, none⟩) F.length c) wr) := by rw [hG]; exact HOK.out
      have hGl : G.length = F.length := by rw [hG, setBs_length]
      obtain ⟨j, hj⟩ : ∃ j, j = kb l (8 * F.length) k := ⟨_, rfl⟩
      have hjl : j < 8 * F.length := by rw [hj]; exact kb_lt (by omega)
      have hkj : (kbs l (8 * F.length))[k]'(by rw [kbs_length]; exact hlt) = j := by rw [kbs_get, hj]
      rw [hkj] at hix
      have HGN : Hid (((kbs l (8 * F.length)).take (k + 1)).foldl setB F = setB G j) := by rw [kbs_take F l hlt, ← hG, ← hj]; exact rfl
      obtain ⟨q, hq⟩ : ∃ q, q = j / 8 := ⟨_, rfl⟩
      have hqn : q < G.length := by omega
      obtain ⟨x, hx⟩ : ∃ x, x = G[q] := ⟨_, rfl⟩
      have HX8 : Hid (x < 256) := by rw [hx]; exact (show ∀ y ∈ G, y < 256 by rw [hG]; exact setBs_lt HF.out) _ (List.getElem_mem _)
      have HXD : Hid (setB G j = G.set q (x ||| 2 ^ (j % 8))) := by unfold setB Hid; rw [← hq, List.getD_eq_getElem?_getD, List.getElem?_eq_getElem hqn, hx]; rfl
      have c0 : wr.cell? ⟨g, q, none⟩ = some (.int .u8 (x : Int)) := by rw [hx]; exact HOG.out.cell hqn
      have HJ8 : Hid ((j : Int) / 8 = (q : Int)) := by rw [hq]; unfold Hid; omega
      have HWQ : Hid (IntKind.i64.wrap (q : Int) = (q : Int)) := IntWalk.i64_in _ (by omega)
      obtain ⟨M, hM⟩ : ∃ M, M = 2 ^ (j % 8) := ⟨_, rfl⟩
      have hqi : (q : Int) < (F.length : Int) := by omega
      have HQL := Lib.hid hqn
      have HOR := Lib.hid (or_u8 HX8.out (show M < 256 by rw [hM]; exact pow8 j))
      have HMK := Lib.hid (fun W => mask_any j (by omega) W)
      rw [← hM] at HMK HXD
      have hji : (j : Int) ≤ 1048576 := by omega
      clear hM hG hj hkj hq hx hqn hGl hk
      go_upto_region 3 with (fail)
      refine flow_tail (by kernel_rfl) [Is (.slice (some ⟨g, 0, none⟩) F.length c), Is (.int .i64 (j : Int)), Is (.int .i64 (q : Int)), Is (.pointer (some ⟨g, q, none⟩)), Is (.int .u8 (x : Int)), Is (.int .i64 (j : Int)), Is (.int .u8 (M : Int)), Is (.int .u8 ((x ||| M : Nat) : Int)), Is (.pointer (some ⟨g, q, none⟩))] 9 (by kernel_rfl) (by kernel_rfl) (by kernel_rfl) (by kernel_rfl) ?mono (fun f1 => ?obl) ?fin
      case mono =>
        simp only [List.forall_mem_cons, List.not_mem_nil, false_imp_iff, implies_true, and_true]
        exact ⟨.is _, .is _, .is _, .is _, .is _, .is _, .is _, .is _, .is _⟩
      case fin =>
        intro g1 u hu hg
        simp only [List.take_succ_cons, List.take_zero, List.drop_succ_cons, List.drop_zero, puts, Act.put, List.setIfInBounds_toArray, List.set_cons_zero, List.set_cons_succ]
        have h7 : g1 7 = .int .u8 ((x ||| M : Nat) : Int) := hg 7 (by decide)
        have h8 : g1 8 = .pointer (some ⟨g, q, none⟩) := hg 8 (by decide)
        rw [h7, h8]
        have HXU : Hid (Ext wr u) := Ext.trans (Ext.drew wr) hu
        have HOU := Lib.hid (HOG.out.below HXU.out)
        have c1 := ext_cell HXU.out c0
        have f1 : u.frozen? ⟨g, q, none⟩ = false := HOU.out.free q
        clear hg hu h7 h8 c0 hix
        go_wp2_with fail
        go_roundw
        case rel =>
          refine ⟨k + 1, by omega, by go_num, Lib.hid (by rw [HGN.out, HXD.out]; exact HOU.out.set q _), Lib.hid (fun w0 h => ?_)⟩
          exact ((HBK.out w0 h).trans (HXU.out.mono (by have := (HBK.out w1 (Below.refl _ _)).size; omega))).setCell hB _
        case measure => simp [intOf]; omega
      case obl =>
        refine ⟨fun u hu hd => ?_, ?_⟩
        · go_simp
          exact ⟨Ext.refl _, rfl⟩
        refine ⟨fun u hu hd => ?_, ?_⟩
        · simp only [Act.put, List.setIfInBounds_toArray, List.set_cons_zero, List.set_cons_succ]
          go_simp
          exact ⟨Ext.refl _, rfl⟩
        refine ⟨fun u hu hd => ?_, ?_⟩
        · simp only [Act.put, List.setIfInBounds_toArray, List.set_cons_zero, List.set_cons_succ]
          have e1 : f1 1 = .int .i64 (j : Int) := hd 1 (by kernel_rfl)
          have q1 := HJ8.out
          have q2 := HWQ.out
          go_simp
          exact ⟨Ext.refl _, rfl⟩
        refine ⟨fun u hu hd => ?_, ?_⟩
        · simp only [Act.put, List.setIfInBounds_toArray, List.set_cons_zero, List.set_cons_succ]
          have e0 : f1 0 = .slice (some ⟨g, 0, none⟩) F.length c := hd 0 (by kernel_rfl)
          have e2 : f1 2 = .int .i64 (q : Int) := hd 2 (by kernel_rfl)
          go_simp
          exact ⟨Ext.refl _, rfl⟩
        refine ⟨fun u hu hd => ?_, ?_⟩
        · simp only [Act.put, List.setIfInBounds_toArray, List.set_cons_zero, List.set_cons_succ]
          have e3 : f1 3 = .pointer (some ⟨g, q, none⟩) := hd 3 (by kernel_rfl)
          have hu2 := Ext.trans (Ext.drew wr) hu
          have q0 := ext_cell hu2 c0
          go_simp
          exact ⟨Ext.refl _, rfl⟩
        refine ⟨fun u hu hd => ?_, ?_⟩
        · simp only [Act.put, List.setIfInBounds_toArray, List.set_cons_zero, List.set_cons_succ]
          go_simp
          exact ⟨Ext.refl _, rfl⟩
        refine ⟨fun u hu hd => ?_, ?_⟩
        · simp only [Act.put, List.setIfInBounds_toArray, List.set_cons_zero, List.set_cons_succ]
          have e5 : f1 5 = .int .i64 (j : Int) := hd 5 (by kernel_rfl)
          go_simp
          refine (HMK.out u).mono ?_
          rintro y w9 ⟨rfl, rfl⟩
          exact ⟨_, rfl, Ext.refl _, rfl⟩
        refine ⟨fun u hu hd => ?_, ?_⟩
        · simp only [Act.put, List.setIfInBounds_toArray, List.set_cons_zero, List.set_cons_succ]
          have e4 : f1 4 = .int .u8 (x : Int) := hd 4 (by kernel_rfl)
          have e6 : f1 6 = .int .u8 (M : Int) := hd 6 (by kernel_rfl)
          have q1 := HOR.out
          go_simp
          exact ⟨Ext.refl _, rfl⟩
        refine ⟨fun u hu hd => ?_, ?_⟩
        · simp only [Act.put, List.setIfInBounds_toArray, List.set_cons_zero, List.set_cons_succ]
          have e0 : f1 0 = .slice (some ⟨g, 0, none⟩) F.length c := hd 0 (by kernel_rfl)
          have e2 : f1 2 = .int .i64 (q : Int) := hd 2 (by kernel_rfl)
          go_simp
          exact ⟨Ext.refl _, rfl⟩
        trivial
    · obtain rfl : k = 5 := by omega
      go_wp2_with fail
      have e := HOK.out
      rw [List.take_of_length_le (by rw [kbs_length]; exact Nat.le_refl _)] at e
      go_end0
      exact ⟨rfl, e, fun w0 h => HBK.out w0 (h.trans (HX1.out.mono (by omega)))⟩
end Go.Proofs.Ytdoieknjhdehmaa

