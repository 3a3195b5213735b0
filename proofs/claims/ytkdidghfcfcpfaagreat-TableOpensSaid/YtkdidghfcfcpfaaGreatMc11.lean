import Derived.Test.YtkdidghfcfcpfaaGreatMc10
import Derived.Test.YtkdidghfcfcpfaaGreatMc1
import Derived.Test.YtkdidghfcfcpfaaGreatMc6
import Derived.Test.YtkdidghfcfcpfaaGreatMc2
import Derived.Maps.AppendAt
import Derived.RegionTactic
import Derived.Deep.DeepCutAuto
import Derived.Laws.FloatArith
import Derived.Laws.Cover3
import Derived.Test.YtkdidghfcfcpfaaGreatMc3
import Derived.WalkLawsBesides
import Derived.WalkSpells
import Derived.Test.YtkdidghfcfcpfaaGreatMc0
namespace Go.Proofs.YtkdidghfcfcpfaaGreat.Bl
open Go.ChangeShapes Go.WideShapes Go.ChangeAt Go.RowKit
def halves : List Nat := (List.range 16).map (shn 4)
theorem halves_length : halves.length = 16 := by simp [halves]
theorem mask15 {m : Nat} (h : m < 4294967296) : bits .and .u32 (m : Int) 15 = ((m % 16 : Nat) : Int) := by
 have := u32_and_nat m 15 h (by omega)
 rw [nat_mask4] at this
 exact this
theorem half_bits {m : Nat} (h : m < 4294967296) : bits .xor .u32 ((m : Int) / 16) ((halves[m % 16]'(by rw [halves_length]; omega) : Nat) : Int) = (shn 4 m : Nat) := by
 have e : halves[m % 16]'(by rw [halves_length]; omega) = shn 4 (m % 16) := words_get (shn 4) 16 (m % 16) _
 have e2 : ((m / 16 : Nat) : Int) = (m : Int) / 16 := by omega
 rw [e, ← e2, xor_u32 (by omega) (shn4_lt16 (by omega)), ← shn4]
theorem reg_take (s : Nat) (l : List Nat) {k : Nat} (h : k < l.length) : reg s (l.take (k + 1)) = shn 8 (reg s (l.take k) ^^^ l[k]) := by
 rw [List.take_succ_eq_append_getElem h, reg_snoc]
theorem reg_take_lt {s : Nat} {l : List Nat} (hs : s < 4294967296) (hl : ∀ c ∈ l, c < 256) (k : Nat) : reg s (l.take k) < 4294967296 := reg_lt hs fun c hc => hl c (List.mem_of_mem_take hc)
set_option maxHeartbeats 1000000 in
theorem taken_any (s : Nat) (hs : s < 4294967296) (v : Value) (lo hi : Nat) (l : List Nat) (w : World) (hv : Bs w lo hi v l) (hhi : hi ≤ w.heap.size) (hl : ∀ c ∈ l, c < 256) :
    Calls Tryz.prog 146 #[.agg (rowv halves), .int .u32 (s : Int), v] w fun e w' => e = .returned (.int .u32 (reg s l : Nat)) ∧ Below w.heap.size w w' := by
 have HS := zHd hs
 have HL := zHd hl
 obtain ⟨A, c, rfl, q1, q2, q3, hby⟩ := hv
 have hlen : l.length ≤ 9223372036854775807 := by unfold maxLen at q2; omega
 clear hs hl q1 q2 q3
 have hA : Arr (w.alloc (.cells (rowv halves) 168)) w.heap.size 168 halves := heap_alloc_new _ _
 have HA := zHd hA
 have hby2 : By (w.alloc (.cells (rowv halves) 168)) lo hi A l := Sl.alloc hby hhi _
 have HBY := zHd hby2
 have HB := zHd ((Below.refl w.heap.size w).alloc (zNr _) (.cells (rowv halves) 168))
 obtain ⟨W, hW⟩ : ∃ W, W = w.alloc (.cells (rowv halves) 168) := ⟨_, rfl⟩
 have HW := zHd hW
 rw [← hW] at HA HBY HB
 clear hA hby hby2 hW
 go_enter Tryz.func146, Tryz.ntmps146
 go_wp2_with fail
 rw [← HW.out]
 go_loop [1, 12] (fun r i => ∃ (k m : Nat), k ≤ l.length ∧ i = .int .i64 (k : Int) ∧ r = .int .u32 (m : Int) ∧ Hid (m = reg s (l.take k))) (fun _ i => l.length - (intOf i).toNat)
 case atStart => exact ⟨0, s, Nat.zero_le _, rfl, rfl, zHd rfl⟩
 case round =>
  obtain ⟨k, m, hk, rfl, rfl, hm⟩ := hrel
  by_cases hlt : k < l.length
  · obtain ⟨b, o, rfl, _, _, hcell⟩ := HBY.out.at_ hlt
    have hmlt := zHd (show m < 4294967296 by rw [hm.out]; exact reg_take_lt HS.out HL.out k)
    have hc256 := HL.out l[k] (List.getElem_mem hlt)
    have hx := zHd (xor_u32 hmlt.out (show l[k] < 4294967296 by omega))
    go_wp2_with fail
    rw [hx.out]
    go_loop [1, 20] (fun r j => ∃ (i x : Nat), i ≤ 2 ∧ j = .int .i64 (i : Int) ∧ r = .int .u32 (x : Int) ∧ Hid (x = shn (4 * i) (m ^^^ l[k]))) (fun _ j => 2 - (intOf j).toNat)
    case atStart => exact ⟨0, m ^^^ l[k], Nat.zero_le _, rfl, rfl, zHd rfl⟩
    case round =>
     obtain ⟨i, x, hi2, rfl, rfl, hx2⟩ := hrel
     have hxlt : x < 4294967296 := by rw [hx2.out]; exact shn_lt (xor_lt hmlt.out (by omega))
     by_cases hlt2 : i < 2
     · have hcell2 := HA.out.cell (x % 16) (by rw [halves_length]; omega)
       have hmask := mask15 hxlt
       have HB2 := zHd (half_bits hxlt)
       have h16 : x % 16 < 16 := by omega
       go_wp2_with fail
       go_round
       case rel => exact ⟨i + 1, shn 4 x, by omega, by go_num, by rw [HB2.out], zHd (by rw [hx2.out, ← shn_add]; congr 1)⟩
       case measure => simp [intOf]; omega
     · obtain rfl : i = 2 := by omega
       clear hxlt
       go_wp2_with fail
       go_round
       case rel => exact ⟨k + 1, x, by omega, by go_num, rfl, zHd (by rw [hx2.out, reg_take s l hlt, hm.out])⟩
       case measure => simp [intOf]; omega
  · go_wp2_with fail
    go_ret
    obtain rfl : k = l.length := by omega
    exact ⟨by rw [hm.out, List.take_length]; rfl, HB.out⟩
end Go.Proofs.YtkdidghfcfcpfaaGreat.Bl
namespace Go.Proofs.YtkdidghfcfcpfaaGreat.Bl
open Go.ChangeShapes Go.WideShapes Go.ChangeAt Go.RowKit
theorem xor_ones32 {m : Nat} (h : m < 4294967296) : bits BinOp.xor IntKind.u32 IntKind.u32.max (m : Int) = ((m ^^^ ones : Nat) : Int) := by
 have e : IntKind.u32.max = ((4294967295 : Nat) : Int) := by kernel_rfl
 rw [e, xor_u32 (by omega) h, Nat.xor_comm]
 rfl
theorem table_halves (w : World) : Calls Tryz.prog 145 #[] w fun e w' => e = .returned (.agg (rowv halves)) ∧ Below w.heap.size w w' := table_any w
theorem reg_flat (s : Nat) (ls : List (List Nat)) {k : Nat} (h : k < ls.length) : reg s (ls.take (k + 1)).flatten = reg (reg s (ls.take k).flatten) ls[k] := by
 rw [flat_take_succ ls h, reg_append]
set_option maxHeartbeats 1000000 in
theorem sum_any (A : Option Addr) (c lo hi : Nat) (vs : List Value) (ls : List (List Nat)) (w : World) (h : Rows2 w lo hi A vs ls) (hhi : hi ≤ w.heap.size) (hc : c ≤ maxLen) (hlc : ls.length ≤ c) (hl : ∀ l ∈ ls, ∀ x ∈ l, x < 256) :
    Calls Tryz.prog 126 #[.slice A ls.length c] w fun e w' => e = .returned (.int .u32 (crc ls.flatten : Nat)) ∧ Below w.heap.size w w' := by
 have hlen : ls.length ≤ 9223372036854775807 := by unfold maxLen at hc; omega
 have HL := zHd hl
 have HROW := zHd h
 have htop : ∀ k : Nat, reg ones (ls.take k).flatten < 4294967296 := fun k => reg_lt ones_lt fun x hx => by
  obtain ⟨l, hl1, hl2⟩ := List.mem_flatten.1 hx
  exact hl l (List.mem_of_mem_take hl1) x hl2
 have HT := zHd htop
 clear hc hlc hl h htop
 go_enter Tryz.func126, Tryz.ntmps126
 go_wp2_with fail
 refine (table_halves _).mono ?_
 rintro e w1 ⟨rfl, hb1⟩
 have hz1 := hb1.size
 have HB1 := zHd hb1
 clear hb1
 go_wp2_with (refine wpList_store_row rfl 168 (.tmp 3) (.tmp 7) rfl w1.heap.size (rowv halves) rfl rfl 168 _ (heap_alloc_new _ _) info16 (by simp [rowv_size, halves_length]) (rowv_one _) ?_)
 obtain ⟨W, hW⟩ : ∃ W, W = (w1.alloc (Obj.cells #[Value.int IntKind.u32 0, Value.int IntKind.u32 0, Value.int IntKind.u32 0, Value.int IntKind.u32 0, Value.int IntKind.u32 0, Value.int IntKind.u32 0, Value.int IntKind.u32 0, Value.int IntKind.u32 0, Value.int IntKind.u32 0, Value.int IntKind.u32 0, Value.int IntKind.u32 0, Value.int IntKind.u32 0, Value.int IntKind.u32 0, Value.int IntKind.u32 0, Value.int IntKind.u32 0, Value.int IntKind.u32 0] 168)).setRow w1.heap.size (rowv halves) := ⟨_, rfl⟩
 have HA : Hid (Arr W w1.heap.size 168 halves) := by rw [hW]; exact setRow_heap _ _ _ _ _ (0, 0) (heap_alloc_new _ _)
 have HB : Hid (Below w.heap.size w W) := by rw [hW]; exact below_row (HB1.out.alloc hz1 _) hz1 _
 have HZ : Hid (w1.heap.size < W.heap.size) := by rw [hW]; simp [Hid]
 rw [← hW]
 clear hW HB1
 go_loopw [4, 10] (fun r i wr => ∃ (k m : Nat), k ≤ ls.length ∧ i = .int .i64 (k : Int) ∧ r = .int .u32 (m : Int) ∧ Hid (m = reg ones (ls.take k).flatten) ∧ Arr wr w1.heap.size 168 halves ∧ w1.heap.size < wr.heap.size ∧ Below w.heap.size w wr) (fun _ i _ => ls.length - (intOf i).toNat)
 case atStart => exact ⟨0, ones, Nat.zero_le _, rfl, rfl, zHd rfl, HA.out, HZ.out, HB.out⟩
 case round =>
  obtain ⟨k, m, hk, rfl, rfl, hm, ha, hz, hb⟩ := hrel
  have HA2 := zHd ha
  have HB2 := zHd hb
  have HM := zHd (show m < 4294967296 by rw [hm.out]; exact HT.out k)
  clear ha hb
  by_cases hlt : k < ls.length
  · have hwr := HROW.out.below HB2.out hhi
    obtain ⟨b, o, A', c', rfl, hcell, q1, q2, q3, q4⟩ := hwr.at_ hlt
    have HV : Hid (Bs wr lo hi (.slice A' ls[k].length c') ls[k]) := ⟨A', c', rfl, q1, q2, q3, q4⟩
    clear hwr q1 q2 q3 q4
    go_wp2_with (refine wpList_load_row rfl 168 (.tmp 3) rfl w1.heap.size rfl 168 _ (0, 0) _ HA2.out Tryz.underlying168 rfl info16 ?_)
    refine (taken_any m HM.out _ lo hi ls[k] wr HV.out (by omega) (fun x hx => HL.out _ (List.getElem_mem hlt) x hx)).mono ?_
    rintro e w2 ⟨rfl, hb2⟩
    have HB3 := zHd hb2
    have hz2 := hb2.size
    clear hb2
    go_wp2_with fail
    go_roundw
    case rel => exact ⟨k + 1, _, by omega, by go_num, rfl, zHd (by rw [reg_flat ones ls hlt, hm.out]), HA2.out.below HB3.out hz, by omega, HB2.out.trans (HB3.out.mono (by omega))⟩
    case measure => simp [intOf]; omega
  · have HX := zHd (xor_ones32 HM.out)
    go_wp2_with fail
    go_ret
    obtain rfl : k = ls.length := by omega
    exact ⟨by rw [HX.out, hm.out, List.take_length]; rfl, HB2.out⟩
theorem more_any (s : Nat) (hs : s < 4294967296) (v : Value) (lo hi : Nat) (l : List Nat) (w : World) (hv : Bs w lo hi v l) (hhi : hi ≤ w.heap.size) (hl : ∀ c ∈ l, c < 256) :
    Calls Tryz.prog 138 #[.int .u32 (s : Int), v] w fun e w' => e = .returned (.int .u32 (more s l : Nat)) ∧ Below w.heap.size w w' := by
 have HV := zHd hv
 have HL := zHd hl
 have H1 := zHd (xor_lt hs ones_lt)
 have H2 := zHd (xor_ones32 hs)
 have H3 := zHd (xor_ones32 (reg_lt (xor_lt hs ones_lt) hl))
 obtain ⟨A, c, rfl, _, _, _, _⟩ := hv
 clear hs hl
 go_enter Tryz.func138, Tryz.ntmps138
 go_wp2_with fail
 refine (table_halves _).mono ?_
 rintro e w1 ⟨rfl, hb1⟩
 have HB1 := zHd hb1
 have hz1 := hb1.size
 clear hb1
 go_wp2_with fail
 rw [H2.out]
 refine (taken_any _ H1.out _ lo hi l w1 (HV.out.below HB1.out hhi) (by omega) HL.out).mono ?_
 rintro e w2 ⟨rfl, hb2⟩
 have HB2 := zHd (HB1.out.trans (hb2.mono hz1))
 clear hb2
 go_wp2_with fail
 go_ret
 exact ⟨by rw [H3.out]; rfl, HB2.out⟩
theorem rows_one {w : World} {lo hi : Nat} {v : Value} {l : List Nat} (h : Bs w lo hi v l) (hhi : hi ≤ w.heap.size) : Rows2 (w.alloc (.cells #[v] 22)) 0 (w.heap.size + 1) (some ⟨w.heap.size, 0, none⟩) [v] [l] := by
 refine ⟨.inr ⟨w.heap.size, 0, rfl, Nat.zero_le _, by omega, fun i u hu => ?_⟩, rfl, fun i u r hu hr => ?_⟩
 · rw [World.cell?_alloc_at _ _ _ _ rfl, Nat.zero_add]
   simpa using hu
 · cases i with
   | zero => simp at hu hr; subst hu hr; exact (h.alloc hhi _).wide (Nat.zero_le _) (by omega)
   | succ i => simp at hu
end Go.Proofs.YtkdidghfcfcpfaaGreat.Bl
namespace Go.Proofs.YtkdidghfcfcpfaaGreat
open Go.ChangeShapes Go.WideShapes Go.ChangeAt Go.RowKit
theorem enters_closed1 : ∀ args w, (callFunc 125 args).run Tryz.prog w = .ok (.enter 125 args) w := enters_of Tryz.func125 (by kernel_rfl) rfl
structure FootI (w : World) (fb : Nat) (l : List Nat) (u : World) : Prop where
 below : Below fb w u
 ex : ∃ A c, Boxed u fb 22 (.slice A l.length c) ∧ Own (fb + 1) l (.slice A l.length c) u
theorem FootI.ext {w u u' : World} {fb : Nat} {l : List Nat} (h : FootI w fb l u) (hx : Ext u u') (hfb : fb ≤ u.heap.size) : FootI w fb l u' := by
 obtain ⟨A, c, h1, h2⟩ := h.ex
 exact ⟨h.below.trans (hx.mono hfb), A, c, ext_heap hx h1, h2.below hx⟩
set_option maxHeartbeats 1000000 in
theorem closed1_any {w u : World} {fb n : Nat} {l : List Nat} (h : FootI w fb l u) (hn : n < 4294967296) (hl : l.length ≤ 1000) :
    Calls Tryz.prog 125 #[.int .u32 (n : Int), .pointer (some ⟨fb, 0, none⟩)] u fun x u' => x = .returned (.tuple #[]) ∧ FootI w fb (l ++ be4 n) u' := by
 obtain ⟨A, c, hb, ho⟩ := h.ex
 have HB := zHd hb
 have HO := zHd ho
 have HW := zHd h.below
 have HN := zHd hn
 have HL := zHd hl
 have c0 := hb.cell
 have HX4 := zHd (bs_be4 u n)
 clear h hb ho hn hl
 go_enter Tryz.func125, Tryz.ntmps125
 go_wp2_with (at_builtin; refine wpList_addrow rfl (.tmp 3) (.tmp 15) rfl (fb + 1) _ l rfl (HO.out.below (ext_alloc _ _)) _ _ _ (be4 n) rfl HX4.out (by rw [be4_length]; decide) (by rw [be4_length]; have := HL.out; omega) ?hB ?_)
 case hB => exact zNt HB.out.lt (ext_alloc _ _).size
 intro A' c' w' ho hg
 have HO2 := zHd ho
 have HB2 : Hid (Boxed w' fb 22 (.slice A l.length c)) := (hg.block fb (Nat.lt_of_lt_of_le HB.out.lt (ext_alloc _ _).size) (fun e => by have := (row_lt HO.out _ e.symm).1; omega)).trans (ext_heap (ext_alloc _ _) HB.out)
 have HW2 : Hid (Below fb w w') := HW.out.trans (Below.trans ((ext_alloc u _).mono (Nat.le_of_lt HB.out.lt)) ⟨hg.os, hg.tape, hg.output, hg.size, fun i hi => hg.block i (Nat.lt_of_lt_of_le (Nat.lt_trans hi HB.out.lt) (ext_alloc _ _).size) (fun e => by have := (row_lt HO.out _ e.symm).1; omega)⟩)
 have c1 := HB2.out.cell
 have z1 := HB2.out.frozen
 clear ho hg c0
 go_wp2_with fail
 have e : l.length + (be4 n).length = (l ++ be4 n).length := List.length_append.symm
 rw [e] at HO2 ⊢
 refine ⟨rfl, _, results_none rfl _ _ _, rfl, Below.setCell HW2.out (zNr _) _, A', c', HB2.out.set _, ?_⟩
 exact HO2.out.wall fun g hg => Below.heap_setCell _ _ _ _ (by have := (row_lt HO2.out g hg).1; show g ≠ fb; omega)
def footOf (ns : List Nat) (a : List Nat) : List Nat := ns.flatMap be4 ++ be4 (Bl.crc a)
def closedOf (ns : List Nat) (a : List Nat) : List Nat := a ++ (footOf ns a ++ be4 (Bl.crc (footOf ns a)))
theorem flat4_take {ns : List Nat} {k x : Nat} (h : ns[k]? = some x) : (ns.take (k + 1)).flatMap be4 = (ns.take k).flatMap be4 ++ be4 x := by
 obtain ⟨h1, rfl⟩ := zLg.1 h
 rw [List.take_succ_eq_append_getElem h1, List.flatMap_append]; simp
theorem iv_at {ns : List Nat} {k x : Nat} (h : ns[k]? = some x) (hk : k < (iv ns).length) : (iv ns)[k] = .int .i64 (x : Int) := by
 have h1 : (iv ns)[k]? = some (.int .i64 (x : Int)) := by unfold iv; rw [List.getElem?_map, h]; rfl
 rw [List.getElem?_eq_getElem hk] at h1
 injection h1
theorem sum1_any {w : World} {lo hi : Nat} {v : Value} {a : List Nat} (hv : Bs w lo hi v a) (hhi : hi ≤ w.heap.size) (ha : ∀ x ∈ a, x < 256) :
    Calls Tryz.prog 126 #[.slice (some ⟨w.heap.size, 0, none⟩) 1 1] (w.alloc (.cells #[v] 22)) fun x w' => x = .returned (.int .u32 (Bl.crc a : Int)) ∧ Ext w w' := by
 obtain ⟨_, g, h, e, hh, vs, hr⟩ := rws_lit w [v] [a] 1 rfl rfl (fun i v l hv' hl => by
  match i with
  | 0 => simp at hv' hl; subst hv' hl; exact ⟨_, _, hv, hhi⟩
  | i + 1 => simp at hv')
 injection e with e _ _
 injection e with e
 injection e with e
 subst e
 have hs := Bl.sum_any (some ⟨w.heap.size, 0, none⟩) 1 0 h vs [a] _ hr hh (by simp [maxLen]) (zNr _) (fun l hl x hx => by rw [List.mem_singleton] at hl; subst hl; exact ha x hx)
 rw [show [a].flatten = a by simp] at hs
 refine hs.mono ?_
 rintro x w' ⟨rfl, hx⟩
 exact ⟨rfl, zEt (ext_alloc _ _) hx⟩
set_option maxRecDepth 100000 in
set_option maxHeartbeats 4000000 in
theorem closed_any {w : World} {B lo hi nc : Nat} {v : Value} {a : List Nat} {NA : Option Addr} {ns : List Nat} (ho : Own B a v w) (hB : B ≤ w.heap.size) (ha : ∀ x ∈ a, x < 256) (hal : a.length ≤ 1000000000) (hn : Sl w lo hi NA (iv ns)) (hhi : hi ≤ w.heap.size) (hn5 : ns.length ≤ 5) (hnl : ∀ x ∈ ns, x < 4294967296) :
    Calls Tryz.prog 105 #[v, .slice NA ns.length nc] w fun x w' => ∃ v', x = .returned v' ∧ Own B (closedOf ns a) v' w' ∧ Below B w w' := by
 obtain ⟨w1, hw1⟩ : ∃ w1, w1 = w.alloc (.cells #[.slice none 0 0] 22) := ⟨_, rfl⟩
 obtain ⟨fb, hfb⟩ : ∃ fb, fb = w.heap.size := ⟨_, rfl⟩
 have HFB := zHd hfb
 have HX1 : Hid (Ext w w1) := by rw [hw1]; exact ext_alloc _ _
 have HF1 : Hid (FootI w fb [] w1) := by
  rw [hfb]
  exact ⟨HX1.out, none, 0, by rw [hw1]; exact heap_at _ _ rfl, Own.nil _ _⟩
 obtain ⟨VA, vc, hv⟩ := ho.slice
 subst hv
 have HO := zHd ho
 have HB := zHd hB
 have HA := zHd ha
 have HAL := zHd hal
 have HN := zHd hn
 have HHI := zHd hhi
 have HNL := zHd hnl
 have HZ1 : Hid (fb < w1.heap.size) := by rw [hw1, hfb]; simp [Hid]
 have hnI : (ns.length : Int) ≤ 5 := by omega
 have hmf := mkf
 have HCE := enters_closed1
 clear ho hB ha hal hn hhi hn5 hnl
 go_enter Tryz.func105, Tryz.ntmps105
 go_upto_region 2 with (fail)
 rw [← hw1, ← hfb]
 clear hw1 hfb
 go_wp2_with fail
 go_loopw [8, 12] (fun _ i wr => ∃ k : Nat, k ≤ ns.length ∧ i = .int .i64 (k : Int) ∧ Hid (FootI w fb ((ns.take k).flatMap be4) wr)) (fun _ i _ => ns.length - (intOf i).toNat)
 case atStart => exact ⟨0, Nat.zero_le _, rfl, HF1⟩
 case round =>
  obtain ⟨k, hk, rfl, HF⟩ := hrel
  by_cases hlt : k < ns.length
  · have d : decide ((k : Int) < (ns.length : Int)) = true := decide_eq_true (by omega)
    have dn : decide (k < ns.length) = true := decide_eq_true hlt
    have HLT := zHd hlt
    obtain ⟨x, hx⟩ : ∃ x, ns[k]? = some x := ⟨_, List.getElem?_eq_getElem hlt⟩
    have HXL : Hid (x < 4294967296) := HNL.out _ (List.mem_of_getElem? hx)
    have HL5 : Hid (((ns.take k).flatMap be4).length ≤ 1000) := by
     unfold Hid
     rw [flat4_len, List.length_take]
     omega
    have HBW : Hid (Below w.heap.size w wr) := by have := HF.out.below; rwa [HFB.out] at this
    obtain ⟨b, o, rfl, _, _, hc⟩ := Sl.at_ (HN.out.below HBW.out HHI.out) (i := k) (by rw [iv_length]; exact hlt)
    have hc' : wr.cell? ⟨b, o + k, none⟩ = some (.int .i64 (x : Int)) := by rw [hc, iv_at hx]
    have n1 : (0 : Int) ≤ (k : Int) := by omega
    have n2 : (k : Int) < (ns.length : Int) := by omega
    have q : IntKind.u32.wrap (x : Int) = (x : Int) := by have := HXL.out; rw [IntKind.wrap_u32]; omega
    have HXE := zHd hx
    clear hc hlt hk hx
    go_wp2_with fail
    refine (closed1_any HF.out HXL.out HL5.out).mono ?_
    rintro y u ⟨rfl, hf⟩
    have HF2 : Hid (FootI w fb ((ns.take (k + 1)).flatMap be4) u) := by rw [flat4_take HXE.out]; exact hf
    clear hf hc' q
    go_wp2_with fail
    go_roundw
    case rel => exact ⟨k + 1, HLT.out, by go_num, HF2⟩
    case measure => have := HLT.out; simp [intOf]; omega
  · have d : decide ((k : Int) < (ns.length : Int)) = false := decide_eq_false (by omega)
    have dn : decide (k < ns.length) = false := decide_eq_false hlt
    have hkn : k = ns.length := by omega
    have HF5 : Hid (FootI w fb (ns.flatMap be4) wr) := by have := HF.out; rwa [hkn, List.take_length] at this
    have HBW : Hid (Below w.heap.size w wr) := by have := HF.out.below; rwa [HFB.out] at this
    have HOW : Hid (Own B a (.slice VA a.length vc) wr) := HO.out.wall fun g hg => HBW.out.block g (row_lt HO.out g hg).2
    have HL5 : Hid ((ns.flatMap be4).length ≤ 20) := by rw [flat4_len]; unfold Hid; omega
    clear hlt hk hkn HF
    have HS1 := zHd (sum1_any HOW.out.bs (zNr _) HA.out)
    have HFW : Hid (fb ≤ wr.heap.size) := by obtain ⟨_, _, h, _⟩ := HF5.out.ex; exact Nat.le_of_lt h.lt
    obtain ⟨s1, hs1⟩ : ∃ s1, s1 = Bl.crc a := ⟨_, rfl⟩
    have HS1L : Hid (s1 < 4294967296) := by rw [hs1]; exact Bl.crc_lt HA.out
    rw [← hs1] at HS1
    have HSE := zHd hs1
    clear hs1
    go_wp2_with fail
    refine HS1.out.mono ?_
    rintro x w2 ⟨rfl, hx2⟩
    have HX2 : Hid (Ext wr w2) := hx2
    have HF2 := zHd (HF5.out.ext hx2 HFW.out)
    have HZ2 : Hid (fb ≤ w2.heap.size) := zNt HFW.out hx2.size
    clear hx2 HS1 HF5
    go_wp2_with fail
    refine (closed1_any HF2.out HS1L.out (by have := HL5.out; omega)).mono ?_
    rintro x w3 ⟨rfl, hf⟩
    obtain ⟨F, hF⟩ : ∃ F, F = ns.flatMap be4 ++ be4 s1 := ⟨_, rfl⟩
    have HFE : Hid (F = footOf ns a) := by rw [hF, HSE.out]; rfl
    have HFL : Hid (F.length ≤ 24) := by rw [hF, List.length_append, be4_length]; have := HL5.out; unfold Hid; omega
    have HFB2 : Hid (∀ x ∈ F, x < 256) := by
     rw [hF]
     intro x hx
     rcases List.mem_append.1 hx with h | h
     · obtain ⟨n, _, hn⟩ := List.mem_flatMap.1 h
       exact be4_lt n x hn
     · exact be4_lt _ x h
    rw [← hF] at hf
    have HF3 := zHd hf
    obtain ⟨FA, fc, hb3, ho3⟩ := hf.ex
    have HB3 := zHd hb3
    have HO3 := zHd ho3
    have c3 := hb3.cell
    have HS2 := zHd (sum1_any ho3.bs (zNr _) HFB2.out)
    have HFW3 : Hid (fb ≤ w3.heap.size) := Nat.le_of_lt hb3.lt
    obtain ⟨s2, hs2⟩ : ∃ s2, s2 = Bl.crc F := ⟨_, rfl⟩
    have HS2L : Hid (s2 < 4294967296) := by rw [hs2]; exact Bl.crc_lt HFB2.out
    rw [← hs2] at HS2
    have HS2E := zHd hs2
    clear hs2 hf hF hb3 ho3 HF2
    go_wp2_with fail
    refine HS2.out.mono ?_
    rintro x w4 ⟨rfl, hx4⟩
    have HF4 := zHd (HF3.out.ext hx4 HFW3.out)
    clear hx4 HS2 c3
    go_wp2_with fail
    refine (closed1_any HF4.out HS2L.out (by have := HFL.out; omega)).mono ?_
    rintro x w5 ⟨rfl, hf⟩
    obtain ⟨G, hG⟩ : ∃ G, G = F ++ be4 s2 := ⟨_, rfl⟩
    have HGE : Hid (a ++ G = closedOf ns a) := by rw [hG, HS2E.out, HFE.out]; rfl
    have HGL : Hid (G.length ≤ 28) := by rw [hG, List.length_append, be4_length]; have := HFL.out; unfold Hid; omega
    rw [← hG] at hf
    obtain ⟨GA, gc, hb5, ho5⟩ := hf.ex
    have c5 := hb5.cell
    have HO5 := zHd ho5.bs
    have HBW5 : Hid (Below w.heap.size w w5) := by have := hf.below; rwa [HFB.out] at this
    have HOW5 : Hid (Own B a (.slice VA a.length vc) w5) := HO.out.wall fun g hg => HBW5.out.block g (row_lt HO.out g hg).2
    have hBW : B ≤ w5.heap.size := zNt HB.out HBW5.out.size
    clear hf hG hb5 ho5
    go_wp2_with (at_builtin; refine wpList_addbytes rfl (.tmp 31) (.tmp 32) rfl B _ a rfl HOW5.out _ _ _ G rfl HO5.out (by have := HGL.out; have := HAL.out; omega) hBW ?_)
    intro A6 c6 w6 ho6 hb6
    rw [HGE.out] at ho6
    have HO6 := zHd ho6
    have HX6 : Hid (Below B w w6) := hb6 w (HBW5.out.mono HB.out)
    have e : a.length + G.length = (closedOf ns a).length := by rw [← HGE.out, List.length_append]
    rw [e] at HO6 ⊢
    clear ho6 hb6 c5 e
    go_wp2_with fail
    go_ret
    exact ⟨_, rfl, HO6.out, HX6.out⟩
end Go.Proofs.YtkdidghfcfcpfaaGreat
namespace Go.Proofs.YtkdidghfcfcpfaaGreat
open Go.ChangeShapes Go.WideShapes Go.ChangeAt Go.RowKit
theorem own_apart {w : World} {B B' s s' n n' : Nat} {e e' : TypeId} {v v' : Value} {xs xs' : List Value} (h : w.ownsRow B e s v n xs) (k : w.ownsRow B' e' s' v' n' xs') (hne : e ≠ e') : ∀ g, v.ownBlock = some g → some g ≠ v'.ownBlock := by
 intro g hg he
 rcases h.2 with ⟨rfl, _⟩ | ⟨g1, cap1, cur1, rfl, _, h1, _⟩
 · cases hg
 · rcases k.2 with ⟨rfl, _⟩ | ⟨g2, cap2, cur2, rfl, _, h2, _⟩
   · cases he
   · injection hg with hg
     injection he with he
     subst hg
     subst he
     rw [h1] at h2
     injection h2 with h2
     injection h2 with _ h2
     exact hne h2
theorem tbytesinfo : (Tryz.prog.info? 22).map (fun i => (i.zero, i.size, i.bytes)) = some (some (.slice none 0 0), 1, 24) := by kernel_rfl
theorem wpList_pushrow {P : Program} {ops : Array Oper} {rest : List Oper} {o : Oper} {a : Act} {Q : Exit → Act → World → Prop} {wr : World} (hgd : o.guard = none) (s x : Operand) (t : TypeId)
    (ho : o.op = .call { callee := .builtin .append, args := #[s, x], argTypes := #[t, t] })
    (B : Nat) (e : TypeId) (i : TypeInfo) (z : Value) (bytes : Nat) (ht : P.underlying t = some (.slice e)) (hi : P.info? e = some i) (hz : i.zero = some z)
    (hsize : i.size = 1) (hby : i.bytes = bytes) (hzs : z.cells.size = 1)
    (v : Value) (n : Nat) (xs : List Value) (hs : a.eval s = v) (hown : wr.ownsRow B e 1 v n xs) (u : Value) (hu : u.oneCell' = true) (g : Nat) (hg : g = wr.heap.size)
    (hx : a.eval x = .slice (some ⟨g, 0, none⟩) 1 1) (h63 : n + 1 ≤ maxLen) (hbytes : (n + 1) * bytes ≤ 140737488355328) (hB : B ≤ wr.heap.size)
    (h : ∀ A' c' w', w'.ownsRow B e 1 (.slice A' (n + 1) c') (n + 1) (xs ++ [u]) → (wr.alloc (.cells #[u] e)).grownBy w' v.ownBlock → wpList P ops Q rest (a.put o.dst (.slice A' (n + 1) c')) w') :
    wpList P ops Q (o :: rest) a (wr.alloc (.cells #[u] e)) := by
 subst hg
 refine wpList_append_own _ hgd s x t ho B e i z 1 bytes ht hi hz hsize hby hzs (by omega) v n xs hs (hown.alloc _) ⟨wr.heap.size, 0, none⟩ 1 1 [u] hx rfl (fun j q hj => ?_) (fun q hq => ?_) h63 hbytes
  (zNt hB (by simp)) (fun v' w' h2 h3 _ => ?_)
 · rcases j with _ | j
   · simp at hj
     subst hj
     rw [addr_add, World.cell?_alloc_at _ _ _ _ rfl]
     rfl
   · simp at hj
 · rw [List.mem_singleton] at hq
   subst hq
   exact hu
 · have h2' := h2
   obtain ⟨A', c', rfl, _, _, _, _⟩ := Sl.of_own h2'
   exact h A' c' w' h2 h3
theorem grown_belowR {w w' : World} {B : Nat} {r : Option Nat} {o : Obj} (hg : (w.alloc o).grownBy w' r) (hr : ∀ g, r = some g → B ≤ g) (hB : B ≤ w.heap.size) : Below B w w' :=
 ((Below.refl B w).alloc hB o).grown hg (zNt hB (by simp)) hr
theorem rows_of_own {w : World} {B n c : Nat} {A : Option Addr} {xs : List Value} {ls : List (List Nat)} (h : w.ownsRow B 22 1 (.slice A n c) n xs) (hlen : xs.length = ls.length)
    (he : ∀ (i : Nat) (v : Value) (l : List Nat), xs[i]? = some v → ls[i]? = some l → Bs w 0 w.heap.size v l) : Rows2 w 0 w.heap.size A xs ls ∧ n ≤ c ∧ c ≤ maxLen ∧ ls.length = n := by
 obtain ⟨A', c', e, h1, h2, h3, h4⟩ := Sl.of_own h
 injection e with e1 _ e3
 subst e1 e3
 exact ⟨⟨h4.wide (Nat.zero_le _) (zNr _), hlen, he⟩, h1, h2, hlen.symm.trans h3⟩
end Go.Proofs.YtkdidghfcfcpfaaGreat
namespace Go.Proofs.YtkdidghfcfcpfaaGreat.Bl
open Go.ChangeShapes Go.WideShapes Go.ChangeAt Go.RowKit
theorem tx_same {a b : List Nat} (ha : ∀ x ∈ a, x < 256) (hb : ∀ x ∈ b, x < 256) : ((tx a).toList == (tx b).toList) = decide (a = b) := by
 by_cases h : a = b
 · subst h; simp
 · rw [decide_eq_false h]
   have hne : tx a ≠ tx b := fun he => h (tx_inj ha hb he)
   rw [Bool.eq_false_iff]
   intro he
   rw [beq_iff_eq, ByteArray.toList_eq, ByteArray.toList_eq] at he
   exact hne (by
    have h1 : (tx a).data = (tx b).data := Array.ext' he
    cases h2 : tx a; cases h3 : tx b
    rw [h2, h3] at h1
    simp at h1; rw [h1])
def Own (B : Nat) (l : List Nat) (v : Value) (u : World) : Prop := u.ownsRow B 5 1 v l.length (bv l)
theorem Own.below {B : Nat} {l : List Nat} {v : Value} {u u' : World} (h : Own B l v u) (hu : Ext u u') : Own B l v u' := own_below h hu (zNr _)
theorem Own.bs {B : Nat} {l : List Nat} {v : Value} {u : World} (h : Own B l v u) : Bs u 0 u.heap.size v l := (Bs.of_own h).wide (Nat.zero_le _) (zNr _)
theorem Own.slice {B : Nat} {l : List Nat} {v : Value} {u : World} (h : Own B l v u) : ∃ A c, v = .slice A l.length c := by
 obtain ⟨A, c, e, _⟩ := h.bs
 exact ⟨A, c, e⟩
theorem Own.base {B B' : Nat} {l : List Nat} {v : Value} {u : World} (h : Own B l v u) (hB : B' ≤ B) : Own B' l v u := ownsRow_base h hB
theorem wpList_addbytes {ops : Array Oper} {rest : List Oper} {o : Oper} {a : Act} {Q : Exit → Act → World → Prop} {wr : World} (hgd : o.guard = none) (s x : Operand)
    (ho : o.op = .call { callee := .builtin .append, args := #[s, x], argTypes := #[22, 22] }) (B : Nat) (v : Value) (l : List Nat) (hs : a.eval s = v) (hown : Own B l v wr)
    (lo hi : Nat) (u : Value) (r : List Nat) (hx : a.eval x = u) (hu : Bs wr lo hi u r) (hlen : l.length + r.length ≤ 1099511627776) (hB : B ≤ wr.heap.size)
    (h : ∀ A' c' w', Own B (l ++ r) (.slice A' (l ++ r).length c') w' → (∀ w0, Below B w0 wr → Below B w0 w') → wpList Tryz.prog ops Q rest (a.put o.dst (.slice A' (l ++ r).length c')) w') :
    wpList Tryz.prog ops Q (o :: rest) a wr := by
 obtain ⟨i0, hi0, ix0, ix1, ix2⟩ := info_parts t5info
 obtain ⟨A, c, rfl, h1, h2, hnil, hby⟩ := hu
 refine wpList_addall hgd s x 22 ho B 5 i0 (.int .u8 0) 1 Tryz.underlying22 hi0 ix0 ix1 ix2 rfl v l.length (bv l) hs hown lo hi A r.length c (bv r) hx hnil (by rw [bv_length]) hby (bv_one r) (by unfold maxLen; omega) (by omega) hB (fun v' w' ho' hb => ?_)
 have hown' : Own B (l ++ r) v' w' := by unfold Own; rw [List.length_append, bv_append]; exact ho'
 obtain ⟨A', c', rfl⟩ := hown'.slice
 exact h A' c' w' hown' hb
theorem wpList_addn {ops : Array Oper} {rest : List Oper} {o : Oper} {a : Act} {Q : Exit → Act → World → Prop} {wr : World} (hgd : o.guard = none) (s x : Operand)
    (ho : o.op = .call { callee := .builtin .append, args := #[s, x], argTypes := #[22, 22] }) (B : Nat) (v : Value) (l : List Nat) (hs : a.eval s = v) (hown : Own B l v wr)
    (lo hi : Nat) (u : Value) (r : List Nat) (hx : a.eval x = u) (hu : Bs wr lo hi u r) (L : List Nat) (N : Nat) (hL : l ++ r = L) (hN : L.length = N) (hlen : N ≤ 1099511627776) (hB : B ≤ wr.heap.size)
    (h : ∀ A' c' w', Own B L (.slice A' N c') w' → (∀ w0, Below B w0 wr → Below B w0 w') → wpList Tryz.prog ops Q rest (a.put o.dst (.slice A' N c')) w') :
    wpList Tryz.prog ops Q (o :: rest) a wr := by
 subst hL hN
 rw [List.length_append] at hlen
 exact wpList_addbytes hgd s x ho B v l hs hown lo hi u r hx hu hlen hB h
theorem Own.block {B : Nat} {l : List Nat} {v : Value} {u : World} (h : Own B l v u) (h0 : 0 < l.length) : ∃ g c, v = .slice (some ⟨g, 0, none⟩) l.length c ∧ B ≤ g ∧ g < u.heap.size ∧ l.length ≤ c := by
 have h2 := h.2
 rcases h2 with ⟨hn, _⟩ | ⟨g, c, cur, hv, hb, hh, hn, _⟩
 · omega
 · refine ⟨g, c, hv, hb, ?_, hn⟩
   rcases Nat.lt_or_ge g u.heap.size with h | h
   · exact h
   · rw [Array.getElem?_eq_none h] at hh; cases hh
theorem Own.cell {B : Nat} {l : List Nat} {g n c : Nat} {u : World} (h : Own B l (.slice (some ⟨g, 0, none⟩) n c) u) {i : Nat} (hi : i < l.length) : u.cell? ⟨g, i, none⟩ = some (.int .u8 (l[i] : Int)) := by
 obtain ⟨A', c', e, _⟩ := h.bs
 injection e with _ e2 _
 subst e2
 have h' : u.ownsRow B 5 1 (.slice (some ⟨g, 0, none⟩) l.length c) l.length (bv l) := h
 rw [h'.cellAt i (by omega)]
 simp [bv, List.getElem?_eq_getElem hi]
theorem Own.free {B : Nat} {l : List Nat} {g n c : Nat} {u : World} (h : Own B l (.slice (some ⟨g, 0, none⟩) n c) u) (i : Nat) : u.frozen? ⟨g, i, none⟩ = false := by
 obtain ⟨A', c', e, _⟩ := h.bs
 injection e with _ e2 _
 subst e2
 have h' : u.ownsRow B 5 1 (.slice (some ⟨g, 0, none⟩) l.length c) l.length (bv l) := h
 exact h'.frozenAt i
theorem Own.set {B : Nat} {l : List Nat} {g n c : Nat} {u : World} (h : Own B l (.slice (some ⟨g, 0, none⟩) n c) u) (i x : Nat) : Own B (l.set i x) (.slice (some ⟨g, 0, none⟩) n c) (u.setCell ⟨g, i, none⟩ (.int .u8 (x : Int))) := by
 obtain ⟨A', c', e, _⟩ := h.bs
 injection e with _ e2 _
 subst e2
 have h' : u.ownsRow B 5 1 (.slice (some ⟨g, 0, none⟩) l.length c) l.length (bv l) := h
 have h1 := (h'.stored i (.int .u8 (x : Int))).1
 have e : (bv l).set i (.int .u8 (x : Int)) = bv (l.set i x) := by simp [bv, List.map_set]
 rw [e] at h1
 unfold Own
 rw [List.length_set]
 exact h1
theorem Own.nil (B : Nat) (u : World) : Own B [] (.slice none 0 0) u := World.ownsRow_nil _ _ _ _
theorem hown_lt {B : Nat} {l : List Nat} {g n c : Nat} {u : World} (h : Own B l (.slice (some ⟨g, 0, none⟩) n c) u) (h0 : 0 < l.length) : g < u.heap.size := by
 obtain ⟨g', c', e, _, h2, _⟩ := h.block h0
 injection e with e _ _
 injection e with e
 injection e with e
 omega
end Go.Proofs.YtkdidghfcfcpfaaGreat.Bl
namespace Go.Proofs.YtkdidghfcfcpfaaGreat.Bl
open Go Ieee
theorem dbl_nearest (n : Nat) (h0 : 0 < n) (L : Nat) (hL : n.log2 = L) (h : L ≤ 31) : Ieee.double.nearest false n 0 = (L + 1022) * 2 ^ 52 + n * 2 ^ (52 - L) := by
 have hlo : 2 ^ L ≤ n := by rw [← hL]; exact Nat.log2_self_le (by omega)
 have hhi : n < 2 ^ (L + 1) := by rw [← hL]; exact Nat.lt_log2_self
 have hK : n * 2 ^ (52 - L) < 2 ^ 53 := by
  have : n * 2 ^ (52 - L) < 2 ^ (L + 1) * 2 ^ (52 - L) := Nat.mul_lt_mul_of_pos_right hhi (Nat.two_pow_pos _)
  rw [← Nat.pow_add, show L + 1 + (52 - L) = 53 by omega] at this
  exact this
 unfold Ieee.Format.nearest
 rw [if_neg (by omega), hL]
 have e1 : Ieee.double.leastPlace = -1074 := by decide
 have e2 : Ieee.double.fractionBits = 52 := rfl
 have e3 : Ieee.double.binade = 2 ^ 52 := rfl
 have e4 : Ieee.double.infRung = 2047 * 2 ^ 52 := by decide
 have e5 : max ((0 : Int) + (L : Int) - ((52 : Nat) : Int)) (-1074) = (L : Int) - 52 := by omega
 rw [e1, e2, e3, e4, e5]
 have e6 : ((0 : Int) - ((L : Int) - 52)).toNat = 52 - L := by omega
 have e7 : ((L : Int) - 52 - 0).toNat = 0 := by omega
 have e8 : ((L : Int) - 52 - -1074).toNat = L + 1022 := by omega
 dsimp only
 rw [e6, e7, e8, Nat.shiftLeft_eq]
 have e9 : Ieee.Toward.even.cut false (n * 2 ^ (52 - L)) 0 = n * 2 ^ (52 - L) := by
  unfold Ieee.Toward.cut
  simp [Nat.mod_one]
 rw [e9]
 unfold Ieee.Format.word
 rw [if_neg (by simp), Nat.min_eq_left]
 generalize n * 2 ^ (52 - L) = K at hK
 clear hlo hhi hL h0 e1 e2 e3 e4 e5 e6 e7 e8 e9
 rw [show (2 : Nat) ^ 53 = 9007199254740992 from rfl] at hK
 rw [show (2 : Nat) ^ 52 = 4503599627370496 from rfl]
 omega
theorem read_normal (f : Ieee.Format) (w : Nat) (h1 : ¬ w % f.signWeight < f.binade) (h2 : w % f.signWeight < f.infRung) :
    f.read w = .number (w / f.signWeight % 2 == 1) (f.binade + w % f.signWeight % f.binade) (f.leastPlace + (w % f.signWeight / f.binade - 1 : Nat)) := by
 unfold Ieee.Format.read
 exact (if_neg h1).trans (if_pos h2)
theorem dbl_read (L K : Nat) (h : L ≤ 31) (h1 : 2 ^ 52 ≤ K) (h2 : K < 2 ^ 53) : Ieee.double.read ((L + 1022) * 2 ^ 52 + K) = .number false K ((L : Int) - 52) := by
 have e1 : Ieee.double.leastPlace = -1074 := by decide
 have e3 : Ieee.double.binade = 2 ^ 52 := rfl
 have e4 : Ieee.double.infRung = 2047 * 2 ^ 52 := by decide
 have e5 : Ieee.double.signWeight = 2 ^ 63 := rfl
 have hb : (L + 1022) * 2 ^ 52 + K < 2 ^ 63 := by omega
 rw [read_normal _ _ (by rw [e5, e3, Nat.mod_eq_of_lt hb]; omega) (by rw [e5, e4, Nat.mod_eq_of_lt hb]; omega), e1, e3, e5, Nat.mod_eq_of_lt hb, Nat.div_eq_of_lt hb]
 have h3 : 2 ^ 52 + ((L + 1022) * 2 ^ 52 + K) % 2 ^ 52 = K := by omega
 have h4 : ((L + 1022) * 2 ^ 52 + K) / 2 ^ 52 - 1 = L + 1022 := by omega
 rw [h3, h4]
 have h6 : (-1074 : Int) + ((L + 1022 : Nat) : Int) = (L : Int) - 52 := by omega
 rw [h6]
 rfl
theorem round_u32 (n : Nat) (h : n < 4294967296) : floatToIntVal .f64 (floatOfInt .f64 (n : Int)) .u32 = some (n : Int) := by
 have key : ((FloatKind.f64).decode ((FloatKind.f64).nearest (n : Int))).toInt .zero = some (n : Int) := by
  have ed : ∀ b, (FloatKind.f64).decode b = Ieee.double.read b := fun _ => rfl
  have ee : (FloatKind.f64).nearest (n : Int) = Ieee.double.nearest false n 0 := by
   show Ieee.double.nearest (decide ((n : Int) < 0)) (n : Int).natAbs 0 = _
   rw [decide_eq_false (by omega), Int.natAbs_natCast]
  rw [ed, ee]
  rcases Nat.eq_zero_or_pos n with rfl | h0
  · decide +kernel
  · obtain ⟨L, hL⟩ : ∃ L, n.log2 = L := ⟨_, rfl⟩
    have hlo : 2 ^ L ≤ n := by rw [← hL]; exact Nat.log2_self_le (by omega)
    have hhi : n < 2 ^ (L + 1) := by rw [← hL]; exact Nat.lt_log2_self
    have hL31 : L ≤ 31 := by
     rcases Nat.lt_or_ge 31 L with h' | h'
     · have : 2 ^ 32 ≤ 2 ^ L := Nat.pow_le_pow_right (by decide) h'
       omega
     · exact h'
    have hK1 : 2 ^ 52 ≤ n * 2 ^ (52 - L) := by
     have : 2 ^ L * 2 ^ (52 - L) ≤ n * 2 ^ (52 - L) := Nat.mul_le_mul_right _ hlo
     rw [← Nat.pow_add, show L + (52 - L) = 52 by omega] at this
     exact this
    have hK2 : n * 2 ^ (52 - L) < 2 ^ 53 := by
     have : n * 2 ^ (52 - L) < 2 ^ (L + 1) * 2 ^ (52 - L) := Nat.mul_lt_mul_of_pos_right hhi (Nat.two_pow_pos _)
     rw [← Nat.pow_add, show L + 1 + (52 - L) = 53 by omega] at this
     exact this
    rw [dbl_nearest n h0 L hL hL31, dbl_read L _ hL31 hK1 hK2]
    unfold Ieee.Datum.toInt Ieee.Datum.integral
    dsimp only
    have e1 : ((L : Int) - 52).toNat = 0 := by omega
    have e2 : (-((L : Int) - 52)).toNat = 52 - L := by omega
    rw [e1, e2, Nat.shiftLeft_zero]
    have e3 : Ieee.Toward.zero.cut false (n * 2 ^ (52 - L)) (52 - L) = n := by
     unfold Ieee.Toward.cut
     dsimp only
     have hlg : 52 - L ≤ (n * 2 ^ (52 - L)).log2 + 2 := by
      have : 52 ≤ (n * 2 ^ (52 - L)).log2 := (Nat.le_log2 (by omega)).2 hK1
      omega
     rw [Nat.min_eq_left hlg, Nat.one_shiftLeft, Nat.mul_div_cancel _ (Nat.two_pow_pos _)]
     rfl
    rw [e3]
    unfold Ieee.signed
    simp
 unfold floatToIntVal floatOfInt
 rw [key]
 have e : IntKind.u32.min = 0 := by decide
 have e' : IntKind.u32.max = 4294967295 := by decide
 rw [e, e']
 dsimp only
 rw [if_pos (by omega)]
end Go.Proofs.YtkdidghfcfcpfaaGreat.Bl
namespace Go.Proofs.YtkdidghfcfcpfaaGreat.Bl
open Go.ChangeShapes Go.WideShapes Go.ChangeAt Go.RowKit
def sizeI (n : Int) : Nat := if n < 0 ∨ 65536 < n then 0 else bsize n.toNat
theorem sizeI_nat {n : Nat} (h : n ≤ 65536) : sizeI (n : Int) = bsize n := by unfold sizeI; rw [if_neg (by omega)]; rfl
theorem size_any (n : Int) (h1 : -9223372036854775808 ≤ n) (h2 : n ≤ 9223372036854775807) (w : World) :
    Calls Tryz.prog 140 #[.int .i64 n] w fun e w' => e = .returned (.int .i64 (sizeI n : Nat)) ∧ w = w' := by
 by_cases ha : n < 0
 · have hd : decide (n < 0) = true := by simpa using ha
   have HS : Hid (sizeI n = 0) := by unfold sizeI Hid; rw [if_pos (.inl ha)]
   go_enter Tryz.func140, Tryz.ntmps140
   go_wp2_with fail
   go_ret
   exact ⟨by rw [HS.out]; rfl, rfl⟩
 · have hd : decide (n < 0) = false := by simpa using ha
   by_cases hb : 65536 < n
   · have hd2 : decide (65536 < n) = true := by simpa using hb
     have HS : Hid (sizeI n = 0) := by unfold sizeI Hid; rw [if_pos (.inr hb)]
     go_enter Tryz.func140, Tryz.ntmps140
     go_wp2_with fail
     go_ret
     exact ⟨by rw [HS.out]; rfl, rfl⟩
   · have hd2 : decide (65536 < n) = false := by simpa using hb
     obtain ⟨m, rfl⟩ : ∃ m : Nat, n = (m : Int) := ⟨n.toNat, by omega⟩
     have HS : Hid (sizeI (m : Int) = bsize m) := sizeI_nat (by omega)
     have hm : m ≤ 65536 := by omega
     clear ha hb h1 h2
     go_enter Tryz.func140, Tryz.ntmps140
     go_wp2_with fail
     go_ret
     exact ⟨by rw [HS.out]; unfold bsize; rfl, rfl⟩
def chk (n : Nat) : Int := if okF n = true then 0 else 4
theorem check_any {w : World} {A : Option Addr} {n c : Nat} (hn : n ≤ 9223372036854775807) :
    Calls Tryz.prog 89 #[.slice A n c] w fun e w' => e = .returned (.int .i64 (chk n)) ∧ w = w' := by
 by_cases h0 : n = 0
 · subst h0
   have HS : Hid (chk 0 = 4) := rfl
   go_enter Tryz.func89, Tryz.ntmps89
   go_wp2_with fail
   go_ret
   exact ⟨by rw [HS.out]; rfl, rfl⟩
 · have hd : ((n : Int) == 0) = false := by simpa using h0
   by_cases h1 : n % 8 = 0
   · have hd1 : ((n : Int) % 8 != 0) = false := by simp; omega
     by_cases h2 : n ≤ 131072
     · have hd2 : decide ((131072 : Int) < (n : Int)) = false := by simp; omega
       have HS : Hid (chk n = 0) := by unfold chk okF Hid; rw [if_pos (by simp; omega)]
       clear h0 h1 h2
       go_enter Tryz.func89, Tryz.ntmps89
       go_wp2_with fail
       go_ret
       exact ⟨by rw [HS.out]; rfl, rfl⟩
     · have hd2 : decide ((131072 : Int) < (n : Int)) = true := by simp; omega
       have HS : Hid (chk n = 4) := by unfold chk okF Hid; rw [if_neg (by simp; omega)]
       clear h0 h1 h2
       go_enter Tryz.func89, Tryz.ntmps89
       go_wp2_with fail
       go_ret
       exact ⟨by rw [HS.out]; rfl, rfl⟩
   · have hd1 : ((n : Int) % 8 != 0) = true := by simp; omega
     have HS : Hid (chk n = 4) := by unfold chk okF Hid; rw [if_neg (by simp; omega)]
     clear h0 h1
     go_enter Tryz.func89, Tryz.ntmps89
     go_wp2_with fail
     go_ret
     exact ⟨by rw [HS.out]; rfl, rfl⟩
theorem shl8 (p : Nat) : (2 : Int) ^ (p % 8) % 256 = ((2 ^ (p % 8) : Nat) : Int) := by
 have : p % 8 < 8 := Nat.mod_lt _ (by decide)
 generalize p % 8 = q at this
 match q, this with
 | 0, _ => rfl
 | 1, _ => rfl
 | 2, _ => rfl
 | 3, _ => rfl
 | 4, _ => rfl
 | 5, _ => rfl
 | 6, _ => rfl
 | 7, _ => rfl
theorem mask_any (j : Nat) (hj : j ≤ 9223372036854775807) (w : World) :
    Calls Tryz.prog 114 #[.int .i64 (j : Int)] w fun e w' => e = .returned (.int .u8 (2 ^ (j % 8) : Nat)) ∧ w = w' := by
 have H8 := zHd (shl8 j)
 go_enter Tryz.func114, Tryz.ntmps114
 go_wp2_with fail
 go_ret
 exact ⟨by rw [H8.out]; rfl, rfl⟩
theorem or_u32_nat (a b : Nat) (ha : a < 4294967296) (hb : b < 4294967296) : bits .or .u32 (a : Int) (b : Int) = ((a ||| b : Nat) : Int) := by
 have hx : a ||| b < 2 ^ 32 := Nat.or_lt_two_pow (by omega) (by omega)
 have h1 : (BitVec.ofInt 32 (a : Int)).toNat = a := by
  rw [BitVec.ofInt_natCast, BitVec.toNat_ofNat]; exact Nat.mod_eq_of_lt (by omega)
 have h2 : (BitVec.ofInt 32 (b : Int)).toNat = b := by
  rw [BitVec.ofInt_natCast, BitVec.toNat_ofNat]; exact Nat.mod_eq_of_lt (by omega)
 show IntKind.u32.wrap ((BitVec.ofInt 32 (a : Int) ||| BitVec.ofInt 32 (b : Int)).toNat : Int) = _
 rw [BitVec.toNat_or, h1, h2]
 simp only [IntKind.wrap, IntKind.signed, IntKind.bits]
 simp
 omega
theorem one_lt : ∀ x ∈ [1], x < 256 := by decide
theorem way_bits {l : List Nat} (hl : ∀ x ∈ l, x < 256) : bits .or .u32 ((more (crc l) [1] : Nat) : Int) 1 = ((way l : Nat) : Int) := by
 have h := or_u32_nat (more (crc l) [1]) 1 (more_lt (crc_lt hl) one_lt) (by decide)
 rw [crc_more] at h ⊢
 exact h
theorem way_lt {l : List Nat} (hl : ∀ x ∈ l, x < 256) : way l < 4294967296 := by
 unfold way
 refine or_lt (crc_lt fun x hx => ?_) (by decide)
 rcases List.mem_append.1 hx with hx | hx
 · exact hl x hx
 · exact one_lt x hx
theorem bs_new (w : World) (l : List Nat) (hl : l.length ≤ 100) : Bs (w.alloc (.cells (bv l).toArray 5)) w.heap.size (w.heap.size + 1) (.slice (some ⟨w.heap.size, 0, none⟩) l.length l.length) l := by
 refine ⟨_, _, rfl, zNr _, by simp [maxLen]; omega, (fun h => by cases h), .inr ⟨w.heap.size, 0, rfl, zNr _, Nat.lt_succ_self _, fun i u hu => ?_⟩⟩
 rw [World.cell?_alloc_at _ _ _ _ rfl, Nat.zero_add]
 simpa using hu
set_option maxHeartbeats 1000000 in
theorem numbers_any (v : Value) (lo hi : Nat) (l : List Nat) (w : World) (hv : Bs w lo hi v l) (hhi : hi ≤ w.heap.size) (hl : ∀ c ∈ l, c < 256) :
    Calls Tryz.prog 115 #[v] w fun e w' => e = .returned (.complex .f64 (floatOfInt .f64 ((crc l : Nat) : Int)) (floatOfInt .f64 ((way l : Nat) : Int))) ∧ Below w.heap.size w w' := by
 have HR := zHd (rows_one hv hhi)
 have HL := zHd hl
 have HW := zHd (way_bits hl)
 have HC2 := zHd (crc_lt hl)
 obtain ⟨A, c, rfl, _, _, _, _⟩ := hv
 clear hl
 have HC := zHd (sum_any _ 1 _ _ _ [l] _ HR.out (by simp) (by simp [maxLen]) (by simp) (by simpa using HL.out))
 rw [show [l].flatten = l by simp] at HC
 go_enter Tryz.func115, Tryz.ntmps115
 go_wp2_with fail
 refine Calls.mono HC.out ?_
 rintro e w1 ⟨rfl, hb1⟩
 have HB1 : Hid (Below w.heap.size w w1) := ((Below.refl w.heap.size w).alloc (zNr _) _).trans (hb1.mono (by simp))
 clear hb1
 go_wp2_with fail
 refine (more_any _ HC2.out _ _ _ [1] _ (bs_new w1 [1] (by simp)) (by simp) one_lt).mono ?_
 rintro e w2 ⟨rfl, hb2⟩
 have HB2 : Hid (Below w.heap.size w w2) := (HB1.out.alloc HB1.out.size _).trans (hb2.mono (by have := HB1.out.size; simp; omega))
 clear hb2
 go_wp2_with fail
 rw [HW.out]
 go_wp2_with fail
 go_ret
 exact ⟨rfl, HB2.out⟩
end Go.Proofs.YtkdidghfcfcpfaaGreat.Bl
namespace Go.Proofs.YtkdidghfcfcpfaaGreat.Bl
open Go.ChangeShapes Go.WideShapes Go.ChangeAt Go.RowKit
def irow (l : List Nat) : Array Value := (l.map fun n : Nat => Value.int .i64 (n : Int)).toArray
theorem irow_size (l : List Nat) : (irow l).size = l.length := by simp [irow]
theorem irow_one (l : List Nat) : (irow l).all (·.oneCell') = true := by
 simp only [irow, List.all_toArray, List.all_eq_true, List.mem_map]
 rintro x ⟨n, _, rfl⟩
 rfl
theorem irow_get (l : List Nat) (i : Nat) (h : i < l.length) : (irow l)[i]? = some (.int .i64 (l[i] : Int)) := by simp [irow, List.getElem?_eq_getElem h]
theorem irow_set (l : List Nat) (i x : Nat) : (irow l).setIfInBounds i (.int .i64 (x : Int)) = irow (l.set i x) := by simp [irow, List.map_set]
def IArr (w : World) (b : Nat) (t : TypeId) (l : List Nat) : Prop := w.heap[b]? = some (.cells (irow l) t (0, 0))
theorem IArr.cell {w : World} {b : Nat} {t : TypeId} {l : List Nat} (h : IArr w b t l) (i : Nat) (hi : i < l.length) : w.cell? ⟨b, i, none⟩ = some (.int .i64 (l[i] : Int)) := by
 rw [cell_of_row w b i _ t _ h, irow_get l i hi]
theorem IArr.free {w : World} {b : Nat} {t : TypeId} {l : List Nat} (h : IArr w b t l) (i : Nat) : w.frozen? ⟨b, i, none⟩ = false := frozen_of_row w b i _ t h
theorem IArr.set {w : World} {b : Nat} {t : TypeId} {l : List Nat} (h : IArr w b t l) (i x : Nat) : IArr (w.setCell ⟨b, i, none⟩ (.int .i64 (x : Int))) b t (l.set i x) := by
 unfold IArr
 rw [heap_setCell_same w b i _ t _ h, irow_set]
theorem IArr.far {w : World} {b : Nat} {t : TypeId} {l : List Nat} (h : IArr w b t l) {p : Addr} (hp : b ≠ p.block) (u : Value) : IArr (w.setCell p u) b t l := by
 unfold IArr
 rw [heap_setCell_other w p b u hp]; exact h
theorem IArr.below {w w' : World} {b B : Nat} {t : TypeId} {l : List Nat} (h : IArr w b t l) (hb : Below B w w') (hlt : b < B) : IArr w' b t l := by
 unfold IArr
 rw [hb.block b hlt]; exact h
theorem IArr.setRow {w : World} {b : Nat} {t : TypeId} {l : List Nat} (h : IArr w b t l) (r : List Nat) : IArr (w.setRow b (irow r)) b t r := setRow_heap w b _ _ t (0, 0) h
theorem info5 : (Tryz.prog.info? 131).map (·.size) = some 5 := by kernel_rfl
theorem five0 (f : Nat → Nat) : (irow (part f 5 0)) = #[.int .i64 0, .int .i64 0, .int .i64 0, .int .i64 0, .int .i64 0] := by
 simp [part, irow, List.range_succ]
theorem part_kbs (l : List Nat) (m : Nat) : part (kb l m) 5 5 = kbs l m := by rw [part_all]; rfl
theorem kb_int (l : List Nat) (m i : Nat) (h : 0 < m) (h2 : m ≤ 1048576) : wrap64 ((((crc l : Nat) : Int) + (i : Int) * ((way l : Nat) : Int)) % 4294967296 % (m : Int)) = ((kb l m i : Nat) : Int) := by
 have e : (((crc l : Nat) : Int) + (i : Int) * ((way l : Nat) : Int)) % 4294967296 % (m : Int) = ((kb l m i : Nat) : Int) := by unfold kb; simp
 rw [e]
 have := kb_lt (l := l) (i := i) h
 unfold wrap64; omega
theorem below_new1 (w : World) (o : Obj) : Below w.heap.size w (w.alloc o) := (Below.refl _ _).alloc (zNr _) o
set_option maxHeartbeats 2000000 in
theorem places_any (v : Value) (lo hi : Nat) (l : List Nat) (m : Nat) (w : World) (hv : Bs w lo hi v l) (hhi : hi ≤ w.heap.size) (hl : ∀ c ∈ l, c < 256) (hm1 : 0 < m) (hm2 : m ≤ 1048576) :
    Calls Tryz.prog 91 #[v, .int .i64 (m : Int)] w fun e w' => e = .returned (.agg (irow (kbs l m))) ∧ Below w.heap.size w w' := by
 have HV := zHd hv
 have HL := zHd hl
 have H0 := zHd (five0 (kb l m))
 have c1 : ∀ W, (convert 150 109 (.float .f64 (floatOfInt .f64 ((crc l : Nat) : Int)))).run Tryz.prog W = .ok (.int .u32 ((crc l : Nat) : Int)) W := fun W => run_convert_float_int W _ _ _ _ _ _ (by kernel_rfl) Tryz.underlying109 (round_u32 _ (crc_lt hl))
 have c2 : ∀ W, (convert 150 109 (.float .f64 (floatOfInt .f64 ((way l : Nat) : Int)))).run Tryz.prog W = .ok (.int .u32 ((way l : Nat) : Int)) W := fun W => run_convert_float_int W _ _ _ _ _ _ (by kernel_rfl) Tryz.underlying109 (round_u32 _ (way_lt hl))
 obtain ⟨A, c, rfl, _, _, _, _⟩ := hv
 clear hl
 go_enter Tryz.func91, Tryz.ntmps91
 go_wp2_with fail
 refine (numbers_any _ lo hi l _ (HV.out.alloc hhi _) (by simp; omega) HL.out).mono ?_
 rintro e w1 ⟨rfl, hb1⟩
 have HA1 : Hid (IArr w1 w.heap.size 131 (part (kb l m) 5 0)) := by
  refine IArr.below ?_ hb1 (by simp)
  unfold IArr
  rw [H0.out]
  exact heap_alloc_new _ _
 have HB1 : Hid (Below w.heap.size w w1) := ((Below.refl w.heap.size w).alloc (zNr _) _).trans (hb1.mono (by simp))
 have hz1 : w.heap.size < w1.heap.size := by have := hb1.size; simp at this; omega
 clear hb1
 go_wp2_with fail
 rw [← H0.out]
 go_loopw [18] (fun i wr => ∃ k : Nat, k ≤ 5 ∧ i = .int .i64 (k : Int) ∧ IArr wr w.heap.size 131 (part (kb l m) 5 0) ∧ IArr wr w1.heap.size 131 (part (kb l m) 5 k) ∧ Below w.heap.size w wr) (fun i _ => 5 - (intOf i).toNat)
 case atStart =>
  refine ⟨0, by omega, rfl, ?_, ?_, ?_⟩
  · exact HA1.out.below (below_new1 _ _) hz1
  · exact heap_alloc_new _ _
  · exact HB1.out.alloc (by omega) _
 case round =>
  obtain ⟨k, hk, rfl, ha, hc, hb⟩ := hrel
  have HA := zHd ha
  have HC := zHd hc
  have HB := zHd hb
  by_cases hlt : k < 5
  · have hcell := hc.cell k (by rw [part_length]; exact hlt)
    have hfree := hc.free k
    have HK := zHd (kb_int l m k hm1 hm2)
    have hmz : ((m : Int) == 0) = false := by simp; omega
    clear ha hc hb c1 c2
    go_wp2_with fail
    go_roundw
    case rel =>
     rw [HK.out]
     refine ⟨k + 1, by omega, by go_num, HA.out.far (by simp; omega) _, ?_, below_set HB.out (by omega) _ _⟩
     have := HC.out.set k (kb l m k)
     rw [part_set] at this
     exact this
    case measure => simp [intOf]; omega
  · clear ha hc hb c1 c2
    obtain rfl : k = 5 := by omega
    go_wp2_with (first | (refine wpList_load_row rfl 131 (.tmp 8) rfl w1.heap.size rfl 131 _ (0, 0) _ HC.out Tryz.underlying131 rfl info5 ?_) | (refine wpList_store_row rfl 131 (.tmp 4) (.tmp 34) rfl w.heap.size (irow (part (kb l m) 5 5)) rfl rfl 131 _ HA.out info5 (by simp [irow_size, part_length]) (irow_one _) ?_))
    have HR := HA.out.setRow (part (kb l m) 5 5)
    refine bodyPost_ret (v := .agg (irow (part (kb l m) 5 5))) (results_cell_row Tryz.results91 _ _ w.heap.size 131 _ (0, 0) _ rfl HR Tryz.underlying131 rfl (by simp [irow_size, part_length, info5])) rfl ⟨by rw [part_kbs], below_row HB.out (zNr _) _⟩
end Go.Proofs.YtkdidghfcfcpfaaGreat.Bl
namespace Go.Proofs.YtkdidghfcfcpfaaGreat.Bl
open Go.ChangeShapes Go.WideShapes Go.ChangeAt Go.RowKit
theorem irow_index {l : List Nat} (hl : l.length = 5) {i : Nat} (hi : i < 5) (w : World) : (Instr.index 131 (.agg (irow l)) (.int .i64 (i : Int))).run Tryz.prog w = .ok (.int .i64 (l[i] : Int)) w := by
 obtain ⟨a, b, c, d, e, rfl⟩ : ∃ a b c d e, l = [a, b, c, d, e] := by
  match l, hl with
  | [a, b, c, d, e], _ => exact ⟨a, b, c, d, e, rfl⟩
 rcases i with _ | _ | _ | _ | _ | i
 · kernel_rfl
 · kernel_rfl
 · kernel_rfl
 · kernel_rfl
 · kernel_rfl
 · omega
theorem or_u8 {x y : Nat} (h : x < 256) (k : y < 256) : bits .or .u8 (x : Int) (y : Int) = ((x ||| y : Nat) : Int) := by
 have hx : x ||| y < 2 ^ 8 := Nat.or_lt_two_pow (by omega) (by omega)
 have h1 : (BitVec.ofInt 8 (x : Int)).toNat = x := by
  rw [BitVec.ofInt_natCast, BitVec.toNat_ofNat]; exact Nat.mod_eq_of_lt (by omega)
 have h2 : (BitVec.ofInt 8 (y : Int)).toNat = y := by
  rw [BitVec.ofInt_natCast, BitVec.toNat_ofNat]; exact Nat.mod_eq_of_lt (by omega)
 show IntKind.u8.wrap ((BitVec.ofInt 8 (x : Int) ||| BitVec.ofInt 8 (y : Int)).toNat : Int) = _
 rw [BitVec.toNat_or, h1, h2]
 simp only [IntKind.wrap, IntKind.signed, IntKind.bits]
 simp
 omega
theorem pow8 (j : Nat) : 2 ^ (j % 8) < 256 := Nat.pow_lt_pow_right (a := 2) (m := j % 8) (n := 8) (by omega) (by omega)
theorem kbs_take (F l : List Nat) {k : Nat} (h : k < 5) (m : Nat) : ((kbs l m).take (k + 1)).foldl setB F = setB (((kbs l m).take k).foldl setB F) (kb l m k) := by
 rw [List.take_succ_eq_append_getElem (by rw [kbs_length]; exact h), List.foldl_append, kbs_get]
 rfl
set_option maxRecDepth 100000 in
set_option maxHeartbeats 4000000 in
theorem set_any (w : World) (B g c : Nat) (F : List Nat) (h : Own B F (.slice (some ⟨g, 0, none⟩) F.length c) w) (hB : B ≤ g) (hg : g < w.heap.size) (hF : ∀ x ∈ F, x < 256) (h0 : 0 < F.length) (h1 : F.length ≤ 131072)
    (v : Value) (lo hi : Nat) (l : List Nat) (hv : Bs w lo hi v l) (hhi : hi ≤ w.heap.size) (hl : ∀ x ∈ l, x < 256) :
    Calls Tryz.prog 141 #[.slice (some ⟨g, 0, none⟩) F.length c, v] w fun e w' => e = .returned (.tuple #[]) ∧ Own B (addK F l) (.slice (some ⟨g, 0, none⟩) F.length c) w' ∧ (∀ w0, Below B w0 w → Below B w0 w') := by
 have HF := zHd hF
 have HO := zHd h
 have HP := zHd (places_any v lo hi l (8 * F.length) w hv hhi hl (by omega) (by omega))
 have e8 : wrap64 ((F.length : Int) * 8) = ((8 * F.length : Nat) : Int) := by unfold wrap64; omega
 clear h hF hv
 go_enter Tryz.func141, Tryz.ntmps141
 go_wp2_with fail
 have e9 : (F.length : Int) * 8 = ((8 * F.length : Nat) : Int) := by omega
 rw [e9]
 refine Calls.mono HP.out ?_
 rintro e w1 ⟨rfl, hb1⟩
 have HX1 : Hid (Ext w w1) := hb1
 have HO1 := zHd (HO.out.below hb1)
 have hg1 : g < w1.heap.size := by have := hb1.size; omega
 have hBw : B ≤ w.heap.size := by omega
 clear hb1 e8 e9 hg
 go_wp2_with fail
 go_loopw [11] (fun i wr => ∃ k : Nat, k ≤ 5 ∧ i = .int .i64 (k : Int) ∧ Hid (Own B (((kbs l (8 * F.length)).take k).foldl setB F) (.slice (some ⟨g, 0, none⟩) F.length c) wr) ∧ Hid (∀ w0, Below B w0 w1 → Below B w0 wr)) (fun i _ => 5 - (intOf i).toNat)
 case atStart => exact ⟨0, by omega, rfl, HO1, zHd (fun _ h => h)⟩
 case round =>
  obtain ⟨k, hk, rfl, HOK, HBK⟩ := hrel
  by_cases hlt : k < 5
  · have HIX := zHd (irow_index (kbs_length l (8 * F.length)) hlt)
    have hix := HIX.out
    obtain ⟨G, hG⟩ : ∃ G, G = ((kbs l (8 * F.length)).take k).foldl setB F := ⟨_, rfl⟩
    have HOG : Hid (Own B G (.slice (some ⟨g, 0, none⟩) F.length c) wr) := by rw [hG]; exact HOK.out
    have hGl : G.length = F.length := by rw [hG, setBs_length]
    obtain ⟨j, hj⟩ : ∃ j, j = kb l (8 * F.length) k := ⟨_, rfl⟩
    have hjl : j < 8 * F.length := by rw [hj]; exact kb_lt (by omega)
    have hkj : (kbs l (8 * F.length))[k]'(by rw [kbs_length]; exact hlt) = j := by rw [kbs_get, hj]
    rw [hkj] at hix
    have HGN : Hid (((kbs l (8 * F.length)).take (k + 1)).foldl setB F = setB G j) := by rw [kbs_take F l hlt, ← hG, ← hj]; exact rfl
    obtain ⟨q, hq⟩ : ∃ q, q = j / 8 := ⟨_, rfl⟩
    have hqn : q < G.length := by omega
    obtain ⟨x, hx⟩ : ∃ x, x = G[q] := ⟨_, rfl⟩
    have HX8 : Hid (x < 256) := by rw [hx]; exact (show ∀ y ∈ G, y < 256 by rw [hG]; exact setBs_lt HF.out) _ (List.getElem_mem _)
    have HXD : Hid (setB G j = G.set q (x ||| 2 ^ (j % 8))) := by unfold setB Hid; rw [← hq, List.getD_eq_getElem?_getD, List.getElem?_eq_getElem hqn, hx]; rfl
    have c0 : wr.cell? ⟨g, q, none⟩ = some (.int .u8 (x : Int)) := by rw [hx]; exact HOG.out.cell hqn
    have HJ8 : Hid ((j : Int) / 8 = (q : Int)) := by rw [hq]; unfold Hid; omega
    have HWQ : Hid (IntKind.i64.wrap (q : Int) = (q : Int)) := IntWalk.i64_in _ (by omega)
    obtain ⟨M, hM⟩ : ∃ M, M = 2 ^ (j % 8) := ⟨_, rfl⟩
    have hqi : (q : Int) < (F.length : Int) := by omega
    have HQL := zHd hqn
    have HOR := zHd (or_u8 HX8.out (show M < 256 by rw [hM]; exact pow8 j))
    have HMK := zHd (fun W => mask_any j (by omega) W)
    rw [← hM] at HMK HXD
    have hji : (j : Int) ≤ 1048576 := by omega
    clear hM hG hj hkj hq hx hqn hGl hk
    go_upto_region 3 with (fail)
    refine flow_tail (by kernel_rfl) [Is (.slice (some ⟨g, 0, none⟩) F.length c), Is (.int .i64 (j : Int)), Is (.int .i64 (q : Int)), Is (.pointer (some ⟨g, q, none⟩)), Is (.int .u8 (x : Int)), Is (.int .i64 (j : Int)), Is (.int .u8 (M : Int)), Is (.int .u8 ((x ||| M : Nat) : Int)), Is (.pointer (some ⟨g, q, none⟩))] 9 (by kernel_rfl) (by kernel_rfl) (by kernel_rfl) (by kernel_rfl) ?mono (fun f1 => ?obl) ?fin
    case mono =>
     simp only [List.forall_mem_cons, List.not_mem_nil, false_imp_iff, implies_true, and_true]
     and_intros <;> exact .is _
    case fin =>
     intro g1 u hu hg
     simp only [List.take_succ_cons, List.take_zero, List.drop_succ_cons, List.drop_zero, puts, Act.put, zq]
     have h7 : g1 7 = _ := hg 7 (by decide)
     have h8 : g1 8 = _ := hg 8 (by decide)
     rw [h7, h8]
     have HXU : Hid (Ext wr u) := zEt (Ext.drew wr) hu
     have HOU := zHd (HOG.out.below HXU.out)
     have c1 := ext_cell HXU.out c0
     have f1 : u.frozen? ⟨g, q, none⟩ = false := HOU.out.free q
     clear hg hu h7 h8 c0 hix
     go_wp2_with fail
     go_roundw
     case rel =>
      refine ⟨k + 1, by omega, by go_num, zHd (by rw [HGN.out, HXD.out]; exact HOU.out.set q _), zHd (fun w0 h => ?_)⟩
      exact ((HBK.out w0 h).trans (HXU.out.mono (by have := (HBK.out w1 (Below.refl _ _)).size; omega))).setCell hB _
     case measure => simp [intOf]; omega
    case obl =>
     refine ⟨fun u hu hd => ?_, fun u hu hd => ?_, fun u hu hd => ?_, fun u hu hd => ?_, fun u hu hd => ?_, fun u hu hd => ?_, fun u hu hd => ?_, fun u hu hd => ?_, fun u hu hd => ?_, trivial⟩
     all_goals try simp only [Act.put, zq]
     · go_simp
       exact zEr
     · go_simp
       exact zEr
     · have e1 : f1 1 = _ := hd 1 (by kernel_rfl)
       have q1 := HJ8.out
       have q2 := HWQ.out
       go_simp
       exact zEr
     · have e0 : f1 0 = _ := hd 0 (by kernel_rfl)
       have e2 : f1 2 = _ := hd 2 (by kernel_rfl)
       go_simp
       exact zEr
     · have e3 : f1 3 = _ := hd 3 (by kernel_rfl)
       have hu2 := zEt (Ext.drew wr) hu
       have q0 := ext_cell hu2 c0
       go_simp
       exact zEr
     · go_simp
       exact zEr
     · have e5 : f1 5 = _ := hd 5 (by kernel_rfl)
       go_simp
       refine (HMK.out u).mono ?_
       rintro y w9 ⟨rfl, rfl⟩
       exact ⟨_, rfl, Ext.refl _, rfl⟩
     · have e4 : f1 4 = _ := hd 4 (by kernel_rfl)
       have e6 : f1 6 = _ := hd 6 (by kernel_rfl)
       have q1 := HOR.out
       go_simp
       exact zEr
     · have e0 : f1 0 = _ := hd 0 (by kernel_rfl)
       have e2 : f1 2 = _ := hd 2 (by kernel_rfl)
       go_simp
       exact zEr
  · obtain rfl : k = 5 := by omega
    go_wp2_with fail
    have e := HOK.out
    rw [List.take_of_length_le (by rw [kbs_length]; exact zNr _)] at e
    go_end0
    exact ⟨rfl, e, fun w0 h => HBK.out w0 (h.trans (HX1.out.mono (by omega)))⟩
end Go.Proofs.YtkdidghfcfcpfaaGreat.Bl
namespace Go.Proofs.YtkdidghfcfcpfaaGreat.Bl
open Go.RowKit
end Go.Proofs.YtkdidghfcfcpfaaGreat.Bl
namespace Go.Proofs.YtkdidghfcfcpfaaGreat.Bl
open Go.ChangeShapes Go.WideShapes Go.ChangeAt Go.RowKit
theorem zero_row (n : Nat) : (madeCells #[Value.int .u8 0] n).toList = bv (List.replicate n 0) := by
 apply List.ext_getElem
 · simp [size_madeCells, bv]
 · intro i h1 h2
   simp [madeCells, bv, Nat.mod_one]
theorem zeros_run (w : World) (n : Nat) (hn : n ≤ 1099511627776) : ∃ w', (Instr.makeSlice 22 (.int .i64 (n : Int)) (.int .i64 (n : Int))).run Tryz.prog w = .ok (.slice (some ⟨w.heap.size, 0, none⟩) n n) w' ∧ Own w.heap.size (List.replicate n 0) (.slice (some ⟨w.heap.size, 0, none⟩) n n) w' ∧ Ext w w' := by
 obtain ⟨i0, hi0, ix0, ix1, ix2⟩ := info_parts t5info
 obtain ⟨w13, hrun, hown, hgrow⟩ := run_make_full (P := Tryz.prog) w w.heap.size 22 5 i0 (.int .u8 0) 1 Tryz.underlying22 hi0 ix0 ix1 .i64 .i64 n (by rw [ix2]; omega) (by unfold maxLen; omega) (zNr _)
 refine ⟨w13, hrun, ?_, (Below.refl _ _).grown hgrow (zNr _) (fun k hk => by cases hk)⟩
 have h := hown
 simp only [Value.cells] at h
 rw [zero_row, Nat.mul_one] at h
 unfold Own
 rw [List.length_replicate]
 exact h
def MakeAns (w : World) (ls : List (List Nat)) (e : Ending) (w' : World) : Prop :=
 Ext w w' ∧ ((65536 < ls.length ∧ e = .returned (.tuple #[.slice none 0 0, .int .i64 2])) ∨ (ls.length ≤ 65536 ∧ ∃ g c, e = .returned (.tuple #[.slice (some ⟨g, 0, none⟩) (bsize ls.length) c, .int .i64 0]) ∧ Own w.heap.size (mk ls) (.slice (some ⟨g, 0, none⟩) (bsize ls.length) c) w'))
theorem mk_take (ls : List (List Nat)) (F : List Nat) {k : Nat} (h : k < ls.length) : (ls.take (k + 1)).foldl addK F = addK ((ls.take k).foldl addK F) ls[k] := by
 rw [List.take_succ_eq_append_getElem h, List.foldl_append]
 rfl
set_option maxRecDepth 100000 in
set_option maxHeartbeats 4000000 in
theorem make_any (A : Option Addr) (c lo hi : Nat) (vs : List Value) (ls : List (List Nat)) (w : World) (h : Rows2 w lo hi A vs ls) (hhi : hi ≤ w.heap.size) (hc : c ≤ maxLen) (hlc : ls.length ≤ c) (hl : ∀ l ∈ ls, ∀ x ∈ l, x < 256) :
    Calls Tryz.prog 119 #[.slice A ls.length c] w (MakeAns w ls) := by
 have hlen : (ls.length : Int) ≤ 9223372036854775807 := by unfold maxLen at hc; omega
 have HR := zHd h
 have HL := zHd hl
 clear h hl hc hlc
 by_cases hbig : 65536 < ls.length
 · have d : decide ((65536 : Int) < (ls.length : Int)) = true := decide_eq_true (by omega)
   have dn : decide (65536 < ls.length) = true := decide_eq_true hbig
   have HBIG := zHd hbig
   clear hbig
   go_enter Tryz.func119, Tryz.ntmps119
   go_wp2_with fail
   go_ret2
   exact ⟨Ext.refl _, .inl ⟨HBIG.out, rfl⟩⟩
 · have d : decide ((65536 : Int) < (ls.length : Int)) = false := decide_eq_false (by omega)
   have dn : decide (65536 < ls.length) = false := decide_eq_false hbig
   have HBIG := zHd hbig
   have HS := zHd (size_any (ls.length : Int) (by omega) hlen w)
   have HZ := zHd (bsize_pos ls.length)
   have HZ2 : Hid (bsize ls.length ≤ 65544) := bsize_le (by omega)
   rw [sizeI_nat (by omega)] at HS
   obtain ⟨N, hN⟩ : ∃ N, N = bsize ls.length := ⟨_, rfl⟩
   rw [← hN] at HS HZ HZ2
   have HN := zHd hN
   obtain ⟨w1, hrun, hown, hx⟩ := zeros_run w N (by have := HZ2.out; omega)
   have HO1 := zHd hown
   have HX1 := zHd hx
   have hln : ls.length ≤ 65536 := by omega
   clear hbig hown hx hN hlen
   go_enter Tryz.func119, Tryz.ntmps119
   go_wp2_with fail
   refine Calls.mono HS.out ?_
   rintro e w2 ⟨rfl, rfl⟩
   go_wp2_with fail
   have HF0 : Hid ((List.replicate N 0).length = N) := List.length_replicate
   go_loopw [16] (fun i wr => ∃ k : Nat, k ≤ ls.length ∧ i = .int .i64 (k : Int) ∧ Hid (Own w.heap.size ((ls.take k).foldl addK (List.replicate N 0)) (.slice (some ⟨w.heap.size, 0, none⟩) N N) wr) ∧ Hid (Ext w wr)) (fun i _ => ls.length - (intOf i).toNat)
   case atStart => exact ⟨0, Nat.zero_le _, rfl, HO1, HX1⟩
   case round =>
    obtain ⟨k, hk, rfl, HOK, HXK⟩ := hrel
    have HRK : Hid (Rows2 wr lo hi A vs ls) := HR.out.below HXK.out hhi
    by_cases hlt : k < ls.length
    · have d : decide ((k : Int) < (ls.length : Int)) = true := decide_eq_true (by omega)
      have dn : decide (k < ls.length) = true := decide_eq_true hlt
      obtain ⟨b, o, A', c', rfl, hcell, q1, q2, q3, q4⟩ := HRK.out.at_ hlt
      have HV : Hid (Bs wr lo hi (.slice A' ls[k].length c') ls[k]) := ⟨A', c', rfl, q1, q2, q3, q4⟩
      obtain ⟨G, hG⟩ : ∃ G, G = (ls.take k).foldl addK (List.replicate N 0) := ⟨_, rfl⟩
      have hGN : G.length = N := by rw [hG, addKs_length, HF0.out]
      have HOG : Hid (Own w.heap.size G (.slice (some ⟨w.heap.size, 0, none⟩) G.length N) wr) := by rw [hGN, hG]; exact HOK.out
      have hgl : w.heap.size < wr.heap.size := by have := hown_lt HOG.out (by have := HZ.out; omega); exact this
      have HSET := zHd (set_any wr w.heap.size w.heap.size N G HOG.out (zNr _) hgl (by rw [hG]; exact addKs_lt (zeros_lt _)) (by have := HZ.out; omega) (by have := HZ2.out; omega) _ lo hi ls[k] HV.out (by omega) (HL.out _ (List.getElem_mem hlt)))
      rw [hGN] at HSET
      have HNX : Hid ((ls.take (k + 1)).foldl addK (List.replicate N 0) = addK G ls[k]) := by rw [hG]; exact mk_take ls _ hlt
      clear q1 q2 q3 q4 hG hGN hgl
      go_wp2_with fail
      refine Calls.mono HSET.out ?_
      rintro e w3 ⟨rfl, ho, hb⟩
      have HO3 := zHd ho
      have HX3 : Hid (Ext w w3) := hb w HXK.out
      clear ho hb
      go_wp2_with fail
      go_roundw
      case rel => exact ⟨k + 1, by omega, by go_num, by rw [HNX.out]; exact HO3, HX3⟩
      case measure => simp [intOf]; omega
    · have d : decide ((k : Int) < (ls.length : Int)) = false := decide_eq_false (by omega)
      have dn : decide (k < ls.length) = false := decide_eq_false hlt
      obtain rfl : k = ls.length := by omega
      go_wp2_with fail
      go_ret2
      refine ⟨HXK.out, .inr ⟨by have := HBIG.out; omega, w.heap.size, N, by rw [HN.out]; rfl, ?_⟩⟩
      have e := HOK.out
      rw [List.take_length] at e
      unfold mk
      rw [← HN.out]
      exact e
theorem okF_iff {n : Nat} : okF n = true ↔ n ≠ 0 ∧ n % 8 = 0 ∧ n ≤ 131072 := by unfold okF; exact decide_eq_true_iff
end Go.Proofs.YtkdidghfcfcpfaaGreat.Bl
