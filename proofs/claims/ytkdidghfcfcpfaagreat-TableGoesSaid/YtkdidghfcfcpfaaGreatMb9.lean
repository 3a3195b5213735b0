import Derived.Test.YtkdidghfcfcpfaaGreatMb8
import Derived.Test.YtkdidghfcfcpfaaGreatMb3
import Derived.Test.YtkdidghfcfcpfaaGreatMb1
import Derived.WalkLawsBesides
import Derived.WalkSpells
import Derived.Test.YtkdidghfcfcpfaaGreatMb5
import Derived.Test.YtkdidghfcfcpfaaGreatMb0
namespace Go.Proofs.YtkdidghfcfcpfaaGreat.Bl
open Go.ChangeShapes Go.WideShapes Go.ChangeAt Go.RowKit
theorem irow_index {l : List Nat} (hl : l.length = 5) {i : Nat} (hi : i < 5) (w : World) : (Instr.index 131 (.agg (irow l)) (.int .i64 (i : Int))).run Tryz.prog w = .ok (.int .i64 (l[i] : Int)) w := by
 obtain ⟨a, b, c, d, e, rfl⟩ : ∃ a b c d e, l = [a, b, c, d, e] := by
  match l, hl with
  | [a, b, c, d, e], _ => exact ⟨a, b, c, d, e, rfl⟩
 rcases i with _ | _ | _ | _ | _ | i
 · kernel_rfl
 · kernel_rfl
 · kernel_rfl
 · kernel_rfl
 · kernel_rfl
 · omega
theorem or_u8 {x y : Nat} (h : x < 256) (k : y < 256) : bits .or .u8 (x : Int) (y : Int) = ((x ||| y : Nat) : Int) := by
 have hx : x ||| y < 2 ^ 8 := Nat.or_lt_two_pow (by omega) (by omega)
 have h1 : (BitVec.ofInt 8 (x : Int)).toNat = x := by
  rw [BitVec.ofInt_natCast, BitVec.toNat_ofNat]; exact Nat.mod_eq_of_lt (by omega)
 have h2 : (BitVec.ofInt 8 (y : Int)).toNat = y := by
  rw [BitVec.ofInt_natCast, BitVec.toNat_ofNat]; exact Nat.mod_eq_of_lt (by omega)
 show IntKind.u8.wrap ((BitVec.ofInt 8 (x : Int) ||| BitVec.ofInt 8 (y : Int)).toNat : Int) = _
 rw [BitVec.toNat_or, h1, h2]
 simp only [IntKind.wrap, IntKind.signed, IntKind.bits]
 simp
 omega
theorem pow8 (j : Nat) : 2 ^ (j % 8) < 256 := Nat.pow_lt_pow_right (a := 2) (m := j % 8) (n := 8) (by omega) (by omega)
theorem kbs_take (F l : List Nat) {k : Nat} (h : k < 5) (m : Nat) : ((kbs l m).take (k + 1)).foldl setB F = setB (((kbs l m).take k).foldl setB F) (kb l m k) := by
 rw [List.take_succ_eq_append_getElem (by rw [kbs_length]; exact h), List.foldl_append, kbs_get]
 rfl
set_option maxRecDepth 100000 in
set_option maxHeartbeats 4000000 in
theorem set_any (w : World) (B g c : Nat) (F : List Nat) (h : Own B F (.slice (some ⟨g, 0, none⟩) F.length c) w) (hB : B ≤ g) (hg : g < w.heap.size) (hF : ∀ x ∈ F, x < 256) (h0 : 0 < F.length) (h1 : F.length ≤ 131072)
    (v : Value) (lo hi : Nat) (l : List Nat) (hv : Bs w lo hi v l) (hhi : hi ≤ w.heap.size) (hl : ∀ x ∈ l, x < 256) :
    Calls Tryz.prog 141 #[.slice (some ⟨g, 0, none⟩) F.length c, v] w fun e w' => e = .returned (.tuple #[]) ∧ Own B (addK F l) (.slice (some ⟨g, 0, none⟩) F.length c) w' ∧ (∀ w0, Below B w0 w → Below B w0 w') := by
 have HF := zHd hF
 have HO := zHd h
 have HP := zHd (places_any v lo hi l (8 * F.length) w hv hhi hl (by omega) (by omega))
 have e8 : wrap64 ((F.length : Int) * 8) = ((8 * F.length : Nat) : Int) := by unfold wrap64; omega
 clear h hF hv
 go_enter Tryz.func141, Tryz.ntmps141
 go_wp2_with fail
 have e9 : (F.length : Int) * 8 = ((8 * F.length : Nat) : Int) := by omega
 rw [e9]
 refine Calls.mono HP.out ?_
 rintro e w1 ⟨rfl, hb1⟩
 have HX1 : Hid (Ext w w1) := hb1
 have HO1 := zHd (HO.out.below hb1)
 have hg1 : g < w1.heap.size := by have := hb1.size; omega
 have hBw : B ≤ w.heap.size := by omega
 clear hb1 e8 e9 hg
 go_wp2_with fail
 go_loopw [11] (fun i wr => ∃ k : Nat, k ≤ 5 ∧ i = .int .i64 (k : Int) ∧ Hid (Own B (((kbs l (8 * F.length)).take k).foldl setB F) (.slice (some ⟨g, 0, none⟩) F.length c) wr) ∧ Hid (∀ w0, Below B w0 w1 → Below B w0 wr)) (fun i _ => 5 - (intOf i).toNat)
 case atStart => exact ⟨0, by omega, rfl, HO1, zHd (fun _ h => h)⟩
 case round =>
  obtain ⟨k, hk, rfl, HOK, HBK⟩ := hrel
  by_cases hlt : k < 5
  · have HIX := zHd (irow_index (kbs_length l (8 * F.length)) hlt)
    have hix := HIX.out
    obtain ⟨G, hG⟩ : ∃ G, G = ((kbs l (8 * F.length)).take k).foldl setB F := ⟨_, rfl⟩
    have HOG : Hid (Own B G (.slice (some ⟨g, 0, none⟩) F.length c) wr) := by rw [hG]; exact HOK.out
    have hGl : G.length = F.length := by rw [hG, setBs_length]
    obtain ⟨j, hj⟩ : ∃ j, j = kb l (8 * F.length) k := ⟨_, rfl⟩
    have hjl : j < 8 * F.length := by rw [hj]; exact kb_lt (by omega)
    have hkj : (kbs l (8 * F.length))[k]'(by rw [kbs_length]; exact hlt) = j := by rw [kbs_get, hj]
    rw [hkj] at hix
    have HGN : Hid (((kbs l (8 * F.length)).take (k + 1)).foldl setB F = setB G j) := by rw [kbs_take F l hlt, ← hG, ← hj]; exact rfl
    obtain ⟨q, hq⟩ : ∃ q, q = j / 8 := ⟨_, rfl⟩
    have hqn : q < G.length := by omega
    obtain ⟨x, hx⟩ : ∃ x, x = G[q] := ⟨_, rfl⟩
    have HX8 : Hid (x < 256) := by rw [hx]; exact (show ∀ y ∈ G, y < 256 by rw [hG]; exact setBs_lt HF.out) _ (List.getElem_mem _)
    have HXD : Hid (setB G j = G.set q (x ||| 2 ^ (j % 8))) := by unfold setB Hid; rw [← hq, List.getD_eq_getElem?_getD, List.getElem?_eq_getElem hqn, hx]; rfl
    have c0 : wr.cell? ⟨g, q, none⟩ = some (.int .u8 (x : Int)) := by rw [hx]; exact HOG.out.cell hqn
    have HJ8 : Hid ((j : Int) / 8 = (q : Int)) := by rw [hq]; unfold Hid; omega
    have HWQ : Hid (IntKind.i64.wrap (q : Int) = (q : Int)) := IntWalk.i64_in _ (by omega)
    obtain ⟨M, hM⟩ : ∃ M, M = 2 ^ (j % 8) := ⟨_, rfl⟩
    have hqi : (q : Int) < (F.length : Int) := by omega
    have HQL := zHd hqn
    have HOR := zHd (or_u8 HX8.out (show M < 256 by rw [hM]; exact pow8 j))
    have HMK := zHd (fun W => mask_any j (by omega) W)
    rw [← hM] at HMK HXD
    have hji : (j : Int) ≤ 1048576 := by omega
    clear hM hG hj hkj hq hx hqn hGl hk
    go_upto_region 3 with (fail)
    refine flow_tail (by kernel_rfl) [Is (.slice (some ⟨g, 0, none⟩) F.length c), Is (.int .i64 (j : Int)), Is (.int .i64 (q : Int)), Is (.pointer (some ⟨g, q, none⟩)), Is (.int .u8 (x : Int)), Is (.int .i64 (j : Int)), Is (.int .u8 (M : Int)), Is (.int .u8 ((x ||| M : Nat) : Int)), Is (.pointer (some ⟨g, q, none⟩))] 9 (by kernel_rfl) (by kernel_rfl) (by kernel_rfl) (by kernel_rfl) ?mono (fun f1 => ?obl) ?fin
    case mono =>
     simp only [List.forall_mem_cons, List.not_mem_nil, false_imp_iff, implies_true, and_true]
     and_intros <;> exact .is _
    case fin =>
     intro g1 u hu hg
     simp only [List.take_succ_cons, List.take_zero, List.drop_succ_cons, List.drop_zero, puts, Act.put, zq]
     have h7 : g1 7 = _ := hg 7 (by decide)
     have h8 : g1 8 = _ := hg 8 (by decide)
     rw [h7, h8]
     have HXU : Hid (Ext wr u) := zEt (Ext.drew wr) hu
     have HOU := zHd (HOG.out.below HXU.out)
     have c1 := ext_cell HXU.out c0
     have f1 : u.frozen? ⟨g, q, none⟩ = false := HOU.out.free q
     clear hg hu h7 h8 c0 hix
     go_wp2_with fail
     go_roundw
     case rel =>
      refine ⟨k + 1, by omega, by go_num, zHd (by rw [HGN.out, HXD.out]; exact HOU.out.set q _), zHd (fun w0 h => ?_)⟩
      exact ((HBK.out w0 h).trans (HXU.out.mono (by have := (HBK.out w1 (Below.refl _ _)).size; omega))).setCell hB _
     case measure => simp [intOf]; omega
    case obl =>
     refine ⟨fun u hu hd => ?_, fun u hu hd => ?_, fun u hu hd => ?_, fun u hu hd => ?_, fun u hu hd => ?_, fun u hu hd => ?_, fun u hu hd => ?_, fun u hu hd => ?_, fun u hu hd => ?_, trivial⟩
     all_goals try simp only [Act.put, zq]
     · go_simp
       exact zEr
     · go_simp
       exact zEr
     · have e1 : f1 1 = _ := hd 1 (by kernel_rfl)
       have q1 := HJ8.out
       have q2 := HWQ.out
       go_simp
       exact zEr
     · have e0 : f1 0 = _ := hd 0 (by kernel_rfl)
       have e2 : f1 2 = _ := hd 2 (by kernel_rfl)
       go_simp
       exact zEr
     · have e3 : f1 3 = _ := hd 3 (by kernel_rfl)
       have hu2 := zEt (Ext.drew wr) hu
       have q0 := ext_cell hu2 c0
       go_simp
       exact zEr
     · go_simp
       exact zEr
     · have e5 : f1 5 = _ := hd 5 (by kernel_rfl)
       go_simp
       refine (HMK.out u).mono ?_
       rintro y w9 ⟨rfl, rfl⟩
       exact ⟨_, rfl, Ext.refl _, rfl⟩
     · have e4 : f1 4 = _ := hd 4 (by kernel_rfl)
       have e6 : f1 6 = _ := hd 6 (by kernel_rfl)
       have q1 := HOR.out
       go_simp
       exact zEr
     · have e0 : f1 0 = _ := hd 0 (by kernel_rfl)
       have e2 : f1 2 = _ := hd 2 (by kernel_rfl)
       go_simp
       exact zEr
  · obtain rfl : k = 5 := by omega
    go_wp2_with fail
    have e := HOK.out
    rw [List.take_of_length_le (by rw [kbs_length]; exact zNr _)] at e
    go_end0
    exact ⟨rfl, e, fun w0 h => HBK.out w0 (h.trans (HX1.out.mono (by omega)))⟩
end Go.Proofs.YtkdidghfcfcpfaaGreat.Bl
namespace Go.Proofs.YtkdidghfcfcpfaaGreat.Bl
open Go.RowKit
end Go.Proofs.YtkdidghfcfcpfaaGreat.Bl
namespace Go.Proofs.YtkdidghfcfcpfaaGreat.Bl
open Go.ChangeShapes Go.WideShapes Go.ChangeAt Go.RowKit
theorem zero_row (n : Nat) : (madeCells #[Value.int .u8 0] n).toList = bv (List.replicate n 0) := by
 apply List.ext_getElem
 · simp [size_madeCells, bv]
 · intro i h1 h2
   simp [madeCells, bv, Nat.mod_one]
theorem zeros_run (w : World) (n : Nat) (hn : n ≤ 1099511627776) : ∃ w', (Instr.makeSlice 22 (.int .i64 (n : Int)) (.int .i64 (n : Int))).run Tryz.prog w = .ok (.slice (some ⟨w.heap.size, 0, none⟩) n n) w' ∧ Own w.heap.size (List.replicate n 0) (.slice (some ⟨w.heap.size, 0, none⟩) n n) w' ∧ Ext w w' := by
 obtain ⟨i0, hi0, ix0, ix1, ix2⟩ := info_parts t5info
 obtain ⟨w13, hrun, hown, hgrow⟩ := run_make_full (P := Tryz.prog) w w.heap.size 22 5 i0 (.int .u8 0) 1 Tryz.underlying22 hi0 ix0 ix1 .i64 .i64 n (by rw [ix2]; omega) (by unfold maxLen; omega) (zNr _)
 refine ⟨w13, hrun, ?_, (Below.refl _ _).grown hgrow (zNr _) (fun k hk => by cases hk)⟩
 have h := hown
 simp only [Value.cells] at h
 rw [zero_row, Nat.mul_one] at h
 unfold Own
 rw [List.length_replicate]
 exact h
def MakeAns (w : World) (ls : List (List Nat)) (e : Ending) (w' : World) : Prop :=
 Ext w w' ∧ ((65536 < ls.length ∧ e = .returned (.tuple #[.slice none 0 0, .int .i64 2])) ∨ (ls.length ≤ 65536 ∧ ∃ g c, e = .returned (.tuple #[.slice (some ⟨g, 0, none⟩) (bsize ls.length) c, .int .i64 0]) ∧ Own w.heap.size (mk ls) (.slice (some ⟨g, 0, none⟩) (bsize ls.length) c) w'))
theorem mk_take (ls : List (List Nat)) (F : List Nat) {k : Nat} (h : k < ls.length) : (ls.take (k + 1)).foldl addK F = addK ((ls.take k).foldl addK F) ls[k] := by
 rw [List.take_succ_eq_append_getElem h, List.foldl_append]
 rfl
set_option maxRecDepth 100000 in
set_option maxHeartbeats 4000000 in
theorem make_any (A : Option Addr) (c lo hi : Nat) (vs : List Value) (ls : List (List Nat)) (w : World) (h : Rows2 w lo hi A vs ls) (hhi : hi ≤ w.heap.size) (hc : c ≤ maxLen) (hlc : ls.length ≤ c) (hl : ∀ l ∈ ls, ∀ x ∈ l, x < 256) :
    Calls Tryz.prog 119 #[.slice A ls.length c] w (MakeAns w ls) := by
 have hlen : (ls.length : Int) ≤ 9223372036854775807 := by unfold maxLen at hc; omega
 have HR := zHd h
 have HL := zHd hl
 clear h hl hc hlc
 by_cases hbig : 65536 < ls.length
 · have d : decide ((65536 : Int) < (ls.length : Int)) = true := decide_eq_true (by omega)
   have dn : decide (65536 < ls.length) = true := decide_eq_true hbig
   have HBIG := zHd hbig
   clear hbig
   go_enter Tryz.func119, Tryz.ntmps119
   go_wp2_with fail
   go_ret2
   exact ⟨Ext.refl _, .inl ⟨HBIG.out, rfl⟩⟩
 · have d : decide ((65536 : Int) < (ls.length : Int)) = false := decide_eq_false (by omega)
   have dn : decide (65536 < ls.length) = false := decide_eq_false hbig
   have HBIG := zHd hbig
   have HS := zHd (size_any (ls.length : Int) (by omega) hlen w)
   have HZ := zHd (bsize_pos ls.length)
   have HZ2 : Hid (bsize ls.length ≤ 65544) := bsize_le (by omega)
   rw [sizeI_nat (by omega)] at HS
   obtain ⟨N, hN⟩ : ∃ N, N = bsize ls.length := ⟨_, rfl⟩
   rw [← hN] at HS HZ HZ2
   have HN := zHd hN
   obtain ⟨w1, hrun, hown, hx⟩ := zeros_run w N (by have := HZ2.out; omega)
   have HO1 := zHd hown
   have HX1 := zHd hx
   have hln : ls.length ≤ 65536 := by omega
   clear hbig hown hx hN hlen
   go_enter Tryz.func119, Tryz.ntmps119
   go_wp2_with fail
   refine Calls.mono HS.out ?_
   rintro e w2 ⟨rfl, rfl⟩
   go_wp2_with fail
   have HF0 : Hid ((List.replicate N 0).length = N) := List.length_replicate
   go_loopw [16] (fun i wr => ∃ k : Nat, k ≤ ls.length ∧ i = .int .i64 (k : Int) ∧ Hid (Own w.heap.size ((ls.take k).foldl addK (List.replicate N 0)) (.slice (some ⟨w.heap.size, 0, none⟩) N N) wr) ∧ Hid (Ext w wr)) (fun i _ => ls.length - (intOf i).toNat)
   case atStart => exact ⟨0, Nat.zero_le _, rfl, HO1, HX1⟩
   case round =>
    obtain ⟨k, hk, rfl, HOK, HXK⟩ := hrel
    have HRK : Hid (Rows2 wr lo hi A vs ls) := HR.out.below HXK.out hhi
    by_cases hlt : k < ls.length
    · have d : decide ((k : Int) < (ls.length : Int)) = true := decide_eq_true (by omega)
      have dn : decide (k < ls.length) = true := decide_eq_true hlt
      obtain ⟨b, o, A', c', rfl, hcell, q1, q2, q3, q4⟩ := HRK.out.at_ hlt
      have HV : Hid (Bs wr lo hi (.slice A' ls[k].length c') ls[k]) := ⟨A', c', rfl, q1, q2, q3, q4⟩
      obtain ⟨G, hG⟩ : ∃ G, G = (ls.take k).foldl addK (List.replicate N 0) := ⟨_, rfl⟩
      have hGN : G.length = N := by rw [hG, addKs_length, HF0.out]
      have HOG : Hid (Own w.heap.size G (.slice (some ⟨w.heap.size, 0, none⟩) G.length N) wr) := by rw [hGN, hG]; exact HOK.out
      have hgl : w.heap.size < wr.heap.size := by have := hown_lt HOG.out (by have := HZ.out; omega); exact this
      have HSET := zHd (set_any wr w.heap.size w.heap.size N G HOG.out (zNr _) hgl (by rw [hG]; exact addKs_lt (zeros_lt _)) (by have := HZ.out; omega) (by have := HZ2.out; omega) _ lo hi ls[k] HV.out (by omega) (HL.out _ (List.getElem_mem hlt)))
      rw [hGN] at HSET
      have HNX : Hid ((ls.take (k + 1)).foldl addK (List.replicate N 0) = addK G ls[k]) := by rw [hG]; exact mk_take ls _ hlt
      clear q1 q2 q3 q4 hG hGN hgl
      go_wp2_with fail
      refine Calls.mono HSET.out ?_
      rintro e w3 ⟨rfl, ho, hb⟩
      have HO3 := zHd ho
      have HX3 : Hid (Ext w w3) := hb w HXK.out
      clear ho hb
      go_wp2_with fail
      go_roundw
      case rel => exact ⟨k + 1, by omega, by go_num, by rw [HNX.out]; exact HO3, HX3⟩
      case measure => simp [intOf]; omega
    · have d : decide ((k : Int) < (ls.length : Int)) = false := decide_eq_false (by omega)
      have dn : decide (k < ls.length) = false := decide_eq_false hlt
      obtain rfl : k = ls.length := by omega
      go_wp2_with fail
      go_ret2
      refine ⟨HXK.out, .inr ⟨by have := HBIG.out; omega, w.heap.size, N, by rw [HN.out]; rfl, ?_⟩⟩
      have e := HOK.out
      rw [List.take_length] at e
      unfold mk
      rw [← HN.out]
      exact e
theorem okF_iff {n : Nat} : okF n = true ↔ n ≠ 0 ∧ n % 8 = 0 ∧ n ≤ 131072 := by unfold okF; exact decide_eq_true_iff
end Go.Proofs.YtkdidghfcfcpfaaGreat.Bl
namespace Go.Proofs.YtkdidghfcfcpfaaGreat
open Go.ChangeShapes Go.WideShapes Go.ChangeAt Go.RowKit
structure KeyRow (B lo hi : Nat) (v : Value) (ls : List (List Nat)) (u : World) : Prop where
 ex : ∃ A c xs, v = .slice A ls.length c ∧ u.ownsRow B 22 1 v ls.length xs ∧ xs.length = ls.length ∧ ∀ (i : Nat) (x : Value) (l : List Nat), xs[i]? = some x → ls[i]? = some l → Bs u lo hi x l
theorem KeyRow.nil (B lo hi : Nat) (u : World) : KeyRow B lo hi (.slice none 0 0) [] u := ⟨none, 0, [], rfl, World.ownsRow_nil _ _ _ _, rfl, fun i x l h => by simp at h⟩
theorem KeyRow.below {B lo hi : Nat} {v : Value} {ls : List (List Nat)} {u u' : World} (h : KeyRow B lo hi v ls u) (hx : Ext u u') (hhi : hi ≤ u.heap.size) : KeyRow B lo hi v ls u' := by
 obtain ⟨A, c, xs, h1, h2, h3, h4⟩ := h.ex
 exact ⟨A, c, xs, h1, row_kept h2 fun g hg => hx.block g (row_lt h2 g hg).2, h3, fun i x l hx' hl => (h4 i x l hx' hl).below hx hhi⟩
theorem KeyRow.rows {B lo hi : Nat} {v : Value} {ls : List (List Nat)} {u : World} (h : KeyRow B lo hi v ls u) (hhi : hi ≤ u.heap.size) : ∃ A c xs, v = .slice A ls.length c ∧ Rows2 u 0 u.heap.size A xs ls ∧ ls.length ≤ c ∧ c ≤ maxLen := by
 obtain ⟨A, c, xs, h1, h2, h3, h4⟩ := h.ex
 subst h1
 obtain ⟨r1, r2, r3, _⟩ := rows_of_own h2 h3 (fun i x l hx hl => (h4 i x l hx hl).wide (Nat.zero_le _) hhi)
 exact ⟨A, c, xs, rfl, r1, r2, r3⟩
theorem keyAt_first {L : List Ent} {e : Ent} (h : L[0]? = some e) : keyAt L 0 = [e.key] := by
 unfold keyAt
 rw [h]
 simp only [Option.map_some, Option.getD_some]
 rw [if_pos (Or.inl trivial)]
theorem keyAt_next {L : List Ent} {k : Nat} {e e' : Ent} (h : L[k]? = some e) (h' : L[k + 1]? = some e') : keyAt L (k + 1) = if e.key = e'.key then [] else [e'.key] := by
 unfold keyAt
 rw [h', Nat.add_sub_cancel, h]
 simp only [Option.map_some, Option.getD_some]
 by_cases hh : e.key = e'.key
 · rw [if_pos hh, if_neg]
   rintro (h1 | h1)
   · omega
   · exact h1 (by rw [hh])
 · rw [if_neg hh, if_pos]
   exact .inr fun h1 => hh (by injection h1)
set_option maxRecDepth 100000 in
set_option maxHeartbeats 8000000 in
theorem filter_any {w : World} {lo hi c : Nat} {A : Option Addr} {L : List (Ent × Hd)} (h : Es w lo hi A L) (hhi : hi ≤ w.heap.size) (hlen : L.length ≤ 4096) (hk8 : ∀ p ∈ L, ∀ x ∈ p.1.key, x < 256) :
    Calls Tryz.prog 100 #[.slice A L.length c] w fun x w' => ∃ v, x = .returned v ∧ Own w.heap.size (Bl.mk (keysT (L.map Prod.fst))) v w' ∧ Ext w w' := by
 have HE := zHd h
 have HHI := zHd hhi
 have HL := zHd hlen
 have HK8 := zHd hk8
 obtain ⟨Ls, hLs⟩ : ∃ Ls, Ls = L.map Prod.fst := ⟨_, rfl⟩
 have HLS := zHd hLs
 have HLL : Hid (Ls.length = L.length) := by rw [hLs]; simp [Hid]
 rw [← hLs]
 have hlI : (L.length : Int) ≤ 4096 := by omega
 obtain ⟨i2, hi2', z1, z2, z3⟩ := info_parts tbytesinfo
 have HI2 := zHd hi2'
 clear h hhi hlen hLs hi2' hk8
 go_enter Tryz.func100, Tryz.ntmps100
 go_wp2_with fail
 go_loopw [3, 4, 5, 10] (fun v _ _ i wr => ∃ k : Nat, k ≤ L.length ∧ i = .int .i64 (k : Int) ∧ Hid (KeyRow w.heap.size lo hi v (keysTo Ls k) wr) ∧ Hid (Ext w wr)) (fun _ _ _ i _ => L.length - (intOf i).toNat)
 case atStart => exact ⟨0, Nat.zero_le _, rfl, KeyRow.nil _ _ _ _, Ext.refl _⟩
 case round =>
  obtain ⟨k, hk, rfl, HKR, HX⟩ := hrel
  by_cases hlt : k < L.length
  rotate_left
  · have d : decide ((k : Int) < (L.length : Int)) = false := decide_eq_false (by omega)
    have dn : decide (k < L.length) = false := decide_eq_false hlt
    have hkn : k = L.length := by omega
    have hkt : keysTo Ls k = keysT Ls := by unfold keysT; rw [HLL.out, hkn]
    have hkl : (keysT Ls).length ≤ 4096 := by have := keysTo_len Ls k; rw [hkt] at this; have := HL.out; omega
    rw [hkt] at HKR
    obtain ⟨KA, kc, xs, rfl, hrows, hc1, hc2⟩ := HKR.out.rows (zNt HHI.out HX.out.size)
    have HMK := zHd (Bl.make_any KA kc 0 wr.heap.size xs (keysT Ls) wr hrows (zNr _) hc2 hc1 (fun l hl x hx => by
     obtain ⟨e, he, rfl⟩ := keysTo_mem hl
     rw [HLS.out] at he
     obtain ⟨p, hp, rfl⟩ := List.mem_map.1 he
     exact HK8.out p hp x hx))
    have HKL := zHd hkl
    clear hlt hk hkn hkt hkl hrows hc1 hc2 z1 z2 z3
    go_wp2_with fail
    refine HMK.out.mono ?_
    rintro x w2 ⟨hx2, (⟨hbig, _⟩ | ⟨_, g, gc, rfl, ho⟩)⟩
    · have := HKL.out; omega
    have HX2 : Hid (Ext w w2) := zEt HX.out hx2
    have ho' : Own wr.heap.size (Bl.mk (keysT Ls)) (.slice (some ⟨g, 0, none⟩) (Bl.bsize (keysT Ls).length) gc) w2 := ho
    have HO := zHd (ho'.base HX.out.size)
    clear hx2 ho ho' HMK
    go_wp2_with fail
    go_ret
    exact ⟨_, rfl, HO.out, HX2.out⟩
  have d : decide ((k : Int) < (L.length : Int)) = true := decide_eq_true (by omega)
  have dn : decide (k < L.length) = true := decide_eq_true hlt
  have HLT := zHd hlt
  obtain ⟨b, o, hA⟩ := HE.out.base (by omega)
  subst hA
  obtain ⟨p, hp⟩ : ∃ p, L[k]? = some p := ⟨_, List.getElem?_eq_getElem hlt⟩
  have HP := zHd hp
  have HEr := zHd (HE.out.below HX.out HHI.out)
  have HPS : Hid (Ls[k]? = some p.1) := by unfold Hid; rw [HLS.out, List.getElem?_map, hp]; rfl
  have HEM : Hid (Em wr lo hi p.1 p.2) := HEr.out.each p (List.mem_of_getElem? hp)
  obtain ⟨c0, c1, c2, c3⟩ := HEr.out.get hp
  have n1 : (0 : Int) ≤ (k : Int) := by omega
  have n2 : (k : Int) < (L.length : Int) := by omega
  clear hp hlt hk
  go_upto_region 5 with (fail)
  obtain ⟨w4, hw4⟩ : ∃ w4, w4 = wr.alloc (.cells #[.slice p.2.kA p.1.key.length p.2.kc, .int .i64 p.1.seq, .int .i64 p.1.kind, .slice p.2.vA p.1.val.length p.2.vc] 50) := ⟨_, rfl⟩
  obtain ⟨eb, heb⟩ : ∃ eb, eb = wr.heap.size := ⟨_, rfl⟩
  rw [← hw4, ← heb]
  have HX4 : Hid (Ext wr w4) := by rw [hw4]; exact ext_alloc _ _
  have HB4 : Hid (w4.heap[eb]? = some (.cells #[.slice p.2.kA p.1.key.length p.2.kc, .int .i64 p.1.seq, .int .i64 p.1.kind, .slice p.2.vA p.1.val.length p.2.vc] 50 (0, 0))) := by rw [hw4, heb]; exact heap_at _ _ rfl
  have HE4 := zHd (HEr.out.below HX4.out (zNt HHI.out HX.out.size))
  have HHI4 : Hid (hi ≤ w4.heap.size) := zNt (zNt HHI.out HX.out.size) HX4.out.size
  have HK4 := zHd (HKR.out.below HX4.out (zNt HHI.out HX.out.size))
  have HXW4 : Hid (Ext w w4) := zEt HX.out HX4.out
  clear hw4 heb c0 c1 c2 c3 HKR
  have b0 := cell_of HB4.out (k := 0) rfl
  rcases k with _ | k1
  · refine flow (by kernel_rfl) [Is (.int .i64 ((0 : Nat) : Int)), Is (.bool true), Is (.bool true), Is undef, Is undef, Is undef, Is undef, Is undef, Is undef, Is undef, Is undef, Is undef, Is undef, Is (.bool true)] (by kernel_rfl) (by kernel_rfl) ?mono (fun f1 => ?obl) ?fin
    case mono =>
     simp only [List.forall_mem_cons, List.not_mem_nil, false_imp_iff, implies_true, and_true]
     and_intros <;> exact .is _
    case fin =>
     intro g1 u hu hg
     simp only [puts, Act.put, zq]
     have e13 : g1 13 = _ := hg 13 (by decide)
     rw [e13]
     have HXU4 : Hid (Ext w4 u) := zEt (Ext.drew w4) hu
     have HXU : Hid (Ext wr u) := zEt HX4.out HXU4.out
     have HKU := zHd (HK4.out.below HXU4.out HHI4.out)
     have hb0 := ext_cell HXU4.out b0
     clear hg hu b0 e13
     have HKA : Hid (keyAt Ls 0 = [p.1.key]) := keyAt_first HPS.out
     obtain ⟨KA, kc, xs, hv, hrw, hxn, hea⟩ := HKU.out.ex
     subst hv
     have HRW := zHd hrw
     have HXN0 := zHd hxn
     have HEA := zHd hea
     obtain ⟨KN, hKN⟩ : ∃ KN, KN = (keysTo Ls (0)).length := ⟨_, rfl⟩
     have HKE : Hid ((keysTo Ls (0)).length = KN) := hKN.symm
     have HXN : Hid (xs.length = KN) := by rw [hKN]; exact hxn
     have HKN : Hid (KN ≤ 4096) := by rw [hKN]; have := keysTo_len Ls (0); have := HLT.out; have := HL.out; unfold Hid; omega
     have HNL : Hid (keysTo Ls (0 + 1) = keysTo Ls (0) ++ [p.1.key]) := by unfold Hid; rw [keysTo_succ, HKA.out]
     have HNX : Hid ((keysTo Ls (0 + 1)).length = KN + 1) := by rw [HNL.out, List.length_append, hKN]; rfl
     rw [← hKN] at HRW ⊢
     clear hrw hxn hea hKN
     go_wp2_with (at_builtin; refine wpList_pushrow rfl (.tmp 29) (.tmp 32) 105 rfl w.heap.size 22 i2 (.slice none 0 0) 24 Tryz.underlying105 HI2.out z1 z2 z3 rfl _ _ _ rfl HRW.out _ rfl _ rfl rfl ?k4 ?k5 (zNt HX.out.size HXU.out.size) ?_)
     case k4 => unfold maxLen; have := HKN.out; omega
     case k5 => have := HKN.out; omega
     intro A6 c6 w6 ho6 hg6
     have HX6 : Hid (Below w.heap.size u w6) := grown_belowR hg6 (fun g hg => (row_lt HRW.out g hg).1) (zNt HX.out.size HXU.out.size)
     have HK6 : Hid (KeyRow w.heap.size lo hi (.slice A6 (KN + 1) c6) (keysTo Ls (0 + 1)) w6) := by
      refine ⟨A6, c6, xs ++ [.slice p.2.kA p.1.key.length p.2.kc], by rw [HNX.out], ?_, ?_, fun i x l hx hl => ?_⟩
      · have e9 : (keysTo Ls (0 + 1)).length = KN + 1 := HNX.out
        rw [e9]; exact ho6
      · rw [HNX.out, List.length_append, HXN.out]; rfl
      · have hu6 : ∀ {x : Value} {l : List Nat}, Bs u lo hi x l → Bs w6 lo hi x l := fun hb => hb.below HX6.out HHI.out
        rw [HNL.out] at hl
        rcases Nat.lt_or_ge i KN with hi5 | hi5
        · rw [List.getElem?_append_left (by rw [HXN.out]; exact hi5)] at hx
          rw [List.getElem?_append_left (by rw [HKE.out]; exact hi5)] at hl
          exact hu6 (HEA.out i x l hx hl)
        · rw [List.getElem?_append_right (by rw [HXN.out]; exact hi5)] at hx
          rw [List.getElem?_append_right (by rw [HKE.out]; exact hi5)] at hl
          rw [HXN.out] at hx
          rw [HKE.out] at hl
          rcases h9 : i - KN with _ | j
          · rw [h9] at hx hl
            simp at hx hl
            subst hx hl
            exact hu6 ((HE4.out.each p (List.mem_of_getElem? HP.out)).k.below HXU4.out HHI4.out)
          · rw [h9] at hx; simp at hx
     have HXF : Hid (Ext w w6) := Below.trans (zEt HX.out HXU.out) HX6.out
     clear ho6 hg6 hb0
     go_wp2_with fail
     go_roundw
     case rel => exact ⟨0 + 1, HLT.out, by go_num, HK6, HXF⟩
     case measure => have := HLT.out; simp [intOf]; omega
    case obl =>
     refine ⟨fun u hu hd => ?_, fun u hu hd => ?_, fun u hu hd => ?_, fun u hu hd => ?_, fun u hu hd => ?_, fun u hu hd => ?_, fun u hu hd => ?_, fun u hu hd => ?_, fun u hu hd => ?_, fun u hu hd => ?_, fun u hu hd => ?_, fun u hu hd => ?_, fun u hu hd => ?_, fun u hu hd => ?_, trivial⟩
     all_goals try simp only [Act.put, zq]
     · go_simp
       exact zEr
     · have e0 : f1 0 = _ := hd 0 (by kernel_rfl)
       go_simp
       exact zEr
     · have e1 : f1 1 = _ := hd 1 (by kernel_rfl)
       go_simp
       exact zEr
     · have e2 : f1 2 = _ := hd 2 (by kernel_rfl)
       go_simp
       rfl
     · have e2 : f1 2 = _ := hd 2 (by kernel_rfl)
       go_simp
       rfl
     · have e2 : f1 2 = _ := hd 2 (by kernel_rfl)
       go_simp
       rfl
     · have e2 : f1 2 = _ := hd 2 (by kernel_rfl)
       go_simp
       rfl
     · have e2 : f1 2 = _ := hd 2 (by kernel_rfl)
       go_simp
       rfl
     · have e2 : f1 2 = _ := hd 2 (by kernel_rfl)
       go_simp
       rfl
     · have e2 : f1 2 = _ := hd 2 (by kernel_rfl)
       go_simp
       rfl
     · have e2 : f1 2 = _ := hd 2 (by kernel_rfl)
       go_simp
       rfl
     · have e2 : f1 2 = _ := hd 2 (by kernel_rfl)
       go_simp
       rfl
     · have e2 : f1 2 = _ := hd 2 (by kernel_rfl)
       go_simp
       rfl
     · have e2 : f1 2 = _ := hd 2 (by kernel_rfl)
       go_simp
       exact zEr
  · obtain ⟨p0, hp0⟩ : ∃ p0, L[k1]? = some p0 := ⟨_, List.getElem?_eq_getElem (by have := HLT.out; omega)⟩
    have HP0 := zHd hp0
    have HPS0 : Hid (Ls[k1]? = some p0.1) := by unfold Hid; rw [HLS.out, List.getElem?_map, hp0]; rfl
    obtain ⟨c0, _, _, _⟩ := HE4.out.get hp0
    obtain ⟨z, hz⟩ : ∃ z : Bool, (z = true ↔ p0.1.key ≠ p.1.key) := by
     by_cases h : p0.1.key = p.1.key
     · exact ⟨false, by simp [h]⟩
     · exact ⟨true, by simp [h]⟩
    have HZ := zHd hz
    have m1 : (0 : Int) ≤ (k1 : Int) := by omega
    have m2 : (k1 : Int) < (L.length : Int) := by have := HLT.out; omega
    have hcz : (cmpK p0.1.key p.1.key != 0) = z := by
     by_cases h : p0.1.key = p.1.key
     · rw [h, cmpK_self]
       cases z
       · rfl
       · exact absurd h (hz.1 rfl)
     · have h2 : cmpK p0.1.key p.1.key ≠ 0 := fun e => h (cmpK_zero e)
       have hz1 := hz.2 h
       rw [hz1]
       simpa using h2
    clear hp0 hz
    refine flow (by kernel_rfl) [Is (.int .i64 ((k1 + 1 : Nat) : Int)), Is (.bool false), Is (.bool false), Is (.slice (some ⟨b, o, none⟩) L.length c), Is (.int .i64 ((k1 + 1 : Nat) : Int)), Is (.int .i64 (k1 : Int)), Is (.pointer (some ⟨b, o + k1 * 4, none⟩)), Is (.pointer (some ⟨b, o + k1 * 4, none⟩)), Is (.slice p0.2.kA p0.1.key.length p0.2.kc), Is (.pointer (some ⟨eb, 0, none⟩)), Is (.slice p.2.kA p.1.key.length p.2.kc), Is (.int .i64 (cmpK p0.1.key p.1.key)), Is (.bool z), Is (.bool z)] (by kernel_rfl) (by kernel_rfl) ?mono (fun f1 => ?obl) ?fin
    case mono =>
     simp only [List.forall_mem_cons, List.not_mem_nil, false_imp_iff, implies_true, and_true]
     and_intros <;> exact .is _
    case fin =>
     intro g1 u hu hg
     simp only [puts, Act.put, zq]
     have e13 : g1 13 = _ := hg 13 (by decide)
     rw [e13]
     have HXU4 : Hid (Ext w4 u) := zEt (Ext.drew w4) hu
     have HXU : Hid (Ext wr u) := zEt HX4.out HXU4.out
     have HKU := zHd (HK4.out.below HXU4.out HHI4.out)
     have hb0 := ext_cell HXU4.out b0
     clear hg hu b0 e13 c0
     have HKN1 := zHd (keyAt_next HPS0.out HPS.out)
     cases z with
     | true =>
      have HKA : Hid (keyAt Ls (k1 + 1) = [p.1.key]) := by rw [HKN1.out, if_neg (HZ.out.1 rfl)]; rfl
      obtain ⟨KA, kc, xs, hv, hrw, hxn, hea⟩ := HKU.out.ex
      subst hv
      have HRW := zHd hrw
      have HXN0 := zHd hxn
      have HEA := zHd hea
      obtain ⟨KN, hKN⟩ : ∃ KN, KN = (keysTo Ls (k1 + 1)).length := ⟨_, rfl⟩
      have HKE : Hid ((keysTo Ls (k1 + 1)).length = KN) := hKN.symm
      have HXN : Hid (xs.length = KN) := by rw [hKN]; exact hxn
      have HKN : Hid (KN ≤ 4096) := by rw [hKN]; have := keysTo_len Ls (k1 + 1); have := HLT.out; have := HL.out; unfold Hid; omega
      have HNL : Hid (keysTo Ls (k1 + 1 + 1) = keysTo Ls (k1 + 1) ++ [p.1.key]) := by unfold Hid; rw [keysTo_succ, HKA.out]
      have HNX : Hid ((keysTo Ls (k1 + 1 + 1)).length = KN + 1) := by rw [HNL.out, List.length_append, hKN]; rfl
      rw [← hKN] at HRW ⊢
      clear hrw hxn hea hKN
      go_wp2_with (at_builtin; refine wpList_pushrow rfl (.tmp 29) (.tmp 32) 105 rfl w.heap.size 22 i2 (.slice none 0 0) 24 Tryz.underlying105 HI2.out z1 z2 z3 rfl _ _ _ rfl HRW.out _ rfl _ rfl rfl ?k4 ?k5 (zNt HX.out.size HXU.out.size) ?_)
      case k4 => unfold maxLen; have := HKN.out; omega
      case k5 => have := HKN.out; omega
      intro A6 c6 w6 ho6 hg6
      have HX6 : Hid (Below w.heap.size u w6) := grown_belowR hg6 (fun g hg => (row_lt HRW.out g hg).1) (zNt HX.out.size HXU.out.size)
      have HK6 : Hid (KeyRow w.heap.size lo hi (.slice A6 (KN + 1) c6) (keysTo Ls (k1 + 1 + 1)) w6) := by
       refine ⟨A6, c6, xs ++ [.slice p.2.kA p.1.key.length p.2.kc], by rw [HNX.out], ?_, ?_, fun i x l hx hl => ?_⟩
       · have e9 : (keysTo Ls (k1 + 1 + 1)).length = KN + 1 := HNX.out
         rw [e9]; exact ho6
       · rw [HNX.out, List.length_append, HXN.out]; rfl
       · have hu6 : ∀ {x : Value} {l : List Nat}, Bs u lo hi x l → Bs w6 lo hi x l := fun hb => hb.below HX6.out HHI.out
         rw [HNL.out] at hl
         rcases Nat.lt_or_ge i KN with hi5 | hi5
         · rw [List.getElem?_append_left (by rw [HXN.out]; exact hi5)] at hx
           rw [List.getElem?_append_left (by rw [HKE.out]; exact hi5)] at hl
           exact hu6 (HEA.out i x l hx hl)
         · rw [List.getElem?_append_right (by rw [HXN.out]; exact hi5)] at hx
           rw [List.getElem?_append_right (by rw [HKE.out]; exact hi5)] at hl
           rw [HXN.out] at hx
           rw [HKE.out] at hl
           rcases h9 : i - KN with _ | j
           · rw [h9] at hx hl
             simp at hx hl
             subst hx hl
             exact hu6 ((HE4.out.each p (List.mem_of_getElem? HP.out)).k.below HXU4.out HHI4.out)
           · rw [h9] at hx; simp at hx
      have HXF : Hid (Ext w w6) := Below.trans (zEt HX.out HXU.out) HX6.out
      clear ho6 hg6 hb0
      go_wp2_with fail
      go_roundw
      case rel => exact ⟨k1 + 1 + 1, HLT.out, by go_num, HK6, HXF⟩
      case measure => have := HLT.out; simp [intOf]; omega
     | false =>
      have HST : Hid (keysTo Ls (k1 + 1 + 1) = keysTo Ls (k1 + 1)) := by
       unfold Hid
       rw [keysTo_succ, HKN1.out, if_pos, List.append_nil]
       by_cases h : p0.1.key = p.1.key
       · exact h
       · exact absurd (HZ.out.2 h) (by decide)
      have HKS : Hid (KeyRow w.heap.size lo hi u3 (keysTo Ls (k1 + 1 + 1)) u) := by rw [HST.out]; exact HKU.out
      clear hb0
      go_wp2_with fail
      go_roundw
      case rel => exact ⟨k1 + 1 + 1, HLT.out, by go_num, HKS, zEt HX.out HXU.out⟩
      case measure => have := HLT.out; simp [intOf]; omega
    case obl =>
     refine ⟨fun u hu hd => ?_, fun u hu hd => ?_, fun u hu hd => ?_, fun u hu hd => ?_, fun u hu hd => ?_, fun u hu hd => ?_, fun u hu hd => ?_, fun u hu hd => ?_, fun u hu hd => ?_, fun u hu hd => ?_, fun u hu hd => ?_, fun u hu hd => ?_, fun u hu hd => ?_, fun u hu hd => ?_, trivial⟩
     all_goals try simp only [Act.put, zq]
     · go_simp
       exact zEr
     · have e0 : f1 0 = _ := hd 0 (by kernel_rfl)
       go_simp
       exact zEr
     · have e1 : f1 1 = _ := hd 1 (by kernel_rfl)
       go_simp
       exact zEr
     · have e2 : f1 2 = _ := hd 2 (by kernel_rfl)
       go_simp
       exact zEr
     · have e2 : f1 2 = _ := hd 2 (by kernel_rfl)
       go_simp
       exact zEr
     · have e2 : f1 2 = _ := hd 2 (by kernel_rfl)
       have e4 : f1 4 = _ := hd 4 (by kernel_rfl)
       have hs : IntKind.i64.wrap (k1 : Int) = (k1 : Int) := by have := HLT.out; rw [IntKind.wrap_i64]; omega
       go_simp
       exact zEr
     · have e2 : f1 2 = _ := hd 2 (by kernel_rfl)
       have e3 : f1 3 = _ := hd 3 (by kernel_rfl)
       have e5 : f1 5 = _ := hd 5 (by kernel_rfl)
       go_simp
       exact zEr
     · have e2 : f1 2 = _ := hd 2 (by kernel_rfl)
       have e6 : f1 6 = _ := hd 6 (by kernel_rfl)
       go_simp
       exact zEr
     · have e2 : f1 2 = _ := hd 2 (by kernel_rfl)
       have e7 : f1 7 = _ := hd 7 (by kernel_rfl)
       have hu2 := zEt (Ext.drew w4) hu
       have q0 := ext_cell hu2 c0
       go_simp
       exact zEr
     · have e2 : f1 2 = _ := hd 2 (by kernel_rfl)
       go_simp
       exact zEr
     · have e2 : f1 2 = _ := hd 2 (by kernel_rfl)
       have e9 : f1 9 = _ := hd 9 (by kernel_rfl)
       have hu2 := zEt (Ext.drew w4) hu
       have q0 := ext_cell hu2 b0
       go_simp
       exact zEr
     · have e2 : f1 2 = _ := hd 2 (by kernel_rfl)
       have e8 : f1 8 = _ := hd 8 (by kernel_rfl)
       have e10 : f1 10 = _ := hd 10 (by kernel_rfl)
       have hu4 := zEt (Ext.drew w4) hu
       go_simp
       refine (keys_any ((HE4.out.each p0 (List.mem_of_getElem? HP0.out)).k.below hu4 HHI4.out) ((HE4.out.each p (List.mem_of_getElem? HP.out)).k.below hu4 HHI4.out) (HK8.out p0 (List.mem_of_getElem? HP0.out)) (HK8.out p (List.mem_of_getElem? HP.out))).mono ?_
       rintro x9 w9 ⟨rfl, rfl⟩
       exact ⟨_, rfl, Ext.refl _, rfl⟩
     · have e2 : f1 2 = _ := hd 2 (by kernel_rfl)
       have e11 : f1 11 = _ := hd 11 (by kernel_rfl)
       go_simp
       exact zEr
     · have e2 : f1 2 = _ := hd 2 (by kernel_rfl)
       have e12 : f1 12 = _ := hd 12 (by kernel_rfl)
       go_simp
       exact zEr
theorem enters_entries1 : ∀ args w, (callFunc 155 args).run Tryz.prog w = .ok (.enter 155 args) w := enters_of Tryz.func155 (by kernel_rfl) rfl
def Free (D : Nat → Prop) (v : Value) : Prop := ∀ b, v.ownBlock = some b → ¬ D b
def entV (x : Ent × Hd) : Array Value := #[x.1.at_ x.2]
def EntOk (w : World) (bd : List Nat) (D _K : Nat → Prop) (k : Nat) (x : Ent × Hd) (A : World) : Prop :=
 (∀ L, BodyIs L bd → L[k]? = some x.1) ∧ Mine w.heap.size x A ∧ Free D (.slice x.2.kA x.1.key.length x.2.kc) ∧ Free D (.slice x.2.vA x.1.val.length x.2.vc)
def EntDone (bd : List Nat) (k : Nat) : Prop := ∀ L, BodyIs L bd → L.length = k
def EntPan (bd : List Nat) (_k : Nat) (ch : List PanicEntry) : Prop := ch = gaveUp ∧ ∀ L, ¬ BodyIs L bd
def leftAt (r : Nat) (w : World) : Nat := match w.cell? ⟨r, 0, none⟩ with | some (.slice _ n _) => n | _ => 0
theorem Rd.left {w : World} {r lo hi : Nat} {l : List Nat} (h : Rd w r lo hi l) : leftAt r w = l.length := by
 obtain ⟨v, h1, A, c, rfl, _⟩ := h.ex
 unfold leftAt
 rw [h1.c0]
theorem Rd.stepK {w w' : World} {r lo hi : Nat} {l : List Nat} {K : Nat → Prop} (h : Rd w r lo hi l) (hs : StepK K w w') (hr : K r) (hk : ∀ i, lo ≤ i → i < hi → K i) : Rd w' r lo hi l := by
 obtain ⟨v, h1, h2⟩ := h.ex
 exact ⟨⟨v, (hs.stay r hr h1.lt).trans h1, h2.of fun _ h3 => Sl.keep h3 fun p h4 h5 => World.cell?_of_block (hs.stay p.block (hk _ h4 h5) (Nat.lt_of_lt_of_le h5 h.top))⟩, h.apart, zNt h.top hs.size, h.byt⟩
structure KeyAt (W : World) (r : Nat) (K : Nat → Prop) (v : Value) (ah : List Nat) (wr : World) : Prop where
 ex : ∃ lo hi, Bs wr lo hi v ah ∧ hi ≤ wr.heap.size ∧ (r < lo ∨ hi ≤ r) ∧ ∀ i, lo ≤ i → i < hi → K i
 byt : ∀ x ∈ ah, x < 256
set_option maxRecDepth 100000 in
set_option maxHeartbeats 8000000 in
theorem entries_iter {w : World} {lo hi bb c : Nat} {A : Option Addr} {bd : List Nat} (h : Bs w lo hi (.slice A bd.length c) bd) (hhi : hi ≤ w.heap.size) (hb : ∀ x ∈ bd, x < 256) (hl : bd.length ≤ 1000000000) (hbb : w.cell? ⟨bb, 0, none⟩ = some (.slice A bd.length c)) :
    IterP Tryz.prog 155 #[.pointer (some ⟨bb, 0, none⟩)] entV (EntOk w bd) (EntDone bd) (EntPan bd) (fun _ => True) w := by
 intro mm lab J Jx W hx _ hJ h0 hY
 have HO := zHd (open_any _ lo hi bd W (h.below hx hhi) (zNt hhi hx.size) (by omega) hb)
 have HL := zHd hl
 have HXW := zHd hx.size
 have HJ := zHd hJ
 have HJ0 := zHd h0
 have HY := zHd hY
 have c1 := ext_cell hx hbb
 clear h hhi hb hl hbb hJ h0 hY hx
 refine (callsIn_wide (n := 6)).1 ?_
 refine callsIn_of_wp Tryz.func155 rfl trivial ?_ rfl
 simp only [Tryz.ntmps155, List.size_toArray, List.length_cons, List.length_nil, Nat.reduceAdd, Nat.reduceSub, Array.replicate_succ, Array.replicate_zero, List.push_toArray, List.append_toArray, List.nil_append, List.cons_append]
 refine wpIn_wide.2 ?_
 go_wp2_with fail
 refine HO.out.mono ?_
 rintro x W1 ⟨r, rlo, rhi, rfl, hrd, hr, hlo, hb2⟩
 have HX1 : Hid (Ext W W1) := hb2
 have HRW := zHd (And.intro hr hlo)
 have HRD := zHd hrd
 have HRL := zHd hrd.lt
 have HJ1 : Hid (J (fun i => i = r) (fun i => W.heap.size ≤ i ∧ i < W1.heap.size) 0 W1) := HJ0.out W1 _ _ hb2 (fun i e => by rw [e]; exact hr) (fun i e => e.1)
 clear hrd hr hlo hb2 c1 HO
 go_wp2_with fail
 go_loopw [4] (fun v wr => ∃ (k : Nat) (ah l : List Nat) (K : Nat → Prop) (kA : Option Addr) (kc : Nat), v = .slice kA ah.length kc ∧ Hid (Ahead bd k ah l) ∧ Hid (Rd wr r rlo rhi l) ∧ Hid (l.length ≤ bd.length ∧ ah.length + 32 * l.length ≤ 32 * bd.length) ∧ Hid (KeyAt W r K (.slice kA ah.length kc) ah wr) ∧ Hid (J (fun i => i = r) K k wr) ∧ Hid (K r ∧ (∀ i, rlo ≤ i → i < rhi → K i) ∧ (∀ i, K i → W.heap.size ≤ i ∧ i < wr.heap.size)) ∧ Hid (W1.heap.size ≤ wr.heap.size))
  (fun _ wr => leftAt r wr)
 case atStart => exact ⟨0, [], bd, _, none, 0, rfl, Ahead.start bd, HRD, ⟨zNr _, by simp⟩, ⟨⟨0, 0, Bs.nil _ _ _, Nat.zero_le _, .inr (Nat.zero_le _), fun i _ h => absurd h (by omega)⟩, by simp⟩, HJ1, ⟨⟨HRW.out.1, HRL.out⟩, fun i h1 h2 => ⟨zNt HRW.out.2 h1, Nat.lt_of_lt_of_le h2 HRD.out.top⟩, fun i h => h⟩, zNr _⟩
 case round =>
  obtain ⟨k, ah, l, K, kA, kc, rfl, HAH, HRD1, HLL, HKEY, HJK, HK, HSZ⟩ := hrel
  have HLEFT := zHd (left_any r rlo rhi l wr HRD1.out)
  by_cases hl0 : l = []
  · have d : decide ((0 : Int) < (l.length : Int)) = false := by rw [hl0]; rfl
    have dn : decide (0 < l.length) = false := by rw [hl0]; rfl
    have HL0 := zHd hl0
    clear hl0
    go_wp2_with fail
    refine HLEFT.out.mono ?_
    rintro x w2 ⟨rfl, rfl⟩
    go_wp2_with fail
    refine ⟨rfl, _, results_none rfl _ _ _, .inl ⟨⟨_, rfl⟩, .inl ⟨_, _, k, HJK.out, fun L hL => ?_⟩⟩⟩
    have h1 := HAH.out
    rw [HL0.out] at h1
    exact h1.ends hL
  · have hpos := List.length_pos_iff.2 hl0
    have d : decide ((0 : Int) < (l.length : Int)) = true := by rw [decide_eq_true_eq]; omega
    have dn : decide (0 < l.length) = true := by rw [decide_eq_true_eq]; exact hpos
    have HL0 := zHd hl0
    clear hl0 hpos
    go_wp2_with fail
    refine HLEFT.out.mono ?_
    rintro x w2 ⟨rfl, rfl⟩
    go_wp2_with fail
    obtain ⟨lo2, hi2, hbs, hh2, hr2, hk2⟩ := HKEY.out.ex
    refine (next_any HRD1.out hbs hh2 hr2 HKEY.out.byt (by have := HLL.out; have := HL.out; omega) (by have := HLL.out; have := HL.out; omega)).mono ?_
    clear hbs hh2 hr2 hk2
    rintro x w2 ⟨hg, (⟨e, g, rest, rfl, hrd, hlt, hk32, hm, hst⟩ | ⟨rfl, hno⟩)⟩
    · have HG2 := zHd hg
      have HRD2 := zHd hrd
      have HLT := zHd hlt
      have HK32 := zHd hk32
      have HM := zHd hm
      have HNX := zHd (HAH.out.next HL0.out hst)
      clear hg hrd hlt hk32 hm hst
      obtain ⟨w3, hw3⟩ : ∃ w3, w3 = w2.alloc (.cells #[.slice g.kA e.key.length g.kc, .int .i64 e.seq, .int .i64 e.kind, .slice g.vA e.val.length g.vc] 50) := ⟨_, rfl⟩
      have HX3 : Hid (Ext w2 w3) := by rw [hw3]; exact ext_alloc _ _
      have HE3 : Hid (w3.heap[w2.heap.size]? = some (.cells #[.slice g.kA e.key.length g.kc, .int .i64 e.seq, .int .i64 e.kind, .slice g.vA e.val.length g.vc] 50 (0, 0))) := by rw [hw3]; exact heap_at _ _ rfl
      have HZ3 : Hid (w3.heap.size = w2.heap.size + 1) := by rw [hw3]; simp [Hid]
      have HM3 : Hid (Mine wr.heap.size (e, g) w3) := HM.out.below HX3.out
      have HCH : Hid (Chg (fun i => i = r) wr w3) := (Chg.grown (S := fun i => i = r) HG2.out (fun k hk => by injection hk with hk; exact hk.symm)).trans (Chg.of_ext HX3.out)
      obtain ⟨K3, hK3⟩ : ∃ K3 : Nat → Prop, K3 = fun i => K i ∨ (wr.heap.size ≤ i ∧ i < w3.heap.size) := ⟨_, rfl⟩
      have HKK : Hid (∀ i, K3 i ↔ K i ∨ (wr.heap.size ≤ i ∧ i < w3.heap.size)) := by rw [hK3]; exact fun i => Iff.rfl
      have HJ3 : Hid (J (fun i => i = r) K3 k w3) := HJ.out _ _ _ _ _ _ _ HJK.out HCH.out (fun i h => .inl h) (fun i h => by rcases (HKK.out i).1 h with h | h; exact .inl h; exact .inr h.1)
      have HRWR : Hid (r < wr.heap.size ∧ W.heap.size ≤ wr.heap.size) := ⟨HRD1.out.lt, by have := HX1.out.size; have := HSZ.out; omega⟩
      clear hK3
      have hok : EntOk w bd (fun i => i = r) K3 k (e, g) w3 := by
       refine ⟨HNX.out.2, HM3.out.base (zNt HXW.out HRWR.out.2), fun b hb e => ?_, fun b hb e => ?_⟩
       · have := (row_lt HM3.out.k b hb).1; have := HRWR.out.1; omega
       · have := (row_lt HM3.out.v b hb).1; have := HRWR.out.1; omega
      obtain ⟨fn, tmps, assign, body, hy, hR⟩ := HY.out (fun i => i = r) K3 k (e, g) w3 (fun i h => by rw [h]; exact ⟨HRW.out.1, by have := HCH.out.size; have := HRWR.out.1; omega⟩) (fun i h => by have hz := HCH.out.size; rcases (HKK.out i).1 h with h | h; exact ⟨(HK.out.2.2 i h).1, Nat.lt_of_lt_of_le (HK.out.2.2 i h).2 hz⟩; exact ⟨zNt HRWR.out.2 h.1, h.2⟩) HJ3.out hok
      dsimp only [entV, Ent.at_] at hy
      have HR := zHd (roundIn_any (m' := 5) hR)
      have e0 := cell_of HE3.out (k := 0) rfl
      have e1 := cell_of HE3.out (k := 1) rfl
      have e2 := cell_of HE3.out (k := 2) rfl
      have e3 := cell_of HE3.out (k := 3) rfl
      clear hR hok d dn
      dsimp only [Ent.at_]
      go_upto_region 4 with (fail)
      rw [← hw3]
      clear hw3
      refine (wpIn_wide (n := 6)).1 ?_
      gi_wp2
      refine RoundIn.mono HR.out ?_
      rintro x A' ⟨hst, (⟨rfl, hj⟩ | ⟨rfl, hjx⟩)⟩
      · have hpb : ∀ i, wr.heap.size ≤ i → i < w3.heap.size → A'.heap[i]? = w3.heap[i]? := fun i h1 h2 => hst.stay i ((HKK.out i).2 (.inr ⟨h1, h2⟩)) h2
        have HE9 : Hid (A'.heap[w2.heap.size]? = some (.cells #[.slice g.kA e.key.length g.kc, .int .i64 e.seq, .int .i64 e.kind, .slice g.vA e.val.length g.vc] 50 (0, 0))) := (hpb _ HG2.out.size (by have := HZ3.out; omega)).trans HE3.out
        have HRD3 : Hid (Rd w3 r rlo rhi rest) := HRD2.out.below HX3.out HRD2.out.top HRD2.out.lt
        have HRD9 : Hid (Rd A' r rlo rhi rest) := HRD3.out.stepK hst ((HKK.out _).2 (.inl HK.out.1)) (fun i h1 h2 => (HKK.out i).2 (.inl (HK.out.2.1 i h1 h2)))
        have HK9 : Hid (Own wr.heap.size e.key (.slice g.kA e.key.length g.kc) A') := HM3.out.k.wall fun b hb => hpb b (row_lt HM3.out.k b hb).1 (row_lt HM3.out.k b hb).2
        have HKEY9 : Hid (KeyAt W r K3 (.slice g.kA e.key.length g.kc) e.key A') := by
         refine ⟨⟨wr.heap.size, w3.heap.size, ?_, hst.size, .inl HRWR.out.1, fun i h1 h2 => (HKK.out i).2 (.inr ⟨h1, h2⟩)⟩, HM.out.good.bk⟩
         exact (Bs.of_own HM3.out.k).of fun _ h3 => Sl.keep h3 fun p h4 h5 => World.cell?_of_block (hpb p.block h4 h5)
        have HJ9 := zHd hj
        have HSA : Hid (w3.heap.size ≤ A'.heap.size) := hst.size
        have HS9 : Hid (W1.heap.size ≤ A'.heap.size) := by have := hst.size; have := HSZ.out; have := HG2.out.size; have := HZ3.out; unfold Hid; omega
        have q0 := cell_of HE9.out (k := 0) rfl
        clear hst hj hy hpb e0 e1 e2 e3
        gi_wp2
        go_wp2_with fail
        refine ⟨⟨k + 1, e.key, rest, K3, g.kA, g.kc, rfl, HNX.out.1, HRD9, ?_, HKEY9, HJ9, ⟨(HKK.out _).2 (.inl HK.out.1), fun i h1 h2 => (HKK.out i).2 (.inl (HK.out.2.1 i h1 h2)), fun i h => ?_⟩, HS9⟩, ?_⟩
        · have := HLT.out; have := HLL.out; have := HK32.out; unfold Hid; omega
        · have hz := HCH.out.size
          have hz2 := HSA.out
          rcases (HKK.out i).1 h with h | h
          · have := HK.out.2.2 i h; omega
          · have := HRWR.out.2; omega
        · rw [HRD9.out.left, HRD1.out.left]; exact HLT.out
      · have HX9 := zHd hjx
        clear hst hjx hy e0 e1 e2 e3
        gi_wp2
        go_wp2_with fail
        refine bodyPost_ret (results_none rfl _ _ _) rfl ?_
        exact .inl ⟨⟨_, rfl⟩, .inr HX9.out⟩
    · have hJ2 := HJ.out _ _ _ _ (fun i => i = r) K w2 HJK.out (Chg.grown (S := fun i => i = r) hg (fun k hk => by injection hk with hk; exact hk.symm)) (fun i h => .inl h) (fun i h => .inl h)
      refine ⟨rfl, .inr ⟨_, rfl, _, _, k, hJ2, rfl, fun L hL => ?_⟩⟩
      obtain ⟨e, _, hs⟩ := HAH.out.stands hL HL0.out
      exact hno _ _ hs
theorem num4_snoc (l : List Nat) (c : Nat) : num4 (l ++ [c]) = num4 l * 256 + c := by simp [num4]
theorem num4_take {l : List Nat} {k : Nat} (h : k < l.length) : num4 (l.take (k + 1)) = num4 (l.take k) * 256 + l[k] := by rw [List.take_succ_eq_append_getElem h, num4_snoc]
theorem num4_lt3 {l : List Nat} (h : l.length = 4) (hb : ∀ c ∈ l, c < 256) {k : Nat} (hk : k < 4) : num4 (l.take k) < 16777216 := by
 obtain ⟨a, b, c, d, rfl⟩ := list4 h
 have ha := hb a (by simp)
 have hb' := hb b (by simp)
 have hc := hb c (by simp)
 match k, hk with
 | 0, _ => simp [num4]
 | 1, _ => simp [num4]; omega
 | 2, _ => simp [num4]; omega
 | 3, _ => simp [num4]; omega
theorem or_i64 {x y : Nat} (hx : x < 4294967296) (hy : y < 4294967296) : bits .or .i64 (x : Int) (y : Int) = ((x ||| y : Nat) : Int) := by
 have h1 : (BitVec.ofInt 64 (x : Int)).toNat = x := by
  rw [BitVec.ofInt_natCast, BitVec.toNat_ofNat]; exact Nat.mod_eq_of_lt (by omega)
 have h2 : (BitVec.ofInt 64 (y : Int)).toNat = y := by
  rw [BitVec.ofInt_natCast, BitVec.toNat_ofNat]; exact Nat.mod_eq_of_lt (by omega)
 have h3 : x ||| y < 2 ^ 32 := Nat.or_lt_two_pow (by omega) (by omega)
 show IntKind.i64.wrap ((BitVec.ofInt 64 (x : Int) ||| BitVec.ofInt 64 (y : Int)).toNat : Int) = _
 rw [BitVec.toNat_or, h1, h2, IntKind.wrap_i64]
 omega
theorem or_byte {m c : Nat} (hm : m < 16777216) (hc : c < 256) : bits .or .i64 ((m * 256 : Nat) : Int) (c : Int) = ((m * 256 + c : Nat) : Int) := by
 rw [or_i64 (by omega) (by omega)]
 have : m * 256 ||| c = m * 256 + c := by
  have := Nat.shiftLeft_add_eq_or_of_lt (i := 8) (b := c) (by simpa using hc) m
  simpa [Nat.shiftLeft_eq] using this.symm
 rw [this]
theorem wrap_256 {m : Nat} (h : m < 16777216) : wrap64 ((m : Int) * 256) = ((m * 256 : Nat) : Int) := by unfold wrap64; omega
theorem wrap_four {m : Nat} (h : m < 4294967296) : wrap64 ((m : Int) * 4) = ((4 * m : Nat) : Int) := by unfold wrap64; omega
theorem wrap_q {n : Nat} (h : n < 4294967296) : wrap64 ((n : Int) / 4) = ((n / 4 : Nat) : Int) := by unfold wrap64; omega
theorem wrap_less {n m : Nat} (h : n < 4294967296) (k : m ≤ n) : wrap64 ((n : Int) - (m : Int)) = ((n - m : Nat) : Int) := by unfold wrap64; omega
def BodyAns (w : World) (b : List Nat) (x : Ending) (w' : World) : Prop :=
 Ext w w' ∧ ((∃ (A : Option Addr) (c : Nat) (bd : List Nat), x = .returned (.slice A bd.length c) ∧ Bs w' 0 w'.heap.size (.slice A bd.length c) bd ∧ (∀ y ∈ bd, y < 256) ∧ bd.length ≤ b.length ∧ 4 ≤ b.length ∧ ∀ L, IsB b L → BodyIs L bd) ∨
  (x = .panicked gaveUp ∧ ∀ L, ¬ IsB b L))
set_option maxRecDepth 100000 in
set_option maxHeartbeats 4000000 in
theorem body_any {w : World} {lo hi : Nat} {v : Value} {b : List Nat} (hv : Bs w lo hi v b) (hhi : hi ≤ w.heap.size) (hb : ∀ x ∈ b, x < 256) (hl : b.length ≤ 1000000000) :
    Calls Tryz.prog 135 #[v] w (BodyAns w b) := by
 have HV := zHd hv
 have HB := zHd hb
 have HL := zHd (And.intro hhi hl)
 obtain ⟨A, c, rfl, hc1, hc2, hn, hby⟩ := hv
 have HC := zHd (And.intro hc1 (And.intro hc2 hn))
 have HBY := zHd hby
 clear hhi hb hl hc1 hc2 hn hby
 rcases Nat.lt_or_ge b.length 4 with h4 | h4
 · have d : decide (wrap64 ((b.length : Int) - 4) < 0) = true := by rw [decide_eq_true_eq]; unfold wrap64; omega
   have H4 := zHd h4
   clear h4
   go_enter Tryz.func135, Tryz.ntmps135
   go_wp2_with fail
   refine (giveUp_any _).mono ?_
   rintro x w' ⟨rfl, rfl⟩
   refine ⟨rfl, Ext.refl _, .inr ⟨rfl, fun L h => ?_⟩⟩
   have h1 := h.last.1
   have h2 := H4.out
   omega
 obtain ⟨n, hn⟩ : ∃ n, n = b.length - 4 := ⟨_, rfl⟩
 have HN : Hid (b.length = n + 4) := by unfold Hid; omega
 have ew : wrap64 ((b.length : Int) - 4) = (n : Int) := by unfold wrap64; have := HL.out.2; omega
 have d : decide ((n : Int) < 0) = false := by rw [decide_eq_false_iff_not]; omega
 obtain ⟨A2, hA2, hA2n, hrun⟩ := tail_run A b.length c n (by omega) HC.out.1
 have hrun' : ∀ w, (Instr.slice 22 (.slice A b.length c) (some (.int .i64 (n : Int))) none none).run Tryz.prog w = .ok (.slice A2 4 (c - n)) w := fun w => by rw [hrun, HN.out]; congr 2; omega
 obtain ⟨t, ht⟩ : ∃ t, t = b.drop n := ⟨_, rfl⟩
 have HT : Hid (By w lo hi A2 t) := by rw [ht]; exact hA2 b rfl _ _ _ HBY.out
 have HT4 : Hid (t.length = 4) := by rw [ht]; unfold Hid; rw [List.length_drop]; omega
 have HTB : Hid (∀ x ∈ t, x < 256) := fun x hx => HB.out x (by rw [ht] at hx; exact List.mem_of_mem_drop hx)
 have HTE : Hid (t = b.drop (b.length - 4)) := by rw [ht, hn]; exact rfl
 obtain ⟨tb, tq, rfl⟩ : ∃ x y, A2 = some ⟨x, y, none⟩ := by
  obtain ⟨b', o, e, _⟩ := HT.out.at_ (i := 0) (by rw [HT4.out]; omega)
  exact ⟨_, _, e⟩
 clear hA2 hA2n hrun ht h4 hn
 go_enter Tryz.func135, Tryz.ntmps135
 go_wp2_with fail
 go_loopw [4, 6, 17] (fun m y i wr => ∃ (k r : Nat), k ≤ 4 ∧ i = .int .i64 (k : Int) ∧ m = .int .i64 (r : Int) ∧ Hid (r = num4 (t.take k)) ∧ wr = w) (fun _ _ i _ => 4 - (intOf i).toNat)
 case atStart => exact ⟨0, 0, Nat.zero_le _, rfl, rfl, rfl, rfl⟩
 case round =>
  obtain ⟨k, r, hk, rfl, rfl, HR, rfl⟩ := hrel
  by_cases hlt : k < 4
  · have hkl : k < t.length := by rw [HT4.out]; exact hlt
    obtain ⟨b', o', e1, _, _, hc⟩ := HT.out.at_ hkl
    injection e1 with e1
    injection e1 with e1 e2
    subst e1 e2
    obtain ⟨y, hy⟩ : ∃ y, y = t[k] := ⟨_, rfl⟩
    rw [← hy] at hc
    have HM : Hid (r < 16777216) := by rw [HR.out]; exact num4_lt3 HT4.out HTB.out hlt
    have hc256 : y < 256 := by rw [hy]; exact HTB.out _ (List.getElem_mem hkl)
    have HO := zHd (or_byte HM.out hc256)
    have HTT : Hid (num4 (t.take (k + 1)) = r * 256 + y) := by rw [HR.out, hy]; exact num4_take hkl
    have n1 : (0 : Int) ≤ (k : Int) := by omega
    have n2 : (k : Int) < 4 := by omega
    clear hy
    go_wp2_with fail
    go_roundw
    case rel =>
     refine ⟨k + 1, r * 256 + y, by omega, by go_num, ?_, HTT.out.symm, ?_⟩
     · rw [wrap_256 HM.out, HO.out]
     · trivial
    case measure => simp [intOf]; omega
  · clear HT
    obtain rfl : k = 4 := by omega
    have hr : r = num4 t := by rw [HR.out, List.take_of_length_le (by rw [HT4.out]; exact zNr _)]
    have HRE := zHd hr
    have HR32 : Hid (r < 4294967296) := by rw [hr]; exact num4_lt HT4.out HTB.out
    clear hr
    have hq := wrap_q (n := n) (by have := HN.out; have := HL.out.2; omega)
    obtain ⟨q, hqe⟩ : ∃ q, q = n / 4 := ⟨_, rfl⟩
    rw [← hqe] at hq
    by_cases hgt : q < r
    · have dg : decide ((q : Int) < (r : Int)) = true := by rw [decide_eq_true_eq]; exact Int.ofNat_lt.2 hgt
      have dgn : decide (q < r) = true := by rw [decide_eq_true_eq]; exact hgt
      have HGT := zHd hgt
      have HQE := zHd hqe
      clear hgt hqe
      go_wp2_with fail
      refine (giveUp_any _).mono ?_
      rintro x w' ⟨rfl, rfl⟩
      refine ⟨rfl, Ext.refl _, .inr ⟨rfl, fun L h => ?_⟩⟩
      obtain ⟨h1, h2, h3, h4⟩ := h.last
      rw [← HTE.out, ← HRE.out] at h3
      have h5 := HGT.out
      have h6 := HQE.out
      have h7 := HN.out
      clear hq ew
      omega
    · have dg : decide ((q : Int) < (r : Int)) = false := by rw [decide_eq_false_iff_not]; exact fun h => hgt (Int.ofNat_lt.1 h)
      have dgn : decide (q < r) = false := by rw [decide_eq_false_iff_not]; exact hgt
      have hle : 4 * r ≤ n := by clear hq ew; omega
      have hw4 := wrap_four HR32.out
      have hwm := wrap_less (n := n) (m := 4 * r) (by have := HN.out; have := HL.out.2; clear hq ew hw4; omega) hle
      obtain ⟨m, hm⟩ : ∃ m, m = n - 4 * r := ⟨_, rfl⟩
      obtain ⟨j, hj⟩ : ∃ j, j = 4 * r := ⟨_, rfl⟩
      rw [← hm] at hwm
      rw [← hj] at hw4 hwm
      have HM : Hid (m ≤ b.length ∧ m = b.length - 4 - 4 * num4 (b.drop (b.length - 4))) := by
       rw [← HTE.out, ← HRE.out]
       have := HN.out
       clear hq ew hw4 hwm
       unfold Hid; omega
      obtain ⟨A3, hA3, hA3n, hrun3⟩ := head_run .i64 A b.length c m HM.out.1 HC.out.1
      have HA3 := zHd (And.intro hA3 hA3n)
      clear hm hj hgt hqe hle hA3 hA3n
      go_wp2_with fail
      go_ret
      have hlm : (b.take m).length = m := by rw [List.length_take]; have := HM.out.1; clear hq ew hw4 hwm; omega
      refine ⟨Ext.refl _, .inl ⟨A3, c, b.take m, by rw [hlm]; rfl, ?_, fun y hy => HB.out y (List.mem_of_mem_take hy), by rw [hlm]; exact HM.out.1, by rw [HN.out]; exact Nat.le_add_left _ _, fun L h => ?_⟩⟩
      · refine ⟨A3, c, rfl, by rw [hlm]; exact zNt HM.out.1 HC.out.1, HC.out.2.1, fun e => HC.out.2.2 (HA3.out.2 e), ?_⟩
        exact Sl.wide (HA3.out.1 b rfl _ _ _ HBY.out) (Nat.zero_le _) HL.out.1
      · have h1 := h.body
        unfold bodyOf at h1
        rw [← HM.out.2] at h1
        exact h1
theorem bequal_any {w : World} {lo hi lo2 hi2 : Nat} {u v : Value} {a b : List Nat} (hu : Bs w lo hi u a) (hv : Bs w lo2 hi2 v b) (ha : ∀ x ∈ a, x < 256) (hb : ∀ x ∈ b, x < 256) :
    Calls Tryz.prog 69 #[u, v] w fun e w' => (∃ z : Bool, (z = true ↔ a = b) ∧ e = .returned (.bool z)) ∧ w' = w := by
 obtain ⟨A, c, rfl, _, _, _, hA⟩ := hu
 obtain ⟨B, c2, rfl, _, _, _, hB⟩ := hv
 have t1 := run_text (P := Tryz.prog) w 22 5 Tryz.underlying22 Tryz.underlying5 hA a.length c rfl 9 Tryz.underlying9
 have t2 := run_text (P := Tryz.prog) w 22 5 Tryz.underlying22 Tryz.underlying5 hB b.length c2 rfl 9 Tryz.underlying9
 have HI : Hid (tx a = tx b ↔ a = b) := ⟨fun h => tx_inj ha hb h, fun h => by rw [h]⟩
 obtain ⟨X, hX⟩ : ∃ X, X = tx a := ⟨_, rfl⟩
 obtain ⟨Y, hY⟩ : ∃ Y, Y = tx b := ⟨_, rfl⟩
 rw [← hX, ← hY] at HI
 rw [← hX] at t1
 rw [← hY] at t2
 clear hX hY hA hB ha hb
 go_enter Tryz.func69, Tryz.ntmps69
 go_wp2_with fail
 go_ret
 refine ⟨⟨X.toList == Y.toList, ?_, rfl⟩, rfl⟩
 rw [beq_iff_eq, ← HI.out]
 refine ⟨fun h => ?_, fun h => by rw [h]⟩
 rw [ByteArray.toList_eq, ByteArray.toList_eq] at h
 exact ByteArray.ext (Array.toList_inj.1 h)
theorem entries_any (A : Option Addr) (n c : Nat) (w : World) : Calls Tryz.prog 134 #[.slice A n c] w fun e w' => e = .returned (.func (.func 155) #[] #[.pointer (some ⟨w.heap.size, 0, none⟩)]) ∧ w' = w.alloc (.cells #[.slice A n c] 22) := by
 have hmf := mkf
 go_enter Tryz.func134, Tryz.ntmps134
 go_wp2_with fail
 go_ret
 exact ⟨rfl, rfl⟩
end Go.Proofs.YtkdidghfcfcpfaaGreat
