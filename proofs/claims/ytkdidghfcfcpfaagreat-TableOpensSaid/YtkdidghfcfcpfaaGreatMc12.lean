import Derived.Test.YtkdidghfcfcpfaaGreatMc11
import Derived.Test.YtkdidghfcfcpfaaGreatMc9
import Derived.Test.YtkdidghfcfcpfaaGreatMc5
import Derived.BigRegion
import Derived.Test.YtkdidghfcfcpfaaGreatMc0
namespace Go.Proofs.YtkdidghfcfcpfaaGreat
open Go.ChangeShapes Go.WideShapes Go.ChangeAt Go.RowKit
structure KeyRow (B lo hi : Nat) (v : Value) (ls : List (List Nat)) (u : World) : Prop where
 ex : ∃ A c xs, v = .slice A ls.length c ∧ u.ownsRow B 22 1 v ls.length xs ∧ xs.length = ls.length ∧ ∀ (i : Nat) (x : Value) (l : List Nat), xs[i]? = some x → ls[i]? = some l → Bs u lo hi x l
theorem KeyRow.nil (B lo hi : Nat) (u : World) : KeyRow B lo hi (.slice none 0 0) [] u := ⟨none, 0, [], rfl, World.ownsRow_nil _ _ _ _, rfl, fun i x l h => by simp at h⟩
theorem KeyRow.below {B lo hi : Nat} {v : Value} {ls : List (List Nat)} {u u' : World} (h : KeyRow B lo hi v ls u) (hx : Ext u u') (hhi : hi ≤ u.heap.size) : KeyRow B lo hi v ls u' := by
 obtain ⟨A, c, xs, h1, h2, h3, h4⟩ := h.ex
 exact ⟨A, c, xs, h1, row_kept h2 fun g hg => hx.block g (row_lt h2 g hg).2, h3, fun i x l hx' hl => (h4 i x l hx' hl).below hx hhi⟩
theorem KeyRow.rows {B lo hi : Nat} {v : Value} {ls : List (List Nat)} {u : World} (h : KeyRow B lo hi v ls u) (hhi : hi ≤ u.heap.size) : ∃ A c xs, v = .slice A ls.length c ∧ Rows2 u 0 u.heap.size A xs ls ∧ ls.length ≤ c ∧ c ≤ maxLen := by
 obtain ⟨A, c, xs, h1, h2, h3, h4⟩ := h.ex
 subst h1
 obtain ⟨r1, r2, r3, _⟩ := rows_of_own h2 h3 (fun i x l hx hl => (h4 i x l hx hl).wide (Nat.zero_le _) hhi)
 exact ⟨A, c, xs, rfl, r1, r2, r3⟩
theorem keyAt_first {L : List Ent} {e : Ent} (h : L[0]? = some e) : keyAt L 0 = [e.key] := by
 unfold keyAt
 rw [h]
 simp only [Option.map_some, Option.getD_some]
 rw [if_pos (Or.inl trivial)]
theorem keyAt_next {L : List Ent} {k : Nat} {e e' : Ent} (h : L[k]? = some e) (h' : L[k + 1]? = some e') : keyAt L (k + 1) = if e.key = e'.key then [] else [e'.key] := by
 unfold keyAt
 rw [h', Nat.add_sub_cancel, h]
 simp only [Option.map_some, Option.getD_some]
 by_cases hh : e.key = e'.key
 · rw [if_pos hh, if_neg]
   rintro (h1 | h1)
   · omega
   · exact h1 (by rw [hh])
 · rw [if_neg hh, if_pos]
   exact .inr fun h1 => hh (by injection h1)
set_option maxRecDepth 100000 in
set_option maxHeartbeats 8000000 in
theorem filter_any {w : World} {lo hi c : Nat} {A : Option Addr} {L : List (Ent × Hd)} (h : Es w lo hi A L) (hhi : hi ≤ w.heap.size) (hlen : L.length ≤ 4096) (hk8 : ∀ p ∈ L, ∀ x ∈ p.1.key, x < 256) :
    Calls Tryz.prog 100 #[.slice A L.length c] w fun x w' => ∃ v, x = .returned v ∧ Own w.heap.size (Bl.mk (keysT (L.map Prod.fst))) v w' ∧ Ext w w' := by
 have HE := zHd h
 have HHI := zHd hhi
 have HL := zHd hlen
 have HK8 := zHd hk8
 obtain ⟨Ls, hLs⟩ : ∃ Ls, Ls = L.map Prod.fst := ⟨_, rfl⟩
 have HLS := zHd hLs
 have HLL : Hid (Ls.length = L.length) := by rw [hLs]; simp [Hid]
 rw [← hLs]
 have hlI : (L.length : Int) ≤ 4096 := by omega
 obtain ⟨i2, hi2', z1, z2, z3⟩ := info_parts tbytesinfo
 have HI2 := zHd hi2'
 clear h hhi hlen hLs hi2' hk8
 go_enter Tryz.func100, Tryz.ntmps100
 go_wp2_with fail
 go_loopw [3, 4, 5, 10] (fun v _ _ i wr => ∃ k : Nat, k ≤ L.length ∧ i = .int .i64 (k : Int) ∧ Hid (KeyRow w.heap.size lo hi v (keysTo Ls k) wr) ∧ Hid (Ext w wr)) (fun _ _ _ i _ => L.length - (intOf i).toNat)
 case atStart => exact ⟨0, Nat.zero_le _, rfl, KeyRow.nil _ _ _ _, Ext.refl _⟩
 case round =>
  obtain ⟨k, hk, rfl, HKR, HX⟩ := hrel
  by_cases hlt : k < L.length
  rotate_left
  · have d : decide ((k : Int) < (L.length : Int)) = false := decide_eq_false (by omega)
    have dn : decide (k < L.length) = false := decide_eq_false hlt
    have hkn : k = L.length := by omega
    have hkt : keysTo Ls k = keysT Ls := by unfold keysT; rw [HLL.out, hkn]
    have hkl : (keysT Ls).length ≤ 4096 := by have := keysTo_len Ls k; rw [hkt] at this; have := HL.out; omega
    rw [hkt] at HKR
    obtain ⟨KA, kc, xs, rfl, hrows, hc1, hc2⟩ := HKR.out.rows (zNt HHI.out HX.out.size)
    have HMK := zHd (Bl.make_any KA kc 0 wr.heap.size xs (keysT Ls) wr hrows (zNr _) hc2 hc1 (fun l hl x hx => by
     obtain ⟨e, he, rfl⟩ := keysTo_mem hl
     rw [HLS.out] at he
     obtain ⟨p, hp, rfl⟩ := List.mem_map.1 he
     exact HK8.out p hp x hx))
    have HKL := zHd hkl
    clear hlt hk hkn hkt hkl hrows hc1 hc2 z1 z2 z3
    go_wp2_with fail
    refine HMK.out.mono ?_
    rintro x w2 ⟨hx2, (⟨hbig, _⟩ | ⟨_, g, gc, rfl, ho⟩)⟩
    · have := HKL.out; omega
    have HX2 : Hid (Ext w w2) := zEt HX.out hx2
    have ho' : Own wr.heap.size (Bl.mk (keysT Ls)) (.slice (some ⟨g, 0, none⟩) (Bl.bsize (keysT Ls).length) gc) w2 := ho
    have HO := zHd (ho'.base HX.out.size)
    clear hx2 ho ho' HMK
    go_wp2_with fail
    go_ret
    exact ⟨_, rfl, HO.out, HX2.out⟩
  have d : decide ((k : Int) < (L.length : Int)) = true := decide_eq_true (by omega)
  have dn : decide (k < L.length) = true := decide_eq_true hlt
  have HLT := zHd hlt
  obtain ⟨b, o, hA⟩ := HE.out.base (by omega)
  subst hA
  obtain ⟨p, hp⟩ : ∃ p, L[k]? = some p := ⟨_, List.getElem?_eq_getElem hlt⟩
  have HP := zHd hp
  have HEr := zHd (HE.out.below HX.out HHI.out)
  have HPS : Hid (Ls[k]? = some p.1) := by unfold Hid; rw [HLS.out, List.getElem?_map, hp]; rfl
  have HEM : Hid (Em wr lo hi p.1 p.2) := HEr.out.each p (List.mem_of_getElem? hp)
  obtain ⟨c0, c1, c2, c3⟩ := HEr.out.get hp
  have n1 : (0 : Int) ≤ (k : Int) := by omega
  have n2 : (k : Int) < (L.length : Int) := by omega
  clear hp hlt hk
  go_upto_region 5 with (fail)
  obtain ⟨w4, hw4⟩ : ∃ w4, w4 = wr.alloc (.cells #[.slice p.2.kA p.1.key.length p.2.kc, .int .i64 p.1.seq, .int .i64 p.1.kind, .slice p.2.vA p.1.val.length p.2.vc] 50) := ⟨_, rfl⟩
  obtain ⟨eb, heb⟩ : ∃ eb, eb = wr.heap.size := ⟨_, rfl⟩
  rw [← hw4, ← heb]
  have HX4 : Hid (Ext wr w4) := by rw [hw4]; exact ext_alloc _ _
  have HB4 : Hid (w4.heap[eb]? = some (.cells #[.slice p.2.kA p.1.key.length p.2.kc, .int .i64 p.1.seq, .int .i64 p.1.kind, .slice p.2.vA p.1.val.length p.2.vc] 50 (0, 0))) := by rw [hw4, heb]; exact heap_at _ _ rfl
  have HE4 := zHd (HEr.out.below HX4.out (zNt HHI.out HX.out.size))
  have HHI4 : Hid (hi ≤ w4.heap.size) := zNt (zNt HHI.out HX.out.size) HX4.out.size
  have HK4 := zHd (HKR.out.below HX4.out (zNt HHI.out HX.out.size))
  have HXW4 : Hid (Ext w w4) := zEt HX.out HX4.out
  clear hw4 heb c0 c1 c2 c3 HKR
  have b0 := cell_of HB4.out (k := 0) rfl
  rcases k with _ | k1
  · refine flow (by kernel_rfl) [Is (.int .i64 ((0 : Nat) : Int)), Is (.bool true), Is (.bool true), Is undef, Is undef, Is undef, Is undef, Is undef, Is undef, Is undef, Is undef, Is undef, Is undef, Is (.bool true)] (by kernel_rfl) (by kernel_rfl) ?mono (fun f1 => ?obl) ?fin
    case mono =>
     simp only [List.forall_mem_cons, List.not_mem_nil, false_imp_iff, implies_true, and_true]
     and_intros <;> exact .is _
    case fin =>
     intro g1 u hu hg
     simp only [puts, Act.put, zq]
     have e13 : g1 13 = _ := hg 13 (by decide)
     rw [e13]
     have HXU4 : Hid (Ext w4 u) := zEt (Ext.drew w4) hu
     have HXU : Hid (Ext wr u) := zEt HX4.out HXU4.out
     have HKU := zHd (HK4.out.below HXU4.out HHI4.out)
     have hb0 := ext_cell HXU4.out b0
     clear hg hu b0 e13
     have HKA : Hid (keyAt Ls 0 = [p.1.key]) := keyAt_first HPS.out
     obtain ⟨KA, kc, xs, hv, hrw, hxn, hea⟩ := HKU.out.ex
     subst hv
     have HRW := zHd hrw
     have HXN0 := zHd hxn
     have HEA := zHd hea
     obtain ⟨KN, hKN⟩ : ∃ KN, KN = (keysTo Ls (0)).length := ⟨_, rfl⟩
     have HKE : Hid ((keysTo Ls (0)).length = KN) := hKN.symm
     have HXN : Hid (xs.length = KN) := by rw [hKN]; exact hxn
     have HKN : Hid (KN ≤ 4096) := by rw [hKN]; have := keysTo_len Ls (0); have := HLT.out; have := HL.out; unfold Hid; omega
     have HNL : Hid (keysTo Ls (0 + 1) = keysTo Ls (0) ++ [p.1.key]) := by unfold Hid; rw [keysTo_succ, HKA.out]
     have HNX : Hid ((keysTo Ls (0 + 1)).length = KN + 1) := by rw [HNL.out, List.length_append, hKN]; rfl
     rw [← hKN] at HRW ⊢
     clear hrw hxn hea hKN
     go_wp2_with (at_builtin; refine wpList_pushrow rfl (.tmp 29) (.tmp 32) 105 rfl w.heap.size 22 i2 (.slice none 0 0) 24 Tryz.underlying105 HI2.out z1 z2 z3 rfl _ _ _ rfl HRW.out _ rfl _ rfl rfl ?k4 ?k5 (zNt HX.out.size HXU.out.size) ?_)
     case k4 => unfold maxLen; have := HKN.out; omega
     case k5 => have := HKN.out; omega
     intro A6 c6 w6 ho6 hg6
     have HX6 : Hid (Below w.heap.size u w6) := grown_belowR hg6 (fun g hg => (row_lt HRW.out g hg).1) (zNt HX.out.size HXU.out.size)
     have HK6 : Hid (KeyRow w.heap.size lo hi (.slice A6 (KN + 1) c6) (keysTo Ls (0 + 1)) w6) := by
      refine ⟨A6, c6, xs ++ [.slice p.2.kA p.1.key.length p.2.kc], by rw [HNX.out], ?_, ?_, fun i x l hx hl => ?_⟩
      · have e9 : (keysTo Ls (0 + 1)).length = KN + 1 := HNX.out
        rw [e9]; exact ho6
      · rw [HNX.out, List.length_append, HXN.out]; rfl
      · have hu6 : ∀ {x : Value} {l : List Nat}, Bs u lo hi x l → Bs w6 lo hi x l := fun hb => hb.below HX6.out HHI.out
        rw [HNL.out] at hl
        rcases Nat.lt_or_ge i KN with hi5 | hi5
        · rw [List.getElem?_append_left (by rw [HXN.out]; exact hi5)] at hx
          rw [List.getElem?_append_left (by rw [HKE.out]; exact hi5)] at hl
          exact hu6 (HEA.out i x l hx hl)
        · rw [List.getElem?_append_right (by rw [HXN.out]; exact hi5)] at hx
          rw [List.getElem?_append_right (by rw [HKE.out]; exact hi5)] at hl
          rw [HXN.out] at hx
          rw [HKE.out] at hl
          rcases h9 : i - KN with _ | j
          · rw [h9] at hx hl
            simp at hx hl
            subst hx hl
            exact hu6 ((HE4.out.each p (List.mem_of_getElem? HP.out)).k.below HXU4.out HHI4.out)
          · rw [h9] at hx; simp at hx
     have HXF : Hid (Ext w w6) := Below.trans (zEt HX.out HXU.out) HX6.out
     clear ho6 hg6 hb0
     go_wp2_with fail
     go_roundw
     case rel => exact ⟨0 + 1, HLT.out, by go_num, HK6, HXF⟩
     case measure => have := HLT.out; simp [intOf]; omega
    case obl =>
     refine ⟨fun u hu hd => ?_, fun u hu hd => ?_, fun u hu hd => ?_, fun u hu hd => ?_, fun u hu hd => ?_, fun u hu hd => ?_, fun u hu hd => ?_, fun u hu hd => ?_, fun u hu hd => ?_, fun u hu hd => ?_, fun u hu hd => ?_, fun u hu hd => ?_, fun u hu hd => ?_, fun u hu hd => ?_, trivial⟩
     all_goals try simp only [Act.put, zq]
     · go_simp
       exact zEr
     · have e0 : f1 0 = _ := hd 0 (by kernel_rfl)
       go_simp
       exact zEr
     · have e1 : f1 1 = _ := hd 1 (by kernel_rfl)
       go_simp
       exact zEr
     · have e2 : f1 2 = _ := hd 2 (by kernel_rfl)
       go_simp
       rfl
     · have e2 : f1 2 = _ := hd 2 (by kernel_rfl)
       go_simp
       rfl
     · have e2 : f1 2 = _ := hd 2 (by kernel_rfl)
       go_simp
       rfl
     · have e2 : f1 2 = _ := hd 2 (by kernel_rfl)
       go_simp
       rfl
     · have e2 : f1 2 = _ := hd 2 (by kernel_rfl)
       go_simp
       rfl
     · have e2 : f1 2 = _ := hd 2 (by kernel_rfl)
       go_simp
       rfl
     · have e2 : f1 2 = _ := hd 2 (by kernel_rfl)
       go_simp
       rfl
     · have e2 : f1 2 = _ := hd 2 (by kernel_rfl)
       go_simp
       rfl
     · have e2 : f1 2 = _ := hd 2 (by kernel_rfl)
       go_simp
       rfl
     · have e2 : f1 2 = _ := hd 2 (by kernel_rfl)
       go_simp
       rfl
     · have e2 : f1 2 = _ := hd 2 (by kernel_rfl)
       go_simp
       exact zEr
  · obtain ⟨p0, hp0⟩ : ∃ p0, L[k1]? = some p0 := ⟨_, List.getElem?_eq_getElem (by have := HLT.out; omega)⟩
    have HP0 := zHd hp0
    have HPS0 : Hid (Ls[k1]? = some p0.1) := by unfold Hid; rw [HLS.out, List.getElem?_map, hp0]; rfl
    obtain ⟨c0, _, _, _⟩ := HE4.out.get hp0
    obtain ⟨z, hz⟩ : ∃ z : Bool, (z = true ↔ p0.1.key ≠ p.1.key) := by
     by_cases h : p0.1.key = p.1.key
     · exact ⟨false, by simp [h]⟩
     · exact ⟨true, by simp [h]⟩
    have HZ := zHd hz
    have m1 : (0 : Int) ≤ (k1 : Int) := by omega
    have m2 : (k1 : Int) < (L.length : Int) := by have := HLT.out; omega
    have hcz : (cmpK p0.1.key p.1.key != 0) = z := by
     by_cases h : p0.1.key = p.1.key
     · rw [h, cmpK_self]
       cases z
       · rfl
       · exact absurd h (hz.1 rfl)
     · have h2 : cmpK p0.1.key p.1.key ≠ 0 := fun e => h (cmpK_zero e)
       have hz1 := hz.2 h
       rw [hz1]
       simpa using h2
    clear hp0 hz
    refine flow (by kernel_rfl) [Is (.int .i64 ((k1 + 1 : Nat) : Int)), Is (.bool false), Is (.bool false), Is (.slice (some ⟨b, o, none⟩) L.length c), Is (.int .i64 ((k1 + 1 : Nat) : Int)), Is (.int .i64 (k1 : Int)), Is (.pointer (some ⟨b, o + k1 * 4, none⟩)), Is (.pointer (some ⟨b, o + k1 * 4, none⟩)), Is (.slice p0.2.kA p0.1.key.length p0.2.kc), Is (.pointer (some ⟨eb, 0, none⟩)), Is (.slice p.2.kA p.1.key.length p.2.kc), Is (.int .i64 (cmpK p0.1.key p.1.key)), Is (.bool z), Is (.bool z)] (by kernel_rfl) (by kernel_rfl) ?mono (fun f1 => ?obl) ?fin
    case mono =>
     simp only [List.forall_mem_cons, List.not_mem_nil, false_imp_iff, implies_true, and_true]
     and_intros <;> exact .is _
    case fin =>
     intro g1 u hu hg
     simp only [puts, Act.put, zq]
     have e13 : g1 13 = _ := hg 13 (by decide)
     rw [e13]
     have HXU4 : Hid (Ext w4 u) := zEt (Ext.drew w4) hu
     have HXU : Hid (Ext wr u) := zEt HX4.out HXU4.out
     have HKU := zHd (HK4.out.below HXU4.out HHI4.out)
     have hb0 := ext_cell HXU4.out b0
     clear hg hu b0 e13 c0
     have HKN1 := zHd (keyAt_next HPS0.out HPS.out)
     cases z with
     | true =>
      have HKA : Hid (keyAt Ls (k1 + 1) = [p.1.key]) := by rw [HKN1.out, if_neg (HZ.out.1 rfl)]; rfl
      obtain ⟨KA, kc, xs, hv, hrw, hxn, hea⟩ := HKU.out.ex
      subst hv
      have HRW := zHd hrw
      have HXN0 := zHd hxn
      have HEA := zHd hea
      obtain ⟨KN, hKN⟩ : ∃ KN, KN = (keysTo Ls (k1 + 1)).length := ⟨_, rfl⟩
      have HKE : Hid ((keysTo Ls (k1 + 1)).length = KN) := hKN.symm
      have HXN : Hid (xs.length = KN) := by rw [hKN]; exact hxn
      have HKN : Hid (KN ≤ 4096) := by rw [hKN]; have := keysTo_len Ls (k1 + 1); have := HLT.out; have := HL.out; unfold Hid; omega
      have HNL : Hid (keysTo Ls (k1 + 1 + 1) = keysTo Ls (k1 + 1) ++ [p.1.key]) := by unfold Hid; rw [keysTo_succ, HKA.out]
      have HNX : Hid ((keysTo Ls (k1 + 1 + 1)).length = KN + 1) := by rw [HNL.out, List.length_append, hKN]; rfl
      rw [← hKN] at HRW ⊢
      clear hrw hxn hea hKN
      go_wp2_with (at_builtin; refine wpList_pushrow rfl (.tmp 29) (.tmp 32) 105 rfl w.heap.size 22 i2 (.slice none 0 0) 24 Tryz.underlying105 HI2.out z1 z2 z3 rfl _ _ _ rfl HRW.out _ rfl _ rfl rfl ?k4 ?k5 (zNt HX.out.size HXU.out.size) ?_)
      case k4 => unfold maxLen; have := HKN.out; omega
      case k5 => have := HKN.out; omega
      intro A6 c6 w6 ho6 hg6
      have HX6 : Hid (Below w.heap.size u w6) := grown_belowR hg6 (fun g hg => (row_lt HRW.out g hg).1) (zNt HX.out.size HXU.out.size)
      have HK6 : Hid (KeyRow w.heap.size lo hi (.slice A6 (KN + 1) c6) (keysTo Ls (k1 + 1 + 1)) w6) := by
       refine ⟨A6, c6, xs ++ [.slice p.2.kA p.1.key.length p.2.kc], by rw [HNX.out], ?_, ?_, fun i x l hx hl => ?_⟩
       · have e9 : (keysTo Ls (k1 + 1 + 1)).length = KN + 1 := HNX.out
         rw [e9]; exact ho6
       · rw [HNX.out, List.length_append, HXN.out]; rfl
       · have hu6 : ∀ {x : Value} {l : List Nat}, Bs u lo hi x l → Bs w6 lo hi x l := fun hb => hb.below HX6.out HHI.out
         rw [HNL.out] at hl
         rcases Nat.lt_or_ge i KN with hi5 | hi5
         · rw [List.getElem?_append_left (by rw [HXN.out]; exact hi5)] at hx
           rw [List.getElem?_append_left (by rw [HKE.out]; exact hi5)] at hl
           exact hu6 (HEA.out i x l hx hl)
         · rw [List.getElem?_append_right (by rw [HXN.out]; exact hi5)] at hx
           rw [List.getElem?_append_right (by rw [HKE.out]; exact hi5)] at hl
           rw [HXN.out] at hx
           rw [HKE.out] at hl
           rcases h9 : i - KN with _ | j
           · rw [h9] at hx hl
             simp at hx hl
             subst hx hl
             exact hu6 ((HE4.out.each p (List.mem_of_getElem? HP.out)).k.below HXU4.out HHI4.out)
           · rw [h9] at hx; simp at hx
      have HXF : Hid (Ext w w6) := Below.trans (zEt HX.out HXU.out) HX6.out
      clear ho6 hg6 hb0
      go_wp2_with fail
      go_roundw
      case rel => exact ⟨k1 + 1 + 1, HLT.out, by go_num, HK6, HXF⟩
      case measure => have := HLT.out; simp [intOf]; omega
     | false =>
      have HST : Hid (keysTo Ls (k1 + 1 + 1) = keysTo Ls (k1 + 1)) := by
       unfold Hid
       rw [keysTo_succ, HKN1.out, if_pos, List.append_nil]
       by_cases h : p0.1.key = p.1.key
       · exact h
       · exact absurd (HZ.out.2 h) (by decide)
      have HKS : Hid (KeyRow w.heap.size lo hi u3 (keysTo Ls (k1 + 1 + 1)) u) := by rw [HST.out]; exact HKU.out
      clear hb0
      go_wp2_with fail
      go_roundw
      case rel => exact ⟨k1 + 1 + 1, HLT.out, by go_num, HKS, zEt HX.out HXU.out⟩
      case measure => have := HLT.out; simp [intOf]; omega
    case obl =>
     refine ⟨fun u hu hd => ?_, fun u hu hd => ?_, fun u hu hd => ?_, fun u hu hd => ?_, fun u hu hd => ?_, fun u hu hd => ?_, fun u hu hd => ?_, fun u hu hd => ?_, fun u hu hd => ?_, fun u hu hd => ?_, fun u hu hd => ?_, fun u hu hd => ?_, fun u hu hd => ?_, fun u hu hd => ?_, trivial⟩
     all_goals try simp only [Act.put, zq]
     · go_simp
       exact zEr
     · have e0 : f1 0 = _ := hd 0 (by kernel_rfl)
       go_simp
       exact zEr
     · have e1 : f1 1 = _ := hd 1 (by kernel_rfl)
       go_simp
       exact zEr
     · have e2 : f1 2 = _ := hd 2 (by kernel_rfl)
       go_simp
       exact zEr
     · have e2 : f1 2 = _ := hd 2 (by kernel_rfl)
       go_simp
       exact zEr
     · have e2 : f1 2 = _ := hd 2 (by kernel_rfl)
       have e4 : f1 4 = _ := hd 4 (by kernel_rfl)
       have hs : IntKind.i64.wrap (k1 : Int) = (k1 : Int) := by have := HLT.out; rw [IntKind.wrap_i64]; omega
       go_simp
       exact zEr
     · have e2 : f1 2 = _ := hd 2 (by kernel_rfl)
       have e3 : f1 3 = _ := hd 3 (by kernel_rfl)
       have e5 : f1 5 = _ := hd 5 (by kernel_rfl)
       go_simp
       exact zEr
     · have e2 : f1 2 = _ := hd 2 (by kernel_rfl)
       have e6 : f1 6 = _ := hd 6 (by kernel_rfl)
       go_simp
       exact zEr
     · have e2 : f1 2 = _ := hd 2 (by kernel_rfl)
       have e7 : f1 7 = _ := hd 7 (by kernel_rfl)
       have hu2 := zEt (Ext.drew w4) hu
       have q0 := ext_cell hu2 c0
       go_simp
       exact zEr
     · have e2 : f1 2 = _ := hd 2 (by kernel_rfl)
       go_simp
       exact zEr
     · have e2 : f1 2 = _ := hd 2 (by kernel_rfl)
       have e9 : f1 9 = _ := hd 9 (by kernel_rfl)
       have hu2 := zEt (Ext.drew w4) hu
       have q0 := ext_cell hu2 b0
       go_simp
       exact zEr
     · have e2 : f1 2 = _ := hd 2 (by kernel_rfl)
       have e8 : f1 8 = _ := hd 8 (by kernel_rfl)
       have e10 : f1 10 = _ := hd 10 (by kernel_rfl)
       have hu4 := zEt (Ext.drew w4) hu
       go_simp
       refine (keys_any ((HE4.out.each p0 (List.mem_of_getElem? HP0.out)).k.below hu4 HHI4.out) ((HE4.out.each p (List.mem_of_getElem? HP.out)).k.below hu4 HHI4.out) (HK8.out p0 (List.mem_of_getElem? HP0.out)) (HK8.out p (List.mem_of_getElem? HP.out))).mono ?_
       rintro x9 w9 ⟨rfl, rfl⟩
       exact ⟨_, rfl, Ext.refl _, rfl⟩
     · have e2 : f1 2 = _ := hd 2 (by kernel_rfl)
       have e11 : f1 11 = _ := hd 11 (by kernel_rfl)
       go_simp
       exact zEr
     · have e2 : f1 2 = _ := hd 2 (by kernel_rfl)
       have e12 : f1 12 = _ := hd 12 (by kernel_rfl)
       go_simp
       exact zEr
def plOf (p : List Ent) (a : Nat) : Pl := ⟨((p.getLast?).map Ent.key).getD [], ((p.getLast?).map fun e => e.seq.toNat).getD 0, a, (wr p).length⟩
def offB (C : List (List Ent)) (k : Nat) : Nat := (blks (C.take k)).length
def pls (C : List (List Ent)) : List Pl := (List.range C.length).map fun k => plOf (C.getD k []) (offB C k)
theorem pls_length (C : List (List Ent)) : (pls C).length = C.length := by simp [pls]
theorem pls_at {C : List (List Ent)} {k : Nat} {p : List Ent} (h : C[k]? = some p) : (pls C)[k]? = some (plOf p (offB C k)) := by
 obtain ⟨hk, rfl⟩ := zLg.1 h
 unfold pls
 rw [List.getElem?_map, List.getElem?_range hk]
 simp [List.getD, List.getElem?_eq_getElem hk]
theorem plOf_form {p : List Ent} (h : p ≠ []) (a : Nat) : (plOf p a).form = idx1 p a (wr p).length := by
 unfold plOf idx1 Pl.form plf
 cases hl : p.getLast? with
 | none => rw [List.getLast?_eq_none_iff] at hl; exact absurd hl h
 | some e => rfl
theorem blks_snoc (C : List (List Ent)) (p : List Ent) : blks (C ++ [p]) = blks C ++ wr p := by unfold blks; rw [List.flatMap_append]; simp
theorem idxs_snoc : ∀ (C : List (List Ent)) (a : Nat) (p : List Ent), idxs a (C ++ [p]) = idxs a C ++ idx1 p (a + (blks C).length) (wr p).length
 | [], a, p => by simp [idxs, blks]
 | q :: C, a, p => by
  have h := idxs_snoc C (a + (wr q).length) p
  have e : (blks (q :: C)).length = (wr q).length + (blks C).length := by unfold blks; rw [List.flatMap_cons, List.length_append]
  rw [List.cons_append, idxs, h, idxs, List.append_assoc, e, Nat.add_assoc]
theorem pf_take {C : List (List Ent)} (hc : Cuts C) : ∀ k, k ≤ C.length → pf ((pls C).take k) = idxs 0 (C.take k)
 | 0, _ => rfl
 | k + 1, h => by
  have hk : k < C.length := by omega
  have hp := List.getElem?_eq_getElem hk
  obtain ⟨h1, h2⟩ := zLg.1 (pls_at hp)
  rw [List.take_succ_eq_append_getElem hk, idxs_snoc, ← pf_take hc k (by omega), List.take_succ_eq_append_getElem h1, h2]
  unfold pf
  rw [List.map_append, List.flatten_append]
  simp only [List.map_cons, List.map_nil, List.flatten_cons, List.flatten_nil, List.append_nil]
  rw [plOf_form (cuts_piece hc _ (List.getElem_mem hk)).1, Nat.zero_add]
  rfl
theorem pform_pls {C : List (List Ent)} (hc : Cuts C) : pform (pls C) = index C := by
 unfold pform index
 have h := pf_take hc C.length (zNr _)
 rw [List.take_length, List.take_of_length_le (by rw [pls_length]; exact zNr _)] at h
 rw [pls_length, h]
theorem offB_succ {C : List (List Ent)} {k : Nat} {p : List Ent} (h : C[k]? = some p) : blks (C.take (k + 1)) = blks (C.take k) ++ wr p := by
 obtain ⟨hk, rfl⟩ := zLg.1 h
 rw [List.take_succ_eq_append_getElem hk, blks_snoc]
theorem blks_take_le (C : List (List Ent)) (k : Nat) : (blks (C.take k)).length ≤ (blks C).length := by
 have h : blks C = blks (C.take k) ++ blks (C.drop k) := by unfold blks; rw [← List.flatMap_append, List.take_append_drop]
 rw [h, List.length_append]; omega
theorem pls_take {C : List (List Ent)} {k : Nat} {p : List Ent} (h : C[k]? = some p) : (pls C).take (k + 1) = (pls C).take k ++ [plOf p (offB C k)] := by
 obtain ⟨h1, h2⟩ := zLg.1 (pls_at h)
 rw [List.take_succ_eq_append_getElem h1, h2]
theorem plOf_ok {C : List (List Ent)} {k : Nat} {p : List Ent} (h : C[k]? = some p) (hm : ∀ e ∈ C.flatten, e.may = true) (hb : (blks C).length ≤ 269144064) : (plOf p (offB C k)).ok := by
 have hs := offB_succ h
 have h1 := blks_take_le C (k + 1)
 rw [hs, List.length_append] at h1
 have hp := List.mem_of_getElem? h
 unfold Pl.ok plOf offB
 simp only []
 cases hl : p.getLast? with
 | none => simp only [Option.map_none, Option.getD_none, List.length_nil]; omega
 | some e =>
  obtain ⟨m1, m2, m3, m4, _⟩ := mayN_iff.1 (hm e (List.mem_flatten.2 ⟨p, hp, List.mem_of_getLast? hl⟩))
  simp only [Option.map_some, Option.getD_some]
  omega
theorem pls_ok {C : List (List Ent)} (hm : ∀ e ∈ C.flatten, e.may = true) (hb : (blks C).length ≤ 269144064) : ∀ p ∈ pls C, p.ok := by
 intro p hp
 obtain ⟨k, hk, rfl⟩ := List.mem_iff_getElem.1 hp
 have hk2 : k < C.length := by rw [pls_length] at hk; exact hk
 have h := pls_at (List.getElem?_eq_getElem hk2)
 rw [List.getElem?_eq_getElem hk] at h
 injection h with h
 rw [h]
 exact plOf_ok (List.getElem?_eq_getElem hk2) hm hb
theorem pinfo : (Tryz.prog.info? 90).map (fun i => (i.zero, i.size, i.bytes)) = some (some (.agg #[.slice none 0 0, .int .i64 0, .int .i64 0, .slice none 0 0, .int .i64 0, .int .i64 0]), 6, 80) := by kernel_rfl
theorem wpListIn_pushplace {F : Fence} {nF : Nat} {ops : Array Oper} {rest : List Oper} {o : Oper} {a : Act} {Q : Exit → Act → World → Prop} {u : World} (hgd : o.guard = none) (s x : Operand)
    (ho : o.op = .call { callee := .builtin .append, args := #[s, x], argTypes := #[83, 83] }) (B : Nat) (v : Value) (R : List (Pl × PHd)) (hs : a.eval s = v) (hown : u.ownsRow B 90 6 v R.length (prow R))
    (p : Pl × PHd) (gb : Nat) (hx : a.eval x = .slice (some ⟨gb, 0, none⟩) 1 1) (hblk : u.heap[gb]? = some (.cells (pcells p).toArray 90 (0, 0))) (hlen : R.length ≤ 1000000000) (hB : B ≤ u.heap.size)
    (h : ∀ A' c' w', w'.ownsRow B 90 6 (.slice A' (R.length + 1) c') (R.length + 1) (prow (R ++ [p])) → u.grownBy w' v.ownBlock → wpListIn F nF Tryz.prog ops Q rest (a.put o.dst (.slice A' (R.length + 1) c')) w') :
    wpListIn F nF Tryz.prog ops Q (o :: rest) a u := by
 obtain ⟨i0, hi0', ix0, ix1, ix2⟩ := info_parts pinfo
 refine wpListIn_append_own _ hgd s x 83 ho B 90 i0 _ 6 80 Tryz.underlying83 hi0' ix0 ix1 ix2 rfl (by decide) v R.length (prow R) hs hown ⟨gb, 0, none⟩ 1 1 (pcells p) hx rfl (fun j q hj => ?n1) (fun q hq => ?n2) ?n3 ?n4 hB (fun v' w5 ho hgr _ => ?rest)
 case n1 => rw [addr_add, Nat.zero_add]; exact cell_of hblk (by simpa using hj)
 case n2 => exact prow_one [p] q (by simpa [prow] using hq)
 case n3 => unfold maxLen; omega
 case n4 => omega
 case rest =>
  have ho' : w5.ownsRow B 90 6 v' (R.length + 1) (prow (R ++ [p])) := by rw [prow_append]; simpa [prow] using ho
  have hsl : ∃ A' c', v' = .slice A' (R.length + 1) c' := by
   rcases ho'.2 with ⟨e, h0⟩ | ⟨g, cap, cur, e, _⟩
   · omega
   · exact ⟨_, _, e⟩
  obtain ⟨A', c', rfl⟩ := hsl
  exact h A' c' w5 ho' hgr
theorem wpListIn_addrow {F : Fence} {nF : Nat} {ops : Array Oper} {rest : List Oper} {o : Oper} {a : Act} {Q : Exit → Act → World → Prop} {u : World} (hgd : o.guard = none) (s x : Operand)
    (ho : o.op = .call { callee := .builtin .append, args := #[s, x], argTypes := #[22, 22] }) (B : Nat) (v : Value) (l : List Nat) (hs : a.eval s = v) (hown : Own B l v u)
    (lo hi : Nat) (y : Value) (r : List Nat) (hx : a.eval x = y) (hy : Bs u lo hi y r) (hr : 0 < r.length) (hlen : l.length + r.length ≤ 1099511627776) (hB : B ≤ u.heap.size)
    (h : ∀ A' c' w', Own B (l ++ r) (.slice A' (l ++ r).length c') w' → u.grownBy w' v.ownBlock → wpListIn F nF Tryz.prog ops Q rest (a.put o.dst (.slice A' (l ++ r).length c')) w') :
    wpListIn F nF Tryz.prog ops Q (o :: rest) a u := by
 obtain ⟨i0, hi0, ix0, ix1, ix2⟩ := info_parts t5info
 obtain ⟨A, c, rfl, h1, h2, hnil, hby⟩ := hy
 obtain ⟨b, o', e, _, _, hc⟩ := hby.at_ (i := 0) hr
 subst e
 have hcells : ∀ j q, (bv r)[j]? = some q → u.cell? ((⟨b, o', none⟩ : Addr).add j) = some q := fun j q hj => by
  rcases hby with h0 | ⟨b2, o2, e2, _, _, h3⟩
  · rw [h0] at hj; simp at hj
  · have e3 : b = b2 := congrArg Addr.block (Option.some.inj e2)
    have e4 : o' = o2 := congrArg Addr.off (Option.some.inj e2)
    subst e3 e4
    rw [addr_add]; exact h3 j q hj
 refine wpListIn_append_own _ hgd s x 22 ho B 5 i0 (.int .u8 0) 1 1 Tryz.underlying22 hi0 ix0 ix1 ix2 rfl (by decide) v l.length (bv l) hs hown ⟨b, o', none⟩ r.length c (bv r) hx (by rw [bv_length]; omega) hcells (bv_one r) (by unfold maxLen; omega) (by omega) hB (fun v' w' ho' hg _ => ?_)
 have hown' : Own B (l ++ r) v' w' := by unfold Own; rw [List.length_append, bv_append]; exact ho'
 obtain ⟨A', c', rfl⟩ := hown'.slice
 exact h A' c' w' hown' hg
def tgaveUp : List PanicEntry := [{ v := .iface 25 (.int .i64 10), recovered := false }]
theorem tgiveUp_any (w : World) : Calls Tryz.prog 70 #[] w fun e w' => e = .panicked tgaveUp ∧ w' = w := by
 go_enter Tryz.func70, Tryz.ntmps70
 go_wp2
 exact ⟨rfl, rfl, rfl⟩
def TGaveOr (v : Value) (n : Int) (w : World) (e : Ending) (w' : World) : Prop := (n = 0 ∧ e = .returned v ∨ n ≠ 0 ∧ e = .panicked tgaveUp) ∧ w' = w
theorem treadNum_any (v : Int) (n : Int) (w : World) : Calls Tryz.prog 167 #[.int .u64 v, .int .i64 n] w (TGaveOr (.int .u64 v) n w) := by
 by_cases h : n = 0
 · subst h
   go_enter Tryz.func167, Tryz.ntmps167
   go_wp2_with fail
   go_ret
   exact ⟨.inl ⟨rfl, rfl⟩, rfl⟩
 · have d : (n != 0) = true := by simpa using h
   have H := zHd h
   clear h
   go_enter Tryz.func167, Tryz.ntmps167
   go_wp2_with fail
   refine (tgiveUp_any _).mono ?_
   rintro e w' ⟨rfl, rfl⟩
   exact ⟨rfl, .inr ⟨H.out, rfl⟩, rfl⟩
theorem treadBytes_any (A : Option Addr) (k c : Nat) (n : Int) (w : World) : Calls Tryz.prog 152 #[.slice A k c, .int .i64 n] w (TGaveOr (.slice A k c) n w) := by
 by_cases h : n = 0
 · subst h
   go_enter Tryz.func152, Tryz.ntmps152
   go_wp2_with fail
   go_ret
   exact ⟨.inl ⟨rfl, rfl⟩, rfl⟩
 · have d : (n != 0) = true := by simpa using h
   have H := zHd h
   clear h
   go_enter Tryz.func152, Tryz.ntmps152
   go_wp2_with fail
   refine (tgiveUp_any _).mono ?_
   rintro e w' ⟨rfl, rfl⟩
   exact ⟨rfl, .inr ⟨H.out, rfl⟩, rfl⟩
theorem treadPl_any (A : Option Addr) (k c : Nat) (n : Int) (w : World) : Calls Tryz.prog 128 #[.slice A k c, .int .i64 n] w (TGaveOr (.slice A k c) n w) := by
 by_cases h : n = 0
 · subst h
   go_enter Tryz.func128, Tryz.ntmps128
   go_wp2_with fail
   go_ret
   exact ⟨.inl ⟨rfl, rfl⟩, rfl⟩
 · have d : (n != 0) = true := by simpa using h
   have H := zHd h
   clear h
   go_enter Tryz.func128, Tryz.ntmps128
   go_wp2_with fail
   refine (tgiveUp_any _).mono ?_
   rintro e w' ⟨rfl, rfl⟩
   exact ⟨rfl, .inr ⟨H.out, rfl⟩, rfl⟩
theorem treadEnt_any (A : Option Addr) (k c : Nat) (n : Int) (w : World) : Calls Tryz.prog 108 #[.slice A k c, .int .i64 n] w (TGaveOr (.slice A k c) n w) := by
 by_cases h : n = 0
 · subst h
   go_enter Tryz.func108, Tryz.ntmps108
   go_wp2_with fail
   go_ret
   exact ⟨.inl ⟨rfl, rfl⟩, rfl⟩
 · have d : (n != 0) = true := by simpa using h
   have H := zHd h
   clear h
   go_enter Tryz.func108, Tryz.ntmps108
   go_wp2_with fail
   refine (tgiveUp_any _).mono ?_
   rintro e w' ⟨rfl, rfl⟩
   exact ⟨rfl, .inr ⟨H.out, rfl⟩, rfl⟩
theorem or_u64 {x y : Nat} (hx : x < 4294967296) (hy : y < 4294967296) : bits .or .u64 (x : Int) (y : Int) = ((x ||| y : Nat) : Int) := by
 have h1 : (BitVec.ofInt 64 (x : Int)).toNat = x := by
  rw [BitVec.ofInt_natCast, BitVec.toNat_ofNat]; exact Nat.mod_eq_of_lt (by omega)
 have h2 : (BitVec.ofInt 64 (y : Int)).toNat = y := by
  rw [BitVec.ofInt_natCast, BitVec.toNat_ofNat]; exact Nat.mod_eq_of_lt (by omega)
 have h3 : x ||| y < 2 ^ 32 := Nat.or_lt_two_pow (by omega) (by omega)
 show IntKind.u64.wrap ((BitVec.ofInt 64 (x : Int) ||| BitVec.ofInt 64 (y : Int)).toNat : Int) = _
 rw [BitVec.toNat_or, h1, h2, IntKind.wrap_u64]
 omega
theorem or_byteU {m c : Nat} (hm : m < 16777216) (hc : c < 256) : bits .or .u64 (IntKind.u64.wrap ((m : Int) * 256)) (c : Int) = ((m * 256 + c : Nat) : Int) := by
 have e : IntKind.u64.wrap ((m : Int) * 256) = ((m * 256 : Nat) : Int) := by rw [IntKind.wrap_u64]; omega
 rw [e, or_u64 (by omega) (by omega)]
 have : m * 256 ||| c = m * 256 + c := by
  have := Nat.shiftLeft_add_eq_or_of_lt (i := 8) (b := c) (by simpa using hc) m
  simpa [Nat.shiftLeft_eq] using this.symm
 rw [this]
theorem enters_index1 : ∀ args w, (callFunc 151 args).run Tryz.prog w = .ok (.enter 151 args) w := enters_of Tryz.func151 (by kernel_rfl) rfl
set_option maxHeartbeats 1000000 in
theorem index1_any {w : World} {fb lo hi c : Nat} {A : Option Addr} {l : List Nat} (hb : Boxed w fb 22 (.slice A l.length c)) (hv : Bs w lo hi (.slice A l.length c) l) (h4 : 4 ≤ l.length) (hl : ∀ x ∈ l, x < 256) (hfb : hi ≤ fb) :
    Calls Tryz.prog 151 #[.pointer (some ⟨fb, 0, none⟩)] w fun x w' => x = .returned (.int .u64 (num4 (l.take 4) : Nat)) ∧ Chg (fun i => i = fb) w w' ∧ ∃ A2 c2, Boxed w' fb 22 (.slice A2 (l.drop 4).length c2) ∧ Bs w' lo hi (.slice A2 (l.drop 4).length c2) (l.drop 4) := by
 have c0 := hb.cell
 have z0 := hb.frozen
 have HB := zHd hb
 have HV := zHd hv
 obtain ⟨_, hc1, hc2⟩ := hv.len
 obtain ⟨A2, hA2, _, hr2⟩ := cut_run A l.length c 4 l.length h4 (zNr _) hc1
 have hr2 : ∀ w, (Instr.slice 22 (.slice A l.length c) (some (.int .i64 4)) none none).run Tryz.prog w = .ok (.slice A2 (l.length - 4) (c - 4)) w := hr2 rfl
 have hb2 := hA2 _ _ _ _ hv
 rw [List.take_of_length_le (by simp)] at hb2
 have HB2 := zHd hb2
 obtain ⟨A3, hA3, _, hr3⟩ := head_run .i64 A l.length c 4 h4 hc1
 have hr3 : ∀ w, (Instr.slice 22 (.slice A l.length c) none (some (.int .i64 4)) none).run Tryz.prog w = .ok (.slice A3 4 c) w := hr3
 obtain ⟨_, _, e, _, _, _, hby⟩ := hv
 injection e with e1 _ e2
 subst e1 e2
 have HT : Hid (By w lo hi A3 (l.take 4)) := hA3 l rfl _ _ _ hby
 obtain ⟨t, ht⟩ : ∃ t, t = l.take 4 := ⟨_, rfl⟩
 rw [← ht] at HT ⊢
 have HT4 : Hid (t.length = 4) := by rw [ht, List.length_take]; unfold Hid; omega
 have HTB : Hid (∀ x ∈ t, x < 256) := fun x hx => hl x (List.mem_of_mem_take (by rw [← ht]; exact hx))
 have HFB := zHd hfb
 have hdl : (l.drop 4).length = l.length - 4 := List.length_drop
 have HDL := zHd hdl
 rw [← hdl] at hr2
 rw [← hdl] at HB2
 obtain ⟨tb, tq, rfl⟩ : ∃ x y, A3 = some ⟨x, y, none⟩ := by
  obtain ⟨b', o, e, _⟩ := HT.out.at_ (i := 0) (by rw [HT4.out]; omega)
  exact ⟨_, _, e⟩
 clear hb hA2 hb2 hA3 hby hc2 hc1 hl h4 ht hfb hdl
 go_enter Tryz.func151, Tryz.ntmps151
 go_wp2_with fail
 go_loopw [2, 4, 8] (fun m y i wr => ∃ (k r : Nat), k ≤ 4 ∧ i = .int .i64 (k : Int) ∧ m = .int .u64 (r : Int) ∧ Hid (r = num4 (t.take k)) ∧ wr = w) (fun _ _ i _ => 4 - (intOf i).toNat)
 case atStart => exact ⟨0, 0, Nat.zero_le _, rfl, rfl, rfl, rfl⟩
 case round =>
  obtain ⟨k, r, hk, rfl, rfl, HR, rfl⟩ := hrel
  by_cases hlt : k < 4
  · have hkl : k < t.length := by rw [HT4.out]; exact hlt
    obtain ⟨b', o', e1, _, _, hc⟩ := HT.out.at_ hkl
    injection e1 with e1
    injection e1 with e1 e2
    subst e1 e2
    obtain ⟨y, hy⟩ : ∃ y, y = t[k] := ⟨_, rfl⟩
    rw [← hy] at hc
    have HM : Hid (r < 16777216) := by rw [HR.out]; exact num4_lt3 HT4.out HTB.out hlt
    have hc256 : y < 256 := by rw [hy]; exact HTB.out _ (List.getElem_mem hkl)
    have HO := zHd (or_byteU HM.out hc256)
    have HTT : Hid (num4 (t.take (k + 1)) = r * 256 + y) := by rw [HR.out, hy]; exact num4_take hkl
    have n1 : (0 : Int) ≤ (k : Int) := by omega
    have n2 : (k : Int) < 4 := by omega
    clear hy
    go_wp2_with fail
    go_roundw
    case rel =>
     refine ⟨k + 1, r * 256 + y, by omega, by go_num, ?_, HTT.out.symm, ?_⟩
     · rw [HO.out]
     · trivial
    case measure => simp [intOf]; omega
  · clear HT
    obtain rfl : k = 4 := by omega
    have hr : r = num4 t := by rw [HR.out, List.take_of_length_le (by rw [HT4.out]; exact zNr _)]
    have HRE := zHd hr
    clear hr
    go_wp2_with fail
    go_ret
    refine ⟨by rw [← HRE.out]; rfl, Chg.setCell _ _ _ rfl, A2, c - 4, ?_, HB2.out.setCell (.inr HFB.out) _⟩
    rw [HDL.out]
    exact HB.out.set _
theorem tb_index {C : List (List Ent)} {L : List Ent} (h : MayT L) (hc : Cuts C) (hf : C.flatten = L) : 28 ≤ (tb C L).length ∧ (tb C L).take ((tb C L).length - 28) = ahd C L ∧
    num4 (((tb C L).drop ((tb C L).length - 28)).take 4) = (blks C).length ∧ num4 ((((tb C L).drop ((tb C L).length - 28)).drop 4).take 4) = (index C).length ∧ (blks C).length + (index C).length ≤ (ahd C L).length ∧ ((ahd C L).drop (blks C).length).take (index C).length = index C := by
 have hfw := few h hc hf
 have e1 : (tb C L).length - 28 = (ahd C L).length := by rw [tb_len]; omega
 have ht : (tb C L).take (ahd C L).length = ahd C L := by unfold tb; rw [List.take_left]
 have hd : (tb C L).drop (ahd C L).length = foot24 C L ++ be4 (Bl.crc (foot24 C L)) := by unfold tb; rw [List.drop_left]
 refine ⟨by rw [tb_len]; omega, by rw [e1, ht], ?_, ?_, by unfold ahd; simp, by unfold ahd; simp⟩
 · rw [e1, hd]; exact num4_be4 (by have := hfw.b; omega)
 · rw [e1, hd]; exact num4_be4 (by have := hfw.i; omega)
theorem headB_run (kl : IntKind) (A : Option Addr) (n c k : Nat) (hk : k ≤ n) (hc : n ≤ c) : ∃ A2, (∀ (W : World) (lo hi : Nat) (l : List Nat), Bs W lo hi (.slice A n c) l → Bs W lo hi (.slice A2 k c) (l.take k)) ∧
    ∀ w, (Instr.slice 22 (.slice A n c) none (some (.int kl (k : Int))) none).run Tryz.prog w = .ok (.slice A2 k c) w := by
 obtain ⟨A2, h1, h2, h3⟩ := head_run kl A n c k hk hc
 refine ⟨A2, fun W lo hi l h => ?_, h3⟩
 obtain ⟨A', c', he, a1, a2, a3, a4⟩ := h
 injection he with x1 x2 x3
 subst x1 x2 x3
 have hl : (l.take k).length = k := by rw [List.length_take]; omega
 exact ⟨A2, c, by rw [hl], by omega, a2, fun e => a3 (h2 e), h1 l rfl W lo hi a4⟩
theorem cutU_run (A : Option Addr) (n c k j : Nat) (hkj : k ≤ j) (hjn : j ≤ n) (hc : n ≤ c) : ∃ A2, (∀ (W : World) (lo hi : Nat) (l : List Nat), Bs W lo hi (.slice A n c) l → Bs W lo hi (.slice A2 (j - k) (c - k)) ((l.drop k).take (j - k))) ∧
    (∀ w, (Instr.slice 22 (.slice A n c) (some (.int .u64 (k : Int))) (some (.int .u64 (j : Int))) none).run Tryz.prog w = .ok (.slice A2 (j - k) (c - k)) w) := by
 obtain ⟨i0, hi, _, hz1, _⟩ := info_parts t5info
 have he : Tryz.prog.underlying 22 = some (.slice (Tryz.prog.elem 22)) := by kernel_rfl
 have hs : ∀ w, (sizeOf (Tryz.prog.elem 22)).run Tryz.prog w = .ok 1 w := fun w => by
  have e : Tryz.prog.elem 22 = 5 := by kernel_rfl
  rw [e]
  simp [Go.sizeOf, typeInfo, hi, hz1]
 refine ⟨if c = k then A else A.map (·.add k), fun W lo hi' l h => ?_, fun w => ?_⟩
 · obtain ⟨A', c', he, a1, a2, a3, a4⟩ := h
   injection he with x1 x2 x3
   subst x1 x2 x3
   have h2 := By.drop (k := k) (cap := c) a4 (by omega) (by omega)
   have hl : ((l.drop k).take (j - k)).length = j - k := by simp; omega
   refine ⟨(if c = k then A else A.map (·.add k)), c - k, by rw [hl], by rw [hl]; omega, by omega, fun hn => ?_, ?_⟩
   · split at hn
     · have := a3 hn; omega
     · cases A with
       | none => have := a3 rfl; omega
       | some a => simp at hn
   · unfold By
     rw [bv_take]
     exact Sl.take h2 _
 · rw [run_slice_lh w 22 A n c he .u64 .u64 (k : Int) (j : Int) (by omega) (by omega) (by omega), hs]
   simp [Result.andThen, sliced]
def IdxAns (w : World) (lo hi : Nat) (b : List Nat) (x : Ending) (w' : World) : Prop :=
 Ext w w' ∧ ((∃ (A : Option Addr) (c : Nat) (l : List Nat), x = .returned (.slice A l.length c) ∧ Bs w' lo hi (.slice A l.length c) l ∧ (∀ y ∈ l, y < 256) ∧ l.length ≤ b.length ∧ 28 ≤ b.length ∧ ∀ C L, MayT L → Cuts C → C.flatten = L → tb C L = b → l = index C) ∨
  (x = .panicked tgaveUp ∧ ∀ L, ¬ IsT b L))
set_option maxRecDepth 100000 in
set_option maxHeartbeats 4000000 in
theorem index_any {w : World} {lo hi c : Nat} {A : Option Addr} {b : List Nat} (hv : Bs w lo hi (.slice A b.length c) b) (hhi : hi ≤ w.heap.size) (hb : ∀ x ∈ b, x < 256) (hl : b.length ≤ 1000000000) :
    Calls Tryz.prog 131 #[.slice A b.length c] w (IdxAns w lo hi b) := by
 have HHI := zHd hhi
 have HB := zHd hb
 have HL := zHd hl
 obtain ⟨_, hc1, _⟩ := hv.len
 rcases Nat.lt_or_ge b.length 28 with h4 | h4
 · have d : decide ((b.length : Int) < 28) = true := by rw [decide_eq_true_eq]; omega
   have H4 := zHd h4
   clear h4 hv hhi hb hl hc1
   go_enter Tryz.func131, Tryz.ntmps131
   go_wp2_with fail
   refine (tgiveUp_any _).mono ?_
   rintro x w' ⟨rfl, rfl⟩
   refine ⟨rfl, Ext.refl _, .inr ⟨rfl, fun L h => ?_⟩⟩
   obtain ⟨hm, C, hf, hcu, rfl⟩ := h
   exact absurd (tb_index hm hcu hf).1 (by have := H4.out; omega)
 obtain ⟨n, hn⟩ : ∃ n, n = b.length - 28 := ⟨_, rfl⟩
 have HN : Hid (b.length = n + 28) := by unfold Hid; omega
 have ew : wrap64 ((b.length : Int) - 28) = (n : Int) := by unfold wrap64; omega
 have d : decide ((b.length : Int) < 28) = false := by rw [decide_eq_false_iff_not]; omega
 obtain ⟨A2, hA2, _, hr2o⟩ := cut_run A b.length c n b.length (by omega) (zNr _) hc1
 have hr2 : ∀ w, (Instr.slice 22 (.slice A b.length c) (some (.int .i64 (n : Int))) none none).run Tryz.prog w = .ok (.slice A2 28 (c - n)) w := fun w => by rw [hr2o rfl, HN.out]; congr 2; omega
 clear hr2o
 obtain ⟨ft, hft⟩ : ∃ ft, ft = b.drop n := ⟨_, rfl⟩
 have HF28 : Hid (ft.length = 28) := by rw [hft, List.length_drop]; unfold Hid; omega
 have hbf := hA2 _ _ _ _ hv
 rw [List.take_of_length_le (by simp), ← hft, show b.length - n = ft.length by rw [HF28.out]; omega] at hbf
 have HBF := zHd hbf
 obtain ⟨A3, hA3, hr3⟩ := headB_run .i64 A b.length c n (by omega) hc1
 obtain ⟨ah, hah⟩ : ∃ ah, ah = b.take n := ⟨_, rfl⟩
 have HAN : Hid (ah.length = n) := by rw [hah, List.length_take]; unfold Hid; omega
 have hba := hA3 _ _ _ _ hv
 rw [← hah] at hba
 have HBA := zHd hba
 have HFE : Hid (ft = b.drop (b.length - 28)) := by rw [hft, hn]; exact rfl
 have HAE : Hid (ah = b.take (b.length - 28)) := by rw [hah, hn]; exact rfl
 have HFL : Hid (∀ x ∈ ft, x < 256) := fun x hx => hb x (List.mem_of_mem_drop (by rw [← hft]; exact hx))
 clear hv hhi hb hl hc1 h4 hn hA2 hbf hA3 hba hah hft
 go_enter Tryz.func131, Tryz.ntmps131
 have hen := enters_index1
 go_upto_region 3 with (fail)
 go_region
 obtain ⟨w1, hw1⟩ : ∃ w1, w1 = (w.alloc (.cells #[.slice A2 28 (c - n)] 22)).drew := ⟨_, rfl⟩
 rw [← hw1]
 have HX1 : Hid (Ext w w1) := by rw [hw1]; exact (ext_alloc _ _).trans (Ext.drew _)
 have hbx : Boxed w1 w.heap.size 22 (.slice A2 ft.length (c - n)) := by rw [hw1, HF28.out]; exact heap_at w _ rfl
 have hbf := HBF.out.below HX1.out HHI.out
 have HI1 := zHd (index1_any hbx hbf (by rw [HF28.out]; omega) HFL.out HHI.out)
 clear hw1 hbx hbf
 go_wp2_with fail
 refine HI1.out.mono ?_
 rintro x w2 ⟨rfl, hc2, A4, c4, hb4, hv4⟩
 have HX2 : Hid (Ext w w2) := Below.trans HX1.out (hc2.below (fun i hi => by rw [hi]; exact zNr _) HX1.out.size)
 have HI2 := zHd (index1_any hb4 hv4 (by rw [List.length_drop, HF28.out]; omega) (fun x hx => HFL.out x (List.mem_of_mem_drop hx)) HHI.out)
 clear hc2 hb4 hv4
 obtain ⟨x, hx⟩ : ∃ x, x = num4 (ft.take 4) := ⟨_, rfl⟩
 have HX := zHd hx
 have HXL : Hid (x < 4294967296) := by rw [hx]; exact num4_lt (by rw [List.length_take, HF28.out]; rfl) fun y hy => HFL.out y (List.mem_of_mem_take hy)
 rw [← hx]
 clear hx
 go_wp2_with fail
 refine HI2.out.mono ?_
 rintro x' w3 ⟨rfl, hc3, A5, c5, hb5, hv5⟩
 have HX3 : Hid (Ext w w3) := Below.trans HX2.out (hc3.below (fun i hi => by rw [hi]; exact zNr _) HX2.out.size)
 clear hc3 hb5 hv5
 obtain ⟨y, hy⟩ : ∃ y, y = num4 ((ft.drop 4).take 4) := ⟨_, rfl⟩
 have HY := zHd hy
 have HYL : Hid (y < 4294967296) := by rw [hy]; exact num4_lt (by rw [List.length_take, List.length_drop, HF28.out]; rfl) fun z hz => HFL.out z (List.mem_of_mem_drop (List.mem_of_mem_take hz))
 rw [← hy]
 clear hy
 have e1 : IntKind.u64.wrap ((x : Int) + (y : Int)) = ((x + y : Nat) : Int) := by rw [IntKind.wrap_u64]; have := HXL.out; have := HYL.out; omega
 have e2 : IntKind.u64.wrap (n : Int) = (n : Int) := by rw [IntKind.wrap_u64]; have := HN.out; have := HL.out; omega
 obtain ⟨z, hz⟩ : ∃ z, z = x + y := ⟨_, rfl⟩
 rw [← hz] at e1
 by_cases hgt : n < z
 · have dg : decide ((n : Int) < (z : Int)) = true := by rw [decide_eq_true_eq]; omega
   have dgn : decide (n < z) = true := by rw [decide_eq_true_eq]; exact hgt
   have HGT := zHd (And.intro hgt hz)
   clear hgt hz
   go_wp2_with fail
   refine (tgiveUp_any _).mono ?_
   rintro x' w' ⟨rfl, rfl⟩
   refine ⟨rfl, HX3.out, .inr ⟨rfl, fun L h => ?_⟩⟩
   obtain ⟨hm, C, hf, hcu, rfl⟩ := h
   obtain ⟨_, h2, h3, h4, h5, _⟩ := tb_index hm hcu hf
   rw [← HFE.out] at h3 h4
   rw [← HAE.out] at h2
   rw [← HX.out] at h3
   rw [← HY.out] at h4
   rw [← h2, HAN.out, ← h3, ← h4] at h5
   have := HGT.out
   omega
 · have dg : decide ((n : Int) < (z : Int)) = false := by rw [decide_eq_false_iff_not]; omega
   have dgn : decide (n < z) = false := by rw [decide_eq_false_iff_not]; exact hgt
   obtain ⟨A6, hA6, hr6⟩ := cutU_run A3 n c x z (by omega) (by omega) (by have := HBA.out.len; omega)
   have HA6 := zHd (hA6 _ _ _ _ (HBA.out.below HX3.out HHI.out))
   have hln : ((ah.drop x).take (z - x)).length = z - x := by rw [List.length_take, List.length_drop, HAN.out]; omega
   have HZ := zHd hz
   have HLN := zHd hln
   have HZN : Hid (z ≤ n) := by unfold Hid; omega
   clear hA6 hz hgt hln
   go_wp2_with fail
   go_ret
   refine ⟨HX3.out, .inl ⟨A6, c - x, (ah.drop x).take (z - x), by rw [HLN.out]; rfl, by rw [HLN.out]; exact HA6.out, fun y hy => HB.out y (by have h1 := List.mem_of_mem_drop (List.mem_of_mem_take hy); rw [HAE.out] at h1; exact List.mem_of_mem_take h1), by rw [HLN.out]; have := HN.out; have := HZN.out; omega, by have := HN.out; omega, fun C L hm hcu hf hb => ?_⟩⟩
   subst hb
   obtain ⟨_, h2, h3, h4, h5, h6⟩ := tb_index hm hcu hf
   rw [← HFE.out] at h3 h4
   rw [← HAE.out] at h2
   rw [← HX.out] at h3
   rw [← HY.out] at h4
   rw [h2, h3, show z - (blks C).length = (index C).length by have := HZ.out; omega]
   exact h6
end Go.Proofs.YtkdidghfcfcpfaaGreat
