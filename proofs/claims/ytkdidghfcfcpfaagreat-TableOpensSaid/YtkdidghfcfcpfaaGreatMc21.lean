import Derived.Test.YtkdidghfcfcpfaaGreatMc20
import Derived.Test.YtkdidghfcfcpfaaGreatMc2
import Derived.Test.YtkdidghfcfcpfaaGreatMc0
namespace Go.Proofs.YtkdidghfcfcpfaaGreat
open Go.ChangeShapes Go.WideShapes Go.ChangeAt Go.RowKit Go.Lib Go.Joins
theorem uwrite0 (w : World) : Calls Tryz.prog 31 #[.slice none 0 0] w fun x w' => Ext w w' ∧ x = .returned (.tuple #[.slice none 0 0, .int .i64 2]) := by
 refine (twrite_any (L := []) (lo := 0) (hi := 0) (c := 0) ⟨Sl.nil _ _ _ _, fun p hp => by cases hp⟩ (Nat.zero_le _) (zNr _) (by simp)).mono ?_
 rintro x w' ⟨hx, (⟨hm, _⟩ | ⟨_, rfl⟩)⟩
 · exact absurd hm uno0
 · exact ⟨hx, rfl⟩
theorem uwrite2 {w : World} {A : Option Addr} {g g' : Hd} (h : Es w 0 w.heap.size A [(uE 98 1, g), (uE 97 1, g')]) : Calls Tryz.prog 31 #[.slice A 2 2] w fun x w' => Ext w w' ∧ x = .returned (.tuple #[.slice none 0 0, .int .i64 2]) := by
 refine (twrite_any (c := 2) h (zNr _) (zNr _) (by simp)).mono ?_
 rintro x w' ⟨hx, (⟨hm, _⟩ | ⟨_, rfl⟩)⟩
 · exact absurd hm uno
 · exact ⟨hx, rfl⟩
theorem uwrite3 {w : World} {A : Option Addr} {g g' g2 : Hd} (h : Es w 0 w.heap.size A [(uE 97 5, g), (uE 97 3, g'), (uE 98 9, g2)]) : Calls Tryz.prog 31 #[.slice A 3 3] w fun x w' => Ext w w' ∧ ∃ B c, x = .returned (.tuple #[.slice B (tb [uT] uT).length c, .int .i64 0]) ∧ Own w.heap.size (tb [uT] uT) (.slice B (tb [uT] uT).length c) w' := by
 refine (twrite_any (c := 3) h (zNr _) (zNr _) (by simp)).mono ?_
 rintro x w' ⟨hx, (⟨_, C, B, c, hf, hc, rfl, ho⟩ | ⟨hno, _⟩)⟩
 · have hC : C = [uT] := ucut hc hf
   subst hC
   exact ⟨hx, B, c, rfl, ho⟩
 · exact absurd umay hno
theorem ugood : ∀ e ∈ uT, (∀ x ∈ e.key, x < 256) ∧ ∀ x ∈ e.val, x < 256 := by decide
theorem uopen {w : World} {lo hi c : Nat} {A : Option Addr} (hv : Bs w lo hi (.slice A (tb [uT] uT).length c) (tb [uT] uT)) (hhi : hi ≤ w.heap.size) : Calls Tryz.prog 7 #[.slice A (tb [uT] uT).length c] w fun x w' => Ext w w' ∧ ∃ g, x = .returned (.tuple #[.pointer (some ⟨g, 0, none⟩), .int .i64 0]) ∧ TV w' g [uT] uT [] [] false :=
 (topen_any hv hhi (utb_lt umay ucuts rfl ugood) ulen1).mono fun _ _ h => open_is umay ucuts rfl h
theorem uopen0 (w : World) : Calls Tryz.prog 7 #[.slice none 0 0] w fun x w' => Ext w w' ∧ x = .returned (.tuple #[.pointer none, .int .i64 10]) :=
 (topen_any (b := []) (Bs.nil w 0 0) (Nat.zero_le _) (by simp) (by simp)).mono fun _ _ h => open_not unot h
set_option maxRecDepth 100000 in
set_option maxHeartbeats 8000000 in
theorem uknown_any (w : World) : Calls Tryz.prog 6 #[] w fun e w' => e = .returned (.bool true) ∧ Below w.heap.size w w' := by
 go_enter Tryz.func6, Tryz.ntmps6
 go_wp2_with fail
 refine (uwrite0 w).mono ?_
 rintro x w1 ⟨hx1, rfl⟩
 have HX1 : Hid (Ext w w1) := hx1
 clear hx1
 go_wp2_with fail
 refine Calls.mono (ulit_any (e := (uE 98 1)) (k := 98) (s := 1) rfl rfl (by decide) (by decide) (by decide) w1) ?_
 rintro e p1 ⟨hx_p1, g_p1, rfl, hm_p1⟩
 have HX_p1 := zHd hx_p1
 have HM_p1 := zHd hm_p1
 clear hx_p1 hm_p1
 go_wp2_with fail
 refine Calls.mono (ulit_any (e := (uE 97 1)) (k := 97) (s := 1) rfl rfl (by decide) (by decide) (by decide) p1) ?_
 rintro e p2 ⟨hx_p2, g_p2, rfl, hm_p2⟩
 have HX_p2 := zHd hx_p2
 have HM_p2 := zHd hm_p2
 clear hx_p2 hm_p2
 obtain ⟨w2, hw_w2⟩ : ∃ w3, w3 = p2.alloc (.cells #[.slice g_p1.kA (uE 98 1).key.length g_p1.kc, .int .i64 (uE 98 1).seq, .int .i64 (uE 98 1).kind, .slice g_p1.vA (uE 98 1).val.length g_p1.vc, .slice g_p2.kA (uE 97 1).key.length g_p2.kc, .int .i64 (uE 97 1).seq, .int .i64 (uE 97 1).kind, .slice g_p2.vA (uE 97 1).val.length g_p2.vc] 50) := ⟨_, rfl⟩
 have HA_w2 : Hid (Ext p2 w2) := by rw [hw_w2]; exact ext_alloc _ _
 have HX_w2 : Hid (Ext w1 w2) := zEt (zEt (HX_p1.out) HX_p2.out) HA_w2.out
 have HWR : Hid (Es w2 0 w2.heap.size (some ⟨p2.heap.size, 0, none⟩) [((uE 98 1), g_p1), ((uE 97 1), g_p2)]) := by
  refine two_es (by rw [hw_w2]; exact heap_at _ _ rfl) ?_ ?_
  · exact (HM_p1.out.below (zEt HX_p2.out HA_w2.out) (zNr _)).wide (Nat.zero_le _) (Below.size (zEt HX_p2.out HA_w2.out))
  · exact (HM_p2.out.below HA_w2.out (zNr _)).wide (Nat.zero_le _) (Below.size HA_w2.out)
 have HWC := zHd (uwrite2 HWR.out)
 rw [hw_w2] at HWC
 clear HWR
 unfold Ent.at_
 go_wp2_with fail
 refine HWC.out.mono ?_
 rw [← hw_w2]
 clear HWC hw_w2
 rintro x w3 ⟨hx3, rfl⟩
 have HX3 : Hid (Ext w w3) := zEt HX1.out (zEt HX_w2.out hx3)
 clear hx3 HX_p1 HX_p2 HM_p1 HM_p2 HA_w2 HX_w2
 go_wp2_with fail
 refine (uopen0 w3).mono ?_
 rintro x w4 ⟨hx4, rfl⟩
 have HX4 : Hid (Ext w w4) := zEt HX3.out hx4
 clear hx4
 go_wp2_with fail
 refine Calls.mono (ulit_any (e := (uE 97 5)) (k := 97) (s := 5) rfl rfl (by decide) (by decide) (by decide) w4) ?_
 rintro e q1 ⟨hx_q1, g_q1, rfl, hm_q1⟩
 have HX_q1 := zHd hx_q1
 have HM_q1 := zHd hm_q1
 clear hx_q1 hm_q1
 go_wp2_with fail
 refine Calls.mono (ulit_any (e := (uE 97 3)) (k := 97) (s := 3) rfl rfl (by decide) (by decide) (by decide) q1) ?_
 rintro e q2 ⟨hx_q2, g_q2, rfl, hm_q2⟩
 have HX_q2 := zHd hx_q2
 have HM_q2 := zHd hm_q2
 clear hx_q2 hm_q2
 go_wp2_with fail
 refine Calls.mono (ulit_any (e := (uE 98 9)) (k := 98) (s := 9) rfl rfl (by decide) (by decide) (by decide) q2) ?_
 rintro e q3 ⟨hx_q3, g_q3, rfl, hm_q3⟩
 have HX_q3 := zHd hx_q3
 have HM_q3 := zHd hm_q3
 clear hx_q3 hm_q3
 obtain ⟨w5, hw_w5⟩ : ∃ w3, w3 = q3.alloc (.cells #[.slice g_q1.kA (uE 97 5).key.length g_q1.kc, .int .i64 (uE 97 5).seq, .int .i64 (uE 97 5).kind, .slice g_q1.vA (uE 97 5).val.length g_q1.vc, .slice g_q2.kA (uE 97 3).key.length g_q2.kc, .int .i64 (uE 97 3).seq, .int .i64 (uE 97 3).kind, .slice g_q2.vA (uE 97 3).val.length g_q2.vc, .slice g_q3.kA (uE 98 9).key.length g_q3.kc, .int .i64 (uE 98 9).seq, .int .i64 (uE 98 9).kind, .slice g_q3.vA (uE 98 9).val.length g_q3.vc] 50) := ⟨_, rfl⟩
 have HA_w5 : Hid (Ext q3 w5) := by rw [hw_w5]; exact ext_alloc _ _
 have HX_w5 : Hid (Ext w4 w5) := zEt (zEt (zEt (HX_q1.out) HX_q2.out) HX_q3.out) HA_w5.out
 have HWR : Hid (Es w5 0 w5.heap.size (some ⟨q3.heap.size, 0, none⟩) [((uE 97 5), g_q1), ((uE 97 3), g_q2), ((uE 98 9), g_q3)]) := by
  refine three_es (by rw [hw_w5]; exact heap_at _ _ rfl) ?_ ?_ ?_
  · exact (HM_q1.out.below (zEt HX_q2.out (zEt HX_q3.out HA_w5.out)) (zNr _)).wide (Nat.zero_le _) (Below.size (zEt HX_q2.out (zEt HX_q3.out HA_w5.out)))
  · exact (HM_q2.out.below (zEt HX_q3.out HA_w5.out) (zNr _)).wide (Nat.zero_le _) (Below.size (zEt HX_q3.out HA_w5.out))
  · exact (HM_q3.out.below HA_w5.out (zNr _)).wide (Nat.zero_le _) (Below.size HA_w5.out)
 have HWC := zHd (uwrite3 HWR.out)
 rw [hw_w5] at HWC
 clear HWR
 unfold Ent.at_
 go_wp2_with fail
 refine HWC.out.mono ?_
 rw [← hw_w5]
 clear HWC hw_w5
 rintro x w6 ⟨hx6, WA, wc, rfl, hown⟩
 have HX6 : Hid (Ext w w6) := zEt HX4.out (zEt HX_w5.out hx6)
 have HOP := zHd (uopen hown.bs (zNr _))
 obtain ⟨n, hn⟩ : ∃ n, n = (tb [uT] uT).length := ⟨_, rfl⟩
 rw [← hn] at HOP ⊢
 clear hx6 hown hn HX_q1 HX_q2 HX_q3 HM_q1 HM_q2 HM_q3 HA_w5 HX_w5
 go_wp2_with fail
 refine HOP.out.mono ?_
 rintro x w7 ⟨hx7, g, rfl, htv⟩
 have HX7 : Hid (Ext w w7) := zEt HX6.out hx7
 have HTV := zHd htv
 clear hx7 htv HOP
 have cv1 : (convert 22 22 (.slice (some ⟨w7.heap.size, 0, none⟩) 1 1)).run Tryz.prog (w7.alloc (.cells #[.int .u8 97] 5)) = .ok (.slice (some ⟨w7.heap.size, 0, none⟩) 1 1) (w7.alloc (.cells #[.int .u8 97] 5 (1, 2))) := run_convert_bytes_const_at _ _ _ _ _ _ _ (rfl) Tryz.underlying22 Tryz.underlying5
 have hx9 := ext_alloc w7 (.cells #[.int .u8 97] 5 (1, 2))
 have HG := zHd (tget_any (s := 4) (HTV.out.ext hx9) (bs_mark w7 [97] (by simp) (1, 2)) (by simp) (by decide) (by decide) (by decide))
 clear hx9
 go_wp2_with fail
 refine Calls.mono HG.out ?_
 intro x w8 hgt
 obtain ⟨hxg, hgt⟩ := get_is hgt
 have e9 : (inV [] [] false uT).find? (seenE [97] 4) = some (uE 97 3) := rfl
 rw [e9] at hgt
 obtain ⟨gd, rfl, hmd⟩ := hgt
 have HX8 : Hid (Ext w7 w8) := zEt (ext_alloc _ _) hxg
 have HMD0 := zHd hmd
 clear hmd hxg e9 cv1 HG
 unfold Ent.at_
 go_upto_region 7 with (fail)
 obtain ⟨w9, hw9⟩ : ∃ w9, w9 = w8.alloc (.cells #[.slice gd.kA (uE 97 3).key.length gd.kc, .int .i64 (uE 97 3).seq, .int .i64 (uE 97 3).kind, .slice gd.vA (uE 97 3).val.length gd.vc] 50) := ⟨_, rfl⟩
 rw [← hw9]
 have HX9 : Hid (Ext w7 w9) := by rw [hw9]; exact zEt HX8.out (ext_alloc _ _)
 have HD9 : Hid (w9.heap[w8.heap.size]? = some (.cells #[.slice gd.kA (uE 97 3).key.length gd.kc, .int .i64 (uE 97 3).seq, .int .i64 (uE 97 3).kind, .slice gd.vA (uE 97 3).val.length gd.vc] 50 (0, 0))) := by rw [hw9]; exact heap_at _ _ rfl
 have HM9 : Hid (Em w9 0 w9.heap.size (uE 97 3) gd) := by have hxa : Ext w8 w9 := (by rw [hw9]; exact ext_alloc _ _); exact (HMD0.out.below hxa (zNr _)).wide (zNr _) hxa.size
 obtain ⟨db, hdb⟩ : ∃ db, db = w8.heap.size := ⟨_, rfl⟩
 rw [← hdb] at HD9 ⊢
 have HTV9 := zHd (HTV.out.ext HX9.out)
 clear hw9 hdb HMD0 HX8
 have cv1 : (convert 22 22 (.slice (some ⟨w9.heap.size, 0, none⟩) 1 1)).run Tryz.prog (w9.alloc (.cells #[.int .u8 98] 5)) = .ok (.slice (some ⟨w9.heap.size, 0, none⟩) 1 1) (w9.alloc (.cells #[.int .u8 98] 5 (1, 2))) := run_convert_bytes_const_at _ _ _ _ _ _ _ (rfl) Tryz.underlying22 Tryz.underlying5
 have hx9 := ext_alloc w9 (.cells #[.int .u8 98] 5 (1, 2))
 have HG := zHd (tget_any (s := 8) (HTV9.out.ext hx9) (bs_mark w9 [98] (by simp) (1, 2)) (by simp) (by decide) (by decide) (by decide))
 clear hx9
 go_wp2_with fail
 refine Calls.mono HG.out ?_
 intro x w10 hgt
 obtain ⟨hxg, hgt⟩ := get_is hgt
 have e9 : (inV [] [] false uT).find? (seenE [98] 8) = none := rfl
 rw [e9] at hgt
 obtain rfl := hgt
 have HX10 : Hid (Ext w9 w10) := zEt (ext_alloc _ _) hxg
 clear hxg e9 cv1 HG
 unfold noE
 go_upto_region 8 with (fail)
 obtain ⟨w11, hw11⟩ : ∃ w11, w11 = w10.alloc (.cells #[.slice none 0 0, .int .i64 0, .int .i64 0, .slice none 0 0] 50) := ⟨_, rfl⟩
 rw [← hw11]
 have HX11 : Hid (Ext w9 w11) := by rw [hw11]; exact zEt HX10.out (ext_alloc _ _)
 have HTV11 := zHd (HTV9.out.ext HX11.out)
 clear hw11 HX10
 have cv1 : (convert 22 22 (.slice (some ⟨w11.heap.size, 0, none⟩) 2 2)).run Tryz.prog (w11.alloc (.cells #[.int .u8 97, .int .u8 0] 5)) = .ok (.slice (some ⟨w11.heap.size, 0, none⟩) 2 2) (w11.alloc (.cells #[.int .u8 97, .int .u8 0] 5 (2, 3))) := run_convert_bytes_const_at _ _ _ _ _ _ _ (rfl) Tryz.underlying22 Tryz.underlying5
 have hx9 := ext_alloc w11 (.cells #[.int .u8 97, .int .u8 0] 5 (2, 3))
 have HCL := zHd (clip_any (e := false) (bA := none) (bc := 0) (b := []) (HTV11.out.ext hx9) ((bs_mark w11 [97, 0] (by simp) (2, 3)).wide (Nat.zero_le _) (by simp)) (by decide) (Bs.nil _ _ _) (fun x hx => by cases hx) (by simp) (by simp))
 have HCL2 : Hid (Calls Tryz.prog 33 #[.pointer (some ⟨g, 0, none⟩), .slice (some ⟨w11.heap.size, 0, none⟩) 2 2, .slice none 0 0, .bool false] (w11.alloc (.cells #[.int .u8 97, .int .u8 0] 5 (2, 3))) (ClipAns (w11.alloc (.cells #[.int .u8 97, .int .u8 0] 5 (2, 3))) [uT] uT [] [] [97, 0] [] false false)) := HCL.out
 clear hx9 HCL
 go_wp2_with fail
 refine HCL2.out.mono ?_
 rintro x w12 ⟨hx12, g2, rfl, htk⟩
 have htk2 : TV w12 g2 [uT] uT [97, 0] [] false := htk
 have HTK := zHd htk2
 have HX12 : Hid (Ext w9 w12) := zEt HX11.out (zEt (ext_alloc _ _) hx12)
 clear hx12 htk htk2 cv1 HCL2
 have cv1 : (convert 22 22 (.slice (some ⟨w12.heap.size, 0, none⟩) 1 1)).run Tryz.prog (w12.alloc (.cells #[.int .u8 97] 5)) = .ok (.slice (some ⟨w12.heap.size, 0, none⟩) 1 1) (w12.alloc (.cells #[.int .u8 97] 5 (1, 2))) := run_convert_bytes_const_at _ _ _ _ _ _ _ (rfl) Tryz.underlying22 Tryz.underlying5
 have hx9 := ext_alloc w12 (.cells #[.int .u8 97] 5 (1, 2))
 have HG := zHd (tget_any (s := 9) (HTK.out.ext hx9) (bs_mark w12 [97] (by simp) (1, 2)) (by simp) (by decide) (by decide) (by decide))
 clear hx9
 go_wp2_with fail
 refine Calls.mono HG.out ?_
 intro x w13 hgt
 obtain ⟨hxg, hgt⟩ := get_is hgt
 have e9 : (inV [97, 0] [] false uT).find? (seenE [97] 9) = none := rfl
 rw [e9] at hgt
 obtain rfl := hgt
 have HX13 : Hid (Ext w12 w13) := zEt (ext_alloc _ _) hxg
 clear hxg e9 cv1 HG
 unfold noE
 go_upto_region 10 with (fail)
 obtain ⟨w14, hw14⟩ : ∃ w11, w11 = w13.alloc (.cells #[.slice none 0 0, .int .i64 0, .int .i64 0, .slice none 0 0] 50) := ⟨_, rfl⟩
 rw [← hw14]
 have HX14 : Hid (Ext w12 w14) := by rw [hw14]; exact zEt HX13.out (ext_alloc _ _)
 have HTK14 := zHd (HTK.out.ext HX14.out)
 have HFS := zHd (tfst_any HTK14.out.goes)
 clear hw14 HX13
 go_wp2_with fail
 refine HFS.out.mono ?_
 rintro x w15 ⟨hx15, hfs⟩
 have e9 : (inV [97, 0] [] false uT).head? = some (uE 98 9) := rfl
 rw [e9] at hfs
 obtain ⟨ge, rfl, hme⟩ := hfs
 have HX15 : Hid (Ext w12 w15) := zEt HX14.out hx15
 have HME0 := zHd hme
 clear hx15 hme e9 HFS
 unfold Ent.at_
 go_upto_region 11 with (fail)
 obtain ⟨wz, hwz⟩ : ∃ wz, wz = w15.alloc (.cells #[.slice ge.kA (uE 98 9).key.length ge.kc, .int .i64 (uE 98 9).seq, .int .i64 (uE 98 9).kind, .slice ge.vA (uE 98 9).val.length ge.vc] 50) := ⟨_, rfl⟩
 rw [← hwz]
 have HXZ : Hid (Ext w15 wz) := by rw [hwz]; exact ext_alloc _ _
 have HE9 : Hid (wz.heap[w15.heap.size]? = some (.cells #[.slice ge.kA (uE 98 9).key.length ge.kc, .int .i64 (uE 98 9).seq, .int .i64 (uE 98 9).kind, .slice ge.vA (uE 98 9).val.length ge.vc] 50 (0, 0))) := by rw [hwz]; exact heap_at _ _ rfl
 have HMEZ : Hid (Em wz 0 wz.heap.size (uE 98 9) ge) := (HME0.out.below HXZ.out (zNr _)).wide (zNr _) HXZ.out.size
 obtain ⟨eb, heb⟩ : ∃ eb, eb = w15.heap.size := ⟨_, rfl⟩
 rw [← heb] at HE9 ⊢
 have HX9Z : Hid (Ext w9 wz) := zEt HX12.out (zEt HX15.out HXZ.out)
 have HBW : Hid (Ext w wz) := zEt HX7.out (zEt HX9.out HX9Z.out)
 have HMDZ : Hid (Em wz 0 wz.heap.size (uE 97 3) gd) := (HM9.out.below HX9Z.out (zNr _)).wide (zNr _) HX9Z.out.size
 have HTZ := zHd (HTV9.out.ext HX9Z.out)
 have HKZ := zHd (HTK.out.ext (zEt HX15.out HXZ.out))
 have hdz := ext_heap HX9Z.out HD9.out
 have d0 := cell_of (v := .slice gd.kA (uE 97 3).key.length gd.kc) hdz (k := 0) rfl
 have d1 := cell_of (v := .int .i64 (uE 97 3).seq) hdz (k := 1) rfl
 have d2 := cell_of (v := .int .i64 (uE 97 3).kind) hdz (k := 2) rfl
 have d3 := cell_of (v := .slice gd.vA (uE 97 3).val.length gd.vc) hdz (k := 3) rfl
 have y0 := cell_of (v := .slice ge.kA (uE 98 9).key.length ge.kc) HE9.out (k := 0) rfl
 have y1 := cell_of (v := .int .i64 (uE 98 9).seq) HE9.out (k := 1) rfl
 have y2 := cell_of (v := .int .i64 (uE 98 9).kind) HE9.out (k := 2) rfl
 have y3 := cell_of (v := .slice ge.vA (uE 98 9).val.length ge.vc) HE9.out (k := 3) rfl
 have HMK : Hid (∀ u, (MarkR wz.heap.size).r wz.drew u → TV u g [uT] uT [] [] false ∧ TV u g2 [uT] uT [97, 0] [] false) := fun u hu => ⟨(HTZ.out.ext (Ext.drew wz)).mark hu, (HKZ.out.ext (Ext.drew wz)).mark hu⟩
 clear hwz heb hdz
 refine Fr.flow (R := MarkR wz.heap.size) (by kernel_rfl) [Is (.int .i64 2), Is (.int .i64 2), Is (.bool true), Is (.bool true), Is (.int .i64 2), Is (.int .i64 2), Is (.bool true), Is (.bool true), Is (.bool true), Is (.int .i64 10), Is (.int .i64 10), Is (.bool true), Is (.bool true), Is (.bool true), Is (.int .i64 0), Is (.int .i64 0), Is (.int .i64 0), Is (.int .i64 0), Is (.int .i64 0), Is (.int .i64 0), Is (.int .i64 0), Is (.int .i64 0), Is (.bool true), Is (.bool true), Is (.bool true), Is (.agg #[.slice gd.kA (uE 97 3).key.length gd.kc, .int .i64 (uE 97 3).seq, .int .i64 (uE 97 3).kind, .slice gd.vA (uE 97 3).val.length gd.vc]), LitF (uE 97 3), Is (.bool true), Is (.bool true), Is (.bool true), Is (.int .i64 6), Is (.int .i64 6), Is (.bool true), Is (.bool true), Is (.bool true), Is (.pointer (some ⟨g, 0, none⟩)), Is (.int .i64 3), Is (.bool true), Is (.bool true), Is (.bool true), Is (.pointer (some ⟨g, 0, none⟩)), Is (.int .i64 1), Is (.bool true), Is (.bool true), Is (.bool true), Is (.pointer (some ⟨g2, 0, none⟩)), Is (.int .i64 1), Is (.bool true), Is (.bool true), Is (.bool true), Is (.int .i64 6), Is (.int .i64 6), Is (.bool true), Is (.bool true), Is (.bool true), Is (.bool true), Is (.bool true), Is (.bool true), Is (.agg #[.slice ge.kA (uE 98 9).key.length ge.kc, .int .i64 (uE 98 9).seq, .int .i64 (uE 98 9).kind, .slice ge.vA (uE 98 9).val.length ge.vc]), LitF (uE 98 9), Is (.bool true), Is (.bool true), Is (.bool true), Is (.pointer (some ⟨g2, 0, none⟩)), BlF wz.heap.size [99], BlF wz.heap.size [99], ViewF [uT] uT [99] [] false, Is (.int .i64 0), Is (.bool true), Is (.bool true), Is (.bool true)] (by kernel_rfl) (by kernel_rfl) ?mono (fun f1 => ?obl) ?fin
 case mono =>
  simp only [List.forall_mem_cons, List.not_mem_nil, false_imp_iff, implies_true, and_true]
  exact ⟨.is _, .is _, .is _, .is _, .is _, .is _, .is _, .is _, .is _, .is _, .is _, .is _, .is _, .is _, .is _, .is _, .is _, .is _, .is _, .is _, .is _, .is _, .is _, .is _, .is _, .is _, .lit _ _, .is _, .is _, .is _, .is _, .is _, .is _, .is _, .is _, .is _, .is _, .is _, .is _, .is _, .is _, .is _, .is _, .is _, .is _, .is _, .is _, .is _, .is _, .is _, .is _, .is _, .is _, .is _, .is _, .is _, .is _, .is _, .is _, .lit _ _, .is _, .is _, .is _, .is _, .bl _ _ _, .bl _ _ _, .view _ _ _ _ _ _, .is _, .is _, .is _, .is _⟩
 case fin =>
  intro g1 u hu hg
  simp only [List.append_eq, List.cons_append, List.nil_append, puts, Act.put, zq]
  have eL : g1 70 = _ := hg 70 (by decide)
  rw [eL]
  have HU := zHd hu
  clear hu hg eL d0 d1 d2 d3 y0 y1 y2 y3
  go_wp2
  go_ret
  exact ⟨rfl, Below.trans HBW.out (((Chg.drew wz).trans (mark_chg HU.out)).below (fun i hi => zNt HBW.out.size hi) HBW.out.size)⟩
 case obl =>
  refine ⟨fun u hu hd => ?_, fun u hu hd => ?_, fun u hu hd => ?_, fun u hu hd => ?_, fun u hu hd => ?_, fun u hu hd => ?_, fun u hu hd => ?_, fun u hu hd => ?_, fun u hu hd => ?_, fun u hu hd => ?_, fun u hu hd => ?_, fun u hu hd => ?_, fun u hu hd => ?_, fun u hu hd => ?_, fun u hu hd => ?_, fun u hu hd => ?_, fun u hu hd => ?_, fun u hu hd => ?_, fun u hu hd => ?_, fun u hu hd => ?_, fun u hu hd => ?_, fun u hu hd => ?_, fun u hu hd => ?_, fun u hu hd => ?_, fun u hu hd => ?_, fun u hu hd => ?_, fun u hu hd => ?_, fun u hu hd => ?_, fun u hu hd => ?_, fun u hu hd => ?_, fun u hu hd => ?_, fun u hu hd => ?_, fun u hu hd => ?_, fun u hu hd => ?_, fun u hu hd => ?_, fun u hu hd => ?_, fun u hu hd => ?_, fun u hu hd => ?_, fun u hu hd => ?_, fun u hu hd => ?_, fun u hu hd => ?_, fun u hu hd => ?_, fun u hu hd => ?_, fun u hu hd => ?_, fun u hu hd => ?_, fun u hu hd => ?_, fun u hu hd => ?_, fun u hu hd => ?_, fun u hu hd => ?_, fun u hu hd => ?_, fun u hu hd => ?_, fun u hu hd => ?_, fun u hu hd => ?_, fun u hu hd => ?_, fun u hu hd => ?_, fun u hu hd => ?_, fun u hu hd => ?_, fun u hu hd => ?_, fun u hu hd => ?_, fun u hu hd => ?_, fun u hu hd => ?_, fun u hu hd => ?_, fun u hu hd => ?_, fun u hu hd => ?_, fun u hu hd => ?_, fun u hu hd => ?_, fun u hu hd => ?_, fun u hu hd => ?_, fun u hu hd => ?_, fun u hu hd => ?_, fun u hu hd => ?_, trivial⟩
  all_goals try simp only [Act.put, zq]
  · go_simp
    exact ⟨(MarkR wz.heap.size).refl _, rfl⟩
  · have e0 : f1 0 = _ := hd 0 (by kernel_rfl)
    go_simp
    refine (unum _ _).mono ?_
    rintro x9 w9 ⟨rfl, rfl⟩
    exact ⟨_, rfl, (MarkR wz.heap.size).refl _, rfl⟩
  · have e1 : f1 1 = _ := hd 1 (by kernel_rfl)
    go_simp
    exact ⟨(MarkR wz.heap.size).refl _, rfl⟩
  · have e2 : f1 2 = _ := hd 2 (by kernel_rfl)
    go_simp
    exact ⟨(MarkR wz.heap.size).refl _, rfl⟩
  · have e3 : f1 3 = _ := hd 3 (by kernel_rfl)
    go_simp
    exact ⟨(MarkR wz.heap.size).refl _, rfl⟩
  · have e3 : f1 3 = _ := hd 3 (by kernel_rfl)
    have e4 : f1 4 = _ := hd 4 (by kernel_rfl)
    go_simp
    refine (unum _ _).mono ?_
    rintro x9 w9 ⟨rfl, rfl⟩
    exact ⟨_, rfl, (MarkR wz.heap.size).refl _, rfl⟩
  · have e3 : f1 3 = _ := hd 3 (by kernel_rfl)
    have e5 : f1 5 = _ := hd 5 (by kernel_rfl)
    go_simp
    exact ⟨(MarkR wz.heap.size).refl _, rfl⟩
  · have e3 : f1 3 = _ := hd 3 (by kernel_rfl)
    have e6 : f1 6 = _ := hd 6 (by kernel_rfl)
    go_simp
    exact ⟨(MarkR wz.heap.size).refl _, rfl⟩
  · have e7 : f1 7 = _ := hd 7 (by kernel_rfl)
    go_simp
    exact ⟨(MarkR wz.heap.size).refl _, rfl⟩
  · have e8 : f1 8 = _ := hd 8 (by kernel_rfl)
    go_simp
    exact ⟨(MarkR wz.heap.size).refl _, rfl⟩
  · have e8 : f1 8 = _ := hd 8 (by kernel_rfl)
    have e9 : f1 9 = _ := hd 9 (by kernel_rfl)
    go_simp
    refine (unum _ _).mono ?_
    rintro x9 w9 ⟨rfl, rfl⟩
    exact ⟨_, rfl, (MarkR wz.heap.size).refl _, rfl⟩
  · have e8 : f1 8 = _ := hd 8 (by kernel_rfl)
    have e10 : f1 10 = _ := hd 10 (by kernel_rfl)
    go_simp
    exact ⟨(MarkR wz.heap.size).refl _, rfl⟩
  · have e8 : f1 8 = _ := hd 8 (by kernel_rfl)
    have e11 : f1 11 = _ := hd 11 (by kernel_rfl)
    go_simp
    exact ⟨(MarkR wz.heap.size).refl _, rfl⟩
  · have e12 : f1 12 = _ := hd 12 (by kernel_rfl)
    go_simp
    exact ⟨(MarkR wz.heap.size).refl _, rfl⟩
  · have e13 : f1 13 = _ := hd 13 (by kernel_rfl)
    go_simp
    exact ⟨(MarkR wz.heap.size).refl _, rfl⟩
  · have e13 : f1 13 = _ := hd 13 (by kernel_rfl)
    have e14 : f1 14 = _ := hd 14 (by kernel_rfl)
    go_simp
    refine (unum _ _).mono ?_
    rintro x9 w9 ⟨rfl, rfl⟩
    exact ⟨_, rfl, (MarkR wz.heap.size).refl _, rfl⟩
  · have e13 : f1 13 = _ := hd 13 (by kernel_rfl)
    go_simp
    exact ⟨(MarkR wz.heap.size).refl _, rfl⟩
  · have e13 : f1 13 = _ := hd 13 (by kernel_rfl)
    have e16 : f1 16 = _ := hd 16 (by kernel_rfl)
    go_simp
    refine (unum _ _).mono ?_
    rintro x9 w9 ⟨rfl, rfl⟩
    exact ⟨_, rfl, (MarkR wz.heap.size).refl _, rfl⟩
  · have e13 : f1 13 = _ := hd 13 (by kernel_rfl)
    have e15 : f1 15 = _ := hd 15 (by kernel_rfl)
    have e17 : f1 17 = _ := hd 17 (by kernel_rfl)
    go_simp
    exact ⟨(MarkR wz.heap.size).refl _, rfl⟩
  · have e13 : f1 13 = _ := hd 13 (by kernel_rfl)
    go_simp
    exact ⟨(MarkR wz.heap.size).refl _, rfl⟩
  · have e13 : f1 13 = _ := hd 13 (by kernel_rfl)
    have e19 : f1 19 = _ := hd 19 (by kernel_rfl)
    go_simp
    refine (unum _ _).mono ?_
    rintro x9 w9 ⟨rfl, rfl⟩
    exact ⟨_, rfl, (MarkR wz.heap.size).refl _, rfl⟩
  · have e13 : f1 13 = _ := hd 13 (by kernel_rfl)
    have e18 : f1 18 = _ := hd 18 (by kernel_rfl)
    have e20 : f1 20 = _ := hd 20 (by kernel_rfl)
    go_simp
    exact ⟨(MarkR wz.heap.size).refl _, rfl⟩
  · have e13 : f1 13 = _ := hd 13 (by kernel_rfl)
    have e21 : f1 21 = _ := hd 21 (by kernel_rfl)
    go_simp
    exact ⟨(MarkR wz.heap.size).refl _, rfl⟩
  · have e13 : f1 13 = _ := hd 13 (by kernel_rfl)
    have e22 : f1 22 = _ := hd 22 (by kernel_rfl)
    go_simp
    exact ⟨(MarkR wz.heap.size).refl _, rfl⟩
  · have e23 : f1 23 = _ := hd 23 (by kernel_rfl)
    go_simp
    exact ⟨(MarkR wz.heap.size).refl _, rfl⟩
  · have e24 : f1 24 = _ := hd 24 (by kernel_rfl)
    have hu2 := hu
    have q0 := mark_cell hu2 d0
    have q1 := mark_cell hu2 d1
    have q2 := mark_cell hu2 d2
    have q3 := mark_cell hu2 d3
    go_simp
    exact ⟨(MarkR wz.heap.size).refl _, rfl⟩
  · have e24 : f1 24 = _ := hd 24 (by kernel_rfl)
    go_simp
    refine (ulit_any (e := uE 97 3) (k := 97) (s := 3) rfl rfl (by decide) (by decide) (by decide) _).mono ?_
    rintro x9 w9 ⟨hx9, g9, rfl, hm9⟩
    exact ⟨_, rfl, mark_ext hx9, g9, rfl, hm9.wide (Nat.zero_le _) (zNr _)⟩
  · have e24 : f1 24 = _ := hd 24 (by kernel_rfl)
    have e25 : f1 25 = _ := hd 25 (by kernel_rfl)
    obtain ⟨g9, e26, hm9⟩ := (show LitF (uE 97 3) (f1 26) u from hd 26 (by kernel_rfl))
    have hm8 : Em u 0 u.heap.size (uE 97 3) gd := (mark_em hu (show Em wz.drew 0 wz.heap.size (uE 97 3) gd from HMDZ.out.below (Ext.drew wz) (zNr _))).wide (zNr _) hu.2.2.2.1
    have HR9 := zHd (rsame_any hm8 hm9 (zNr _) (zNr _))
    unfold Ent.at_ at e26 HR9
    clear hm8 hm9
    go_simp
    refine HR9.out.mono ?_
    rintro x9 w9 ⟨z, hz, rfl, hx9⟩
    obtain rfl : z = true := hz.2 rfl
    exact ⟨_, rfl, mark_ext hx9, rfl⟩
  · have e24 : f1 24 = _ := hd 24 (by kernel_rfl)
    have e27 : f1 27 = _ := hd 27 (by kernel_rfl)
    go_simp
    exact ⟨(MarkR wz.heap.size).refl _, rfl⟩
  · have e28 : f1 28 = _ := hd 28 (by kernel_rfl)
    go_simp
    exact ⟨(MarkR wz.heap.size).refl _, rfl⟩
  · have e29 : f1 29 = _ := hd 29 (by kernel_rfl)
    go_simp
    exact ⟨(MarkR wz.heap.size).refl _, rfl⟩
  · have e29 : f1 29 = _ := hd 29 (by kernel_rfl)
    have e30 : f1 30 = _ := hd 30 (by kernel_rfl)
    go_simp
    refine (unum _ _).mono ?_
    rintro x9 w9 ⟨rfl, rfl⟩
    exact ⟨_, rfl, (MarkR wz.heap.size).refl _, rfl⟩
  · have e29 : f1 29 = _ := hd 29 (by kernel_rfl)
    have e31 : f1 31 = _ := hd 31 (by kernel_rfl)
    go_simp
    exact ⟨(MarkR wz.heap.size).refl _, rfl⟩
  · have e29 : f1 29 = _ := hd 29 (by kernel_rfl)
    have e32 : f1 32 = _ := hd 32 (by kernel_rfl)
    go_simp
    exact ⟨(MarkR wz.heap.size).refl _, rfl⟩
  · have e33 : f1 33 = _ := hd 33 (by kernel_rfl)
    go_simp
    exact ⟨(MarkR wz.heap.size).refl _, rfl⟩
  · have e34 : f1 34 = _ := hd 34 (by kernel_rfl)
    go_simp
    exact ⟨(MarkR wz.heap.size).refl _, rfl⟩
  · have e34 : f1 34 = _ := hd 34 (by kernel_rfl)
    have e35 : f1 35 = _ := hd 35 (by kernel_rfl)
    have HL9 := zHd (tlen_any (HMK.out u hu).1.goes (by decide))
    have en9 : ((inV [] [] false uT).length : Int) = 3 := by decide
    rw [en9] at HL9
    clear en9
    go_simp
    refine HL9.out.mono ?_
    rintro x9 w9 ⟨rfl, hx9⟩
    exact ⟨_, rfl, mark_ext hx9, rfl⟩
  · have e34 : f1 34 = _ := hd 34 (by kernel_rfl)
    have e36 : f1 36 = _ := hd 36 (by kernel_rfl)
    go_simp
    exact ⟨(MarkR wz.heap.size).refl _, rfl⟩
  · have e34 : f1 34 = _ := hd 34 (by kernel_rfl)
    have e37 : f1 37 = _ := hd 37 (by kernel_rfl)
    go_simp
    exact ⟨(MarkR wz.heap.size).refl _, rfl⟩
  · have e38 : f1 38 = _ := hd 38 (by kernel_rfl)
    go_simp
    exact ⟨(MarkR wz.heap.size).refl _, rfl⟩
  · have e39 : f1 39 = _ := hd 39 (by kernel_rfl)
    go_simp
    exact ⟨(MarkR wz.heap.size).refl _, rfl⟩
  · have e39 : f1 39 = _ := hd 39 (by kernel_rfl)
    have e40 : f1 40 = _ := hd 40 (by kernel_rfl)
    have HL9 := zHd (tblocks_any (HMK.out u hu).1)
    have en9 : (([uT] : List (List Ent)).length : Int) = 1 := rfl
    rw [en9] at HL9
    clear en9
    go_simp
    refine HL9.out.mono ?_
    rintro x9 w9 ⟨rfl, rfl⟩
    exact ⟨_, rfl, (MarkR wz.heap.size).refl _, rfl⟩
  · have e39 : f1 39 = _ := hd 39 (by kernel_rfl)
    have e41 : f1 41 = _ := hd 41 (by kernel_rfl)
    go_simp
    exact ⟨(MarkR wz.heap.size).refl _, rfl⟩
  · have e39 : f1 39 = _ := hd 39 (by kernel_rfl)
    have e42 : f1 42 = _ := hd 42 (by kernel_rfl)
    go_simp
    exact ⟨(MarkR wz.heap.size).refl _, rfl⟩
  · have e43 : f1 43 = _ := hd 43 (by kernel_rfl)
    go_simp
    exact ⟨(MarkR wz.heap.size).refl _, rfl⟩
  · have e44 : f1 44 = _ := hd 44 (by kernel_rfl)
    go_simp
    exact ⟨(MarkR wz.heap.size).refl _, rfl⟩
  · have e44 : f1 44 = _ := hd 44 (by kernel_rfl)
    have e45 : f1 45 = _ := hd 45 (by kernel_rfl)
    have HL9 := zHd (tlen_any (HMK.out u hu).2.goes (by decide))
    have en9 : ((inV [97, 0] [] false uT).length : Int) = 1 := by decide
    rw [en9] at HL9
    clear en9
    go_simp
    refine HL9.out.mono ?_
    rintro x9 w9 ⟨rfl, hx9⟩
    exact ⟨_, rfl, mark_ext hx9, rfl⟩
  · have e44 : f1 44 = _ := hd 44 (by kernel_rfl)
    have e46 : f1 46 = _ := hd 46 (by kernel_rfl)
    go_simp
    exact ⟨(MarkR wz.heap.size).refl _, rfl⟩
  · have e44 : f1 44 = _ := hd 44 (by kernel_rfl)
    have e47 : f1 47 = _ := hd 47 (by kernel_rfl)
    go_simp
    exact ⟨(MarkR wz.heap.size).refl _, rfl⟩
  · have e48 : f1 48 = _ := hd 48 (by kernel_rfl)
    go_simp
    exact ⟨(MarkR wz.heap.size).refl _, rfl⟩
  · have e49 : f1 49 = _ := hd 49 (by kernel_rfl)
    go_simp
    exact ⟨(MarkR wz.heap.size).refl _, rfl⟩
  · have e49 : f1 49 = _ := hd 49 (by kernel_rfl)
    have e50 : f1 50 = _ := hd 50 (by kernel_rfl)
    go_simp
    refine (unum _ _).mono ?_
    rintro x9 w9 ⟨rfl, rfl⟩
    exact ⟨_, rfl, (MarkR wz.heap.size).refl _, rfl⟩
  · have e49 : f1 49 = _ := hd 49 (by kernel_rfl)
    have e51 : f1 51 = _ := hd 51 (by kernel_rfl)
    go_simp
    exact ⟨(MarkR wz.heap.size).refl _, rfl⟩
  · have e49 : f1 49 = _ := hd 49 (by kernel_rfl)
    have e52 : f1 52 = _ := hd 52 (by kernel_rfl)
    go_simp
    exact ⟨(MarkR wz.heap.size).refl _, rfl⟩
  · have e53 : f1 53 = _ := hd 53 (by kernel_rfl)
    go_simp
    exact ⟨(MarkR wz.heap.size).refl _, rfl⟩
  · have e54 : f1 54 = _ := hd 54 (by kernel_rfl)
    go_simp
    exact ⟨(MarkR wz.heap.size).refl _, rfl⟩
  · have e54 : f1 54 = _ := hd 54 (by kernel_rfl)
    have e55 : f1 55 = _ := hd 55 (by kernel_rfl)
    go_simp
    exact ⟨(MarkR wz.heap.size).refl _, rfl⟩
  · have e56 : f1 56 = _ := hd 56 (by kernel_rfl)
    go_simp
    exact ⟨(MarkR wz.heap.size).refl _, rfl⟩
  · have e57 : f1 57 = _ := hd 57 (by kernel_rfl)
    have hu2 := hu
    have q0 := mark_cell hu2 y0
    have q1 := mark_cell hu2 y1
    have q2 := mark_cell hu2 y2
    have q3 := mark_cell hu2 y3
    go_simp
    exact ⟨(MarkR wz.heap.size).refl _, rfl⟩
  · have e57 : f1 57 = _ := hd 57 (by kernel_rfl)
    go_simp
    refine (ulit_any (e := uE 98 9) (k := 98) (s := 9) rfl rfl (by decide) (by decide) (by decide) _).mono ?_
    rintro x9 w9 ⟨hx9, g9, rfl, hm9⟩
    exact ⟨_, rfl, mark_ext hx9, g9, rfl, hm9.wide (Nat.zero_le _) (zNr _)⟩
  · have e57 : f1 57 = _ := hd 57 (by kernel_rfl)
    have e58 : f1 58 = _ := hd 58 (by kernel_rfl)
    obtain ⟨g9, e59, hm9⟩ := (show LitF (uE 98 9) (f1 59) u from hd 59 (by kernel_rfl))
    have hm8 : Em u 0 u.heap.size (uE 98 9) ge := (mark_em hu (show Em wz.drew 0 wz.heap.size (uE 98 9) ge from HMEZ.out.below (Ext.drew wz) (zNr _))).wide (zNr _) hu.2.2.2.1
    have HR9 := zHd (rsame_any hm8 hm9 (zNr _) (zNr _))
    unfold Ent.at_ at e59 HR9
    clear hm8 hm9
    go_simp
    refine HR9.out.mono ?_
    rintro x9 w9 ⟨z, hz, rfl, hx9⟩
    obtain rfl : z = true := hz.2 rfl
    exact ⟨_, rfl, mark_ext hx9, rfl⟩
  · have e57 : f1 57 = _ := hd 57 (by kernel_rfl)
    have e60 : f1 60 = _ := hd 60 (by kernel_rfl)
    go_simp
    exact ⟨(MarkR wz.heap.size).refl _, rfl⟩
  · have e61 : f1 61 = _ := hd 61 (by kernel_rfl)
    go_simp
    exact ⟨(MarkR wz.heap.size).refl _, rfl⟩
  · have e62 : f1 62 = _ := hd 62 (by kernel_rfl)
    go_simp
    exact ⟨(MarkR wz.heap.size).refl _, rfl⟩
  · have e62 : f1 62 = _ := hd 62 (by kernel_rfl)
    go_simp
    exact ⟨mark_ext (ext_alloc _ _), _, (0, 0), rfl, hu.2.2.2.1, heap_at _ _ rfl⟩
  · have e62 : f1 62 = _ := hd 62 (by kernel_rfl)
    obtain ⟨b9, fz9, e64, hB9, hb9⟩ := (show BlF wz.heap.size [99] (f1 64) u from hd 64 (by kernel_rfl))
    have HB9 := zHd hb9
    have HBB9 := zHd hB9
    have hcv := conv_const (n := 1) (c := 1) hb9
    dsimp only [List.length_cons, List.length_nil] at e64
    clear hb9 hB9
    go_simp
    obtain ⟨fz8, h8⟩ := freeze_at (k := 1) HB9.out
    exact ⟨mark_freeze HB9.out HBB9.out, b9, fz8, rfl, HBB9.out, h8⟩
  · have e62 : f1 62 = _ := hd 62 (by kernel_rfl)
    have e63 : f1 63 = _ := hd 63 (by kernel_rfl)
    obtain ⟨b9, fz9, e65, hB9, hb9⟩ := (show BlF wz.heap.size [99] (f1 65) u from hd 65 (by kernel_rfl))
    have e63 : f1 63 = _ := hd 63 (by kernel_rfl)
    have HBS9 := zHd (bl_bs (l := [99]) (by simp) hb9)
    have HC9 := zHd (clip_any (e := false) (bA := none) (bc := 0) (b := []) (HMK.out u hu).2 HBS9.out (by decide) (Bs.nil _ _ _) (fun x hx => by cases hx) (by simp) (by simp))
    have HC8 : Hid (Calls Tryz.prog 33 #[.pointer (some ⟨g2, 0, none⟩), .slice (some ⟨b9, 0, none⟩) 1 1, .slice none 0 0, .bool false] u (ClipAns u [uT] uT [97, 0] [] [99] [] false false)) := HC9.out
    dsimp only [List.length_cons, List.length_nil] at e65
    clear hb9 hB9 HC9
    go_simp
    refine HC8.out.mono ?_
    rintro x9 w9 ⟨hx9, g9, rfl, htv9⟩
    exact ⟨_, rfl, mark_ext hx9, g9, rfl, htv9⟩
  · have e62 : f1 62 = _ := hd 62 (by kernel_rfl)
    obtain ⟨g9, e66, htv9⟩ := (show ViewF [uT] uT [99] [] false (f1 66) u from hd 66 (by kernel_rfl))
    have HL9 := zHd (tlen_any htv9.goes (by decide))
    have en9 : ((inV [99] [] false uT).length : Int) = 0 := by decide
    rw [en9] at HL9
    clear en9 htv9
    go_simp
    refine HL9.out.mono ?_
    rintro x9 w9 ⟨rfl, hx9⟩
    exact ⟨_, rfl, mark_ext hx9, rfl⟩
  · have e62 : f1 62 = _ := hd 62 (by kernel_rfl)
    have e67 : f1 67 = _ := hd 67 (by kernel_rfl)
    go_simp
    exact ⟨(MarkR wz.heap.size).refl _, rfl⟩
  · have e62 : f1 62 = _ := hd 62 (by kernel_rfl)
    have e68 : f1 68 = _ := hd 68 (by kernel_rfl)
    go_simp
    exact ⟨(MarkR wz.heap.size).refl _, rfl⟩
  · have e69 : f1 69 = _ := hd 69 (by kernel_rfl)
    go_simp
    exact ⟨(MarkR wz.heap.size).refl _, rfl⟩
end Go.Proofs.YtkdidghfcfcpfaaGreat
namespace Go.Proofs.YtkdidghfcfcpfaaGreat
open Go.ChangeShapes Go.WideShapes Go.ChangeAt Go.RowKit
theorem Own.block {B : Nat} {l : List Nat} {v : Value} {u : World} (h : Own B l v u) (h0 : 0 < l.length) : ∃ g c, v = .slice (some ⟨g, 0, none⟩) l.length c ∧ B ≤ g ∧ g < u.heap.size ∧ l.length ≤ c := by
 have h2 := h.2
 rcases h2 with ⟨hn, _⟩ | ⟨g, c, cur, hv, hb, hh, hn, _⟩
 · omega
 · refine ⟨g, c, hv, hb, ?_, hn⟩
   rcases Nat.lt_or_ge g u.heap.size with h | h
   · exact h
   · rw [Array.getElem?_eq_none h] at hh; cases hh
theorem Own.cell {B : Nat} {l : List Nat} {g n c : Nat} {u : World} (h : Own B l (.slice (some ⟨g, 0, none⟩) n c) u) {i : Nat} (hi : i < l.length) : u.cell? ⟨g, i, none⟩ = some (.int .u8 (l[i] : Int)) := by
 obtain ⟨A', c', e, _⟩ := h.bs
 injection e with _ e2 _
 subst e2
 have h' : u.ownsRow B 5 1 (.slice (some ⟨g, 0, none⟩) l.length c) l.length (bv l) := h
 rw [h'.cellAt i (by omega)]
 simp [bv, List.getElem?_eq_getElem hi]
theorem Own.free {B : Nat} {l : List Nat} {g n c : Nat} {u : World} (h : Own B l (.slice (some ⟨g, 0, none⟩) n c) u) (i : Nat) : u.frozen? ⟨g, i, none⟩ = false := by
 obtain ⟨A', c', e, _⟩ := h.bs
 injection e with _ e2 _
 subst e2
 have h' : u.ownsRow B 5 1 (.slice (some ⟨g, 0, none⟩) l.length c) l.length (bv l) := h
 exact h'.frozenAt i
theorem Own.set {B : Nat} {l : List Nat} {g n c : Nat} {u : World} (h : Own B l (.slice (some ⟨g, 0, none⟩) n c) u) (i x : Nat) : Own B (l.set i x) (.slice (some ⟨g, 0, none⟩) n c) (u.setCell ⟨g, i, none⟩ (.int .u8 (x : Int))) := by
 obtain ⟨A', c', e, _⟩ := h.bs
 injection e with _ e2 _
 subst e2
 have h' : u.ownsRow B 5 1 (.slice (some ⟨g, 0, none⟩) l.length c) l.length (bv l) := h
 have h1 := (h'.stored i (.int .u8 (x : Int))).1
 have e : (bv l).set i (.int .u8 (x : Int)) = bv (l.set i x) := by simp [bv, List.map_set]
 rw [e] at h1
 unfold Own
 rw [List.length_set]
 exact h1
end Go.Proofs.YtkdidghfcfcpfaaGreat
