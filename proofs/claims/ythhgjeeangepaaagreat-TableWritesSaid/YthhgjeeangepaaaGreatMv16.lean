import Derived.Test.YthhgjeeangepaaaGreatMv15
import Derived.Test.YthhgjeeangepaaaGreatMv4
import Derived.Test.YthhgjeeangepaaaGreatMv3
import Derived.Test.YthhgjeeangepaaaGreatMv0
namespace Go.Proofs.YthhgjeeangepaaaGreat
open Go.ChangeShapes Go.WideShapes Go.ChangeAt Go.RowKit Go.Lib Go.Joins
theorem uwrite0 (w : World) : Calls Tryz.prog 12 #[.slice none 0 0] w fun x w' => Ext w w' ∧ x = .returned (.tuple #[.slice none 0 0, .int .i64 2]) := by
  refine (twrite_any (L := []) (lo := 0) (hi := 0) (c := 0) ⟨Sl.nil _ _ _ _, fun p hp => by cases hp⟩ (Nat.zero_le _) (Nat.le_refl _) (by simp)).mono ?_
  rintro x w' ⟨hx, (⟨hm, _⟩ | ⟨_, rfl⟩)⟩
  · exact absurd hm uno0
  · exact ⟨hx, rfl⟩
theorem uwrite2 {w : World} {A : Option Addr} {g g' : Hd} (h : Es w 0 w.heap.size A [(uE 98 1, g), (uE 97 1, g')]) : Calls Tryz.prog 12 #[.slice A 2 2] w fun x w' => Ext w w' ∧ x = .returned (.tuple #[.slice none 0 0, .int .i64 2]) := by
  refine (twrite_any (c := 2) h (Nat.le_refl _) (Nat.le_refl _) (by simp)).mono ?_
  rintro x w' ⟨hx, (⟨hm, _⟩ | ⟨_, rfl⟩)⟩
  · exact absurd hm uno
  · exact ⟨hx, rfl⟩
theorem uwrite3 {w : World} {A : Option Addr} {g g' g2 : Hd} (h : Es w 0 w.heap.size A [(uE 97 5, g), (uE 97 3, g'), (uE 98 9, g2)]) : Calls Tryz.prog 12 #[.slice A 3 3] w fun x w' => Ext w w' ∧ ∃ B c, x = .returned (.tuple #[.slice B (tb [uT] uT).length c, .int .i64 0]) ∧ Own w.heap.size (tb [uT] uT) (.slice B (tb [uT] uT).length c) w' := by
  refine (twrite_any (c := 3) h (Nat.le_refl _) (Nat.le_refl _) (by simp)).mono ?_
  rintro x w' ⟨hx, (⟨_, C, B, c, hf, hc, rfl, ho⟩ | ⟨hno, _⟩)⟩
  · have hC : C = [uT] := ucut hc hf
    subst hC
    exact ⟨hx, B, c, rfl, ho⟩
  · exact absurd umay hno
theorem ugood : ∀ e ∈ uT, (∀ x ∈ e.key, x < 256) ∧ ∀ x ∈ e.val, x < 256 := by decide
theorem uopen {w : World} {lo hi c : Nat} {A : Option Addr} (hv : Bs w lo hi (.slice A (tb [uT] uT).length c) (tb [uT] uT)) (hhi : hi ≤ w.heap.size) : Calls Tryz.prog 17 #[.slice A (tb [uT] uT).length c] w fun x w' => Ext w w' ∧ ∃ g, x = .returned (.tuple #[.pointer (some ⟨g, 0, none⟩), .int .i64 0]) ∧ TV w' g [uT] uT [] [] false :=
  (topen_any hv hhi (utb_lt umay ucuts rfl ugood) ulen1).mono fun _ _ h => open_is umay ucuts rfl h
theorem uopen0 (w : World) : Calls Tryz.prog 17 #[.slice none 0 0] w fun x w' => Ext w w' ∧ x = .returned (.tuple #[.pointer none, .int .i64 10]) :=
  (topen_any (b := []) (Bs.nil w 0 0) (Nat.zero_le _) (by simp) (by simp)).mono fun _ _ h => open_not unot h
set_option maxRecDepth 100000 in
set_option maxHeartbeats 8000000 in
theorem uknown_any (w : World) : Calls Tryz.prog 10 #[] w fun e w' => e = .returned (.bool true) ∧ Below w.heap.size w w' := by
  go_enter Tryz.func10, Tryz.ntmps10
  go_wp2_with fail
  refine (uwrite0 w).mono ?_
  rintro x w1 ⟨hx1, rfl⟩
  have HX1 : Hid (Ext w w1) := hx1
  clear hx1
  go_wp2_with fail
  refine Calls.mono (ulit_any (e := (uE 98 1)) (k := 98) (s := 1) rfl rfl (by decide) (by decide) (by decide) w1) ?_
  rintro e p1 ⟨hx_p1, g_p1, rfl, hm_p1⟩
  have HX_p1 := Lib.hid hx_p1
  have HM_p1 := Lib.hid hm_p1
  clear hx_p1 hm_p1
  go_wp2_with fail
  refine Calls.mono (ulit_any (e := (uE 97 1)) (k := 97) (s := 1) rfl rfl (by decide) (by decide) (by decide) p1) ?_
  rintro e p2 ⟨hx_p2, g_p2, rfl, hm_p2⟩
  have HX_p2 := Lib.hid hx_p2
  have HM_p2 := Lib.hid hm_p2
  clear hx_p2 hm_p2
  obtain ⟨w2, hw_w2⟩ : ∃ w3, w3 = p2.alloc (.cells #[.slice g_p1.kA (uE 98 1).key.length g_p1.kc, .int .i64 (uE 98 1).seq, .int .i64 (uE 98 1).kind, .slice g_p1.vA (uE 98 1).val.length g_p1.vc, .slice g_p2.kA (uE 97 1).key.length g_p2.kc, .int .i64 (uE 97 1).seq, .int .i64 (uE 97 1).kind, .slice g_p2.vA (uE 97 1).val.length g_p2.vc] 55) := ⟨_, rfl⟩
  have HA_w2 : Hid (Ext p2 w2) := by rw [hw_w2]; exact ext_alloc _ _
  have HX_w2 : Hid (Ext w1 w2) := Ext.trans (Ext.trans (HX_p1.out) HX_p2.out) HA_w2.out
  have HWR : Hid (Es w2 0 w2.heap.size (some ⟨p2.heap.size, 0, none⟩) [((uE 98 1), g_p1), ((uE 97 1), g_p2)]) := by
    refine two_es (by rw [hw_w2]; exact heap_at _ _ rfl) ?_ ?_
    · exact (HM_p1.out.below (Ext.trans HX_p2.out HA_w2.out) (Nat.le_refl _)).wide (Nat.zero_le _) (Below.size (Ext.trans HX_p2.out HA_w2.out))
    · exact (HM_p2.out.below HA_w2.out (Nat.le_refl _)).wide (Nat.zero_le _) (Below.size HA_w2.out)
  have HWC := Lib.hid (uwrite2 HWR.out)
  rw [hw_w2] at HWC
  clear HWR
  unfold Ent.at_
  go_wp2_with fail
  refine HWC.out.mono ?_
  rw [← hw_w2]
  clear HWC hw_w2
  rintro x w3 ⟨hx3, rfl⟩
  have HX3 : Hid (Ext w w3) := Ext.trans HX1.out (Ext.trans HX_w2.out hx3)
  clear hx3 HX_p1 HX_p2 HM_p1 HM_p2 HA_w2 HX_w2
  go_wp2_with fail
  refine (uopen0 w3).mono ?_
  rintro x w4 ⟨hx4, rfl⟩
  have HX4 : Hid (Ext w w4) := Ext.trans HX3.out hx4
  clear hx4
  go_wp2_with fail
  refine Calls.mono (ulit_any (e := (uE 97 5)) (k := 97) (s := 5) rfl rfl (by decide) (by decide) (by decide) w4) ?_
  rintro e q1 ⟨hx_q1, g_q1, rfl, hm_q1⟩
  have HX_q1 := Lib.hid hx_q1
  have HM_q1 := Lib.hid hm_q1
  clear hx_q1 hm_q1
  go_wp2_with fail
  refine Calls.mono (ulit_any (e := (uE 97 3)) (k := 97) (s := 3) rfl rfl (by decide) (by decide) (by decide) q1) ?_
  rintro e q2 ⟨hx_q2, g_q2, rfl, hm_q2⟩
  have HX_q2 := Lib.hid hx_q2
  have HM_q2 := Lib.hid hm_q2
  clear hx_q2 hm_q2
  go_wp2_with fail
  refine Calls.mono (ulit_any (e := (uE 98 9)) (k := 98) (s := 9) rfl rfl (by decide) (by decide) (by decide) q2) ?_
  rintro e q3 ⟨hx_q3, g_q3, rfl, hm_q3⟩
  have HX_q3 := Lib.hid hx_q3
  have HM_q3 := Lib.hid hm_q3
  clear hx_q3 hm_q3
  obtain ⟨w5, hw_w5⟩ : ∃ w3, w3 = q3.alloc (.cells #[.slice g_q1.kA (uE 97 5).key.length g_q1.kc, .int .i64 (uE 97 5).seq, .int .i64 (uE 97 5).kind, .slice g_q1.vA (uE 97 5).val.length g_q1.vc, .slice g_q2.kA (uE 97 3).key.length g_q2.kc, .int .i64 (uE 97 3).seq, .int .i64 (uE 97 3).kind, .slice g_q2.vA (uE 97 3).val.length g_q2.vc, .slice g_q3.kA (uE 98 9).key.length g_q3.kc, .int .i64 (uE 98 9).seq, .int .i64 (uE 98 9).kind, .slice g_q3.vA (uE 98 9).val.length g_q3.vc] 55) := ⟨_, rfl⟩
  have HA_w5 : Hid (Ext q3 w5) := by rw [hw_w5]; exact ext_alloc _ _
  have HX_w5 : Hid (Ext w4 w5) := Ext.trans (Ext.trans (Ext.trans (HX_q1.out) HX_q2.out) HX_q3.out) HA_w5.out
  have HWR : Hid (Es w5 0 w5.heap.size (some ⟨q3.heap.size, 0, none⟩) [((uE 97 5), g_q1), ((uE 97 3), g_q2), ((uE 98 9), g_q3)]) := by
    refine three_es (by rw [hw_w5]; exact heap_at _ _ rfl) ?_ ?_ ?_
    · exact (HM_q1.out.below (Ext.trans HX_q2.out (Ext.trans HX_q3.out HA_w5.out)) (Nat.le_refl _)).wide (Nat.zero_le _) (Below.size (Ext.trans HX_q2.out (Ext.trans HX_q3.out HA_w5.out)))
    · exact (HM_q2.out.below (Ext.trans HX_q3.out HA_w5.out) (Nat.le_refl _)).wide (Nat.zero_le _) (Below.size (Ext.trans HX_q3.out HA_w5.out))
    · exact (HM_q3.out.below HA_w5.out (Nat.le_refl _)).wide (Nat.zero_le _) (Below.size HA_w5.out)
  have HWC := Lib.hid (uwrite3 HWR.out)
  rw [hw_w5] at HWC
  clear HWR
  unfold Ent.at_
  go_wp2_with fail
  refine HWC.out.mono ?_
  rw [← hw_w5]
  clear HWC hw_w5
  rintro x w6 ⟨hx6, WA, wc, rfl, hown⟩
  have HX6 : Hid (Ext w w6) := Ext.trans HX4.out (Ext.trans HX_w5.out hx6)
  have HOP := Lib.hid (uopen hown.bs (Nat.le_refl _))
  obtain ⟨n, hn⟩ : ∃ n, n = (tb [uT] uT).length := ⟨_, rfl⟩
  rw [← hn] at HOP ⊢
  clear hx6 hown hn HX_q1 HX_q2 HX_q3 HM_q1 HM_q2 HM_q3 HA_w5 HX_w5
  go_wp2_with fail
  refine HOP.out.mono ?_
  rintro x w7 ⟨hx7, g, rfl, htv⟩
  have HX7 : Hid (Ext w w7) := Ext.trans HX6.out hx7
  have HTV := Lib.hid htv
  clear hx7 htv HOP
  have cv1 : (convert 26 26 (.slice (some ⟨w7.heap.size, 0, none⟩) 1 1)).run Tryz.prog (w7.alloc (.cells #[.int .u8 97] 5)) = .ok (.slice (some ⟨w7.heap.size, 0, none⟩) 1 1) (w7.alloc (.cells #[.int .u8 97] 5 (1, 2))) := run_convert_bytes_const_at _ _ _ _ _ _ _ (rfl) Tryz.underlying26 Tryz.underlying5
  have hx9 := ext_alloc w7 (.cells #[.int .u8 97] 5 (1, 2))
  have HG := Lib.hid (tget_any (s := 4) (HTV.out.ext hx9) (bs_mark w7 [97] (by simp) (1, 2)) (by simp) (by decide) (by decide) (by decide))
  clear hx9
  go_wp2_with fail
  refine Calls.mono HG.out ?_
  intro x w8 hgt
  obtain ⟨hxg, hgt⟩ := get_is hgt
  have e9 : (inV [] [] false uT).find? (seenE [97] 4) = some (uE 97 3) := rfl
  rw [e9] at hgt
  obtain ⟨gd, rfl, hmd⟩ := hgt
  have HX8 : Hid (Ext w7 w8) := Ext.trans (ext_alloc _ _) hxg
  have HMD0 := Lib.hid hmd
  clear hmd hxg e9 cv1 HG
  unfold Ent.at_
  go_upto_region 7 with (fail)
  obtain ⟨w9, hw9⟩ : ∃ w9, w9 = w8.alloc (.cells #[.slice gd.kA (uE 97 3).key.length gd.kc, .int .i64 (uE 97 3).seq, .int .i64 (uE 97 3).kind, .slice gd.vA (uE 97 3).val.length gd.vc] 55) := ⟨_, rfl⟩
  rw [← hw9]
  have HX9 : Hid (Ext w7 w9) := by rw [hw9]; exact Ext.trans HX8.out (ext_alloc _ _)
  have HD9 : Hid (w9.heap[w8.heap.size]? = some (.cells #[.slice gd.kA (uE 97 3).key.length gd.kc, .int .i64 (uE 97 3).seq, .int .i64 (uE 97 3).kind, .slice gd.vA (uE 97 3).val.length gd.vc] 55 (0, 0))) := by rw [hw9]; exact heap_at _ _ rfl
  have HM9 : Hid (Em w9 0 w9.heap.size (uE 97 3) gd) := by have hxa : Ext w8 w9 := (by rw [hw9]; exact ext_alloc _ _); exact (HMD0.out.below hxa (Nat.le_refl _)).wide (Nat.le_refl _) hxa.size
  obtain ⟨db, hdb⟩ : ∃ db, db = w8.heap.size := ⟨_, rfl⟩
  rw [← hdb] at HD9 ⊢
  have HTV9 := Lib.hid (HTV.out.ext HX9.out)
  clear hw9 hdb HMD0 HX8
  have cv1 : (convert 26 26 (.slice (some ⟨w9.heap.size, 0, none⟩) 1 1)).run Tryz.prog (w9.alloc (.cells #[.int .u8 98] 5)) = .ok (.slice (some ⟨w9.heap.size, 0, none⟩) 1 1) (w9.alloc (.cells #[.int .u8 98] 5 (1, 2))) := run_convert_bytes_const_at _ _ _ _ _ _ _ (rfl) Tryz.underlying26 Tryz.underlying5
  have hx9 := ext_alloc w9 (.cells #[.int .u8 98] 5 (1, 2))
  have HG := Lib.hid (tget_any (s := 8) (HTV9.out.ext hx9) (bs_mark w9 [98] (by simp) (1, 2)) (by simp) (by decide) (by decide) (by decide))
  clear hx9
  go_wp2_with fail
  refine Calls.mono HG.out ?_
  intro x w10 hgt
  obtain ⟨hxg, hgt⟩ := get_is hgt
  have e9 : (inV [] [] false uT).find? (seenE [98] 8) = none := rfl
  rw [e9] at hgt
  obtain rfl := hgt
  have HX10 : Hid (Ext w9 w10) := Ext.trans (ext_alloc _ _) hxg
  clear hxg e9 cv1 HG
  unfold noE
  go_upto_region 8 with (fail)
  obtain ⟨w11, hw11⟩ : ∃ w11, w11 = w10.alloc (.cells #[.slice none 0 0, .int .i64 0, .int .i64 0, .slice none 0 0] 55) := ⟨_, rfl⟩
  rw [← hw11]
  have HX11 : Hid (Ext w9 w11) := by rw [hw11]; exact Ext.trans HX10.out (ext_alloc _ _)
  have HTV11 := Lib.hid (HTV9.out.ext HX11.out)
  clear hw11 HX10
  have cv1 : (convert 26 26 (.slice (some ⟨w11.heap.size, 0, none⟩) 2 2)).run Tryz.prog (w11.alloc (.cells #[.int .u8 97, .int .u8 0] 5)) = .ok (.slice (some ⟨w11.heap.size, 0, none⟩) 2 2) (w11.alloc (.cells #[.int .u8 97, .int .u8 0] 5 (2, 3))) := run_convert_bytes_const_at _ _ _ _ _ _ _ (rfl) Tryz.underlying26 Tryz.underlying5
  have hx9 := ext_alloc w11 (.cells #[.int .u8 97, .int .u8 0] 5 (2, 3))
  have HCL := Lib.hid (clip_any (e := false) (bA := none) (bc := 0) (b := []) (HTV11.out.ext hx9) ((bs_mark w11 [97, 0] (by simp) (2, 3)).wide (Nat.zero_le _) (by simp)) (by decide) (Bs.nil _ _ _) (fun x hx => by cases hx) (by simp) (by simp))
  have HCL2 : Hid (Calls Tryz.prog 40 #[.pointer (some ⟨g, 0, none⟩), .slice (some ⟨w11.heap.size, 0, none⟩) 2 2, .slice none 0 0, .bool false] (w11.alloc (.cells #[.int .u8 97, .int .u8 0] 5 (2, 3))) (ClipAns (w11.alloc (.cells #[.int .u8 97, .int .u8 0] 5 (2, 3))) [uT] uT [] [] [97, 0] [] false false)) := HCL.out
  clear hx9 HCL
  go_wp2_with fail
  refine HCL2.out.mono ?_
  rintro x w12 ⟨hx12, g2, rfl, htk⟩
  have htk2 : TV w12 g2 [uT] uT [97, 0] [] false := htk
  have HTK := Lib.hid htk2
  have HX12 : Hid (Ext w9 w12) := Ext.trans HX11.out (Ext.trans (ext_alloc _ _) hx12)
  clear hx12 htk htk2 cv1 HCL2
  have cv1 : (convert 26 26 (.slice (some ⟨w12.heap.size, 0, none⟩) 1 1)).run Tryz.prog (w12.alloc (.cells #[.int .u8 97] 5)) = .ok (.slice (some ⟨w12.heap.size, 0, none⟩) 1 1) (w12.alloc (.cells #[.int .u8 97] 5 (1, 2))) := run_convert_bytes_const_at _ _ _ _ _ _ _ (rfl) Tryz.underlying26 Tryz.underlying5
  have hx9 := ext_alloc w12 (.cells #[.int .u8 97] 5 (1, 2))
  have HG := Lib.hid (tget_any (s := 9) (HTK.out.ext hx9) (bs_mark w12 [97] (by simp) (1, 2)) (by simp) (by decide) (by decide) (by decide))
  clear hx9
  go_wp2_with fail
  refine Calls.mono HG.out ?_
  intro x w13 hgt
  obtain ⟨hxg, hgt⟩ := get_is hgt
  have e9 : (inV [97, 0] [] false uT).find? (seenE [97] 9) = none := rfl
  rw [e9] at hgt
  obtain rfl := hgt
  have HX13 : Hid (Ext w12 w13) := Ext.trans (ext_alloc _ _) hxg
  clear hxg e9 cv1 HG
  unfold noE
  go_upto_region 10 with (fail)
  obtain ⟨w14, hw14⟩ : ∃ w11, w11 = w13.alloc (.cells #[.slice none 0 0, .int .i64 0, .int .i64 0, .slice none 0 0] 55) := ⟨_, rfl⟩
  rw [← hw14]
  have HX14 : Hid (Ext w12 w14) := by rw [hw14]; exact Ext.trans HX13.out (ext_alloc _ _)
  have HTK14 := Lib.hid (HTK.out.ext HX14.out)
  have HFS := Lib.hid (tfst_any HTK14.out.goes)
  clear hw14 HX13
  go_wp2_with fail
  refine HFS.out.mono ?_
  rintro x w15 ⟨hx15, hfs⟩
  have e9 : (inV [97, 0] [] false uT).head? = some (uE 98 9) := rfl
  rw [e9] at hfs
  obtain ⟨ge, rfl, hme⟩ := hfs
  have HX15 : Hid (Ext w12 w15) := Ext.trans HX14.out hx15
  have HME0 := Lib.hid hme
  clear hx15 hme e9 HFS
  unfold Ent.at_
  go_upto_region 11 with (fail)
  obtain ⟨wz, hwz⟩ : ∃ wz, wz = w15.alloc (.cells #[.slice ge.kA (uE 98 9).key.length ge.kc, .int .i64 (uE 98 9).seq, .int .i64 (uE 98 9).kind, .slice ge.vA (uE 98 9).val.length ge.vc] 55) := ⟨_, rfl⟩
  rw [← hwz]
  have HXZ : Hid (Ext w15 wz) := by rw [hwz]; exact ext_alloc _ _
  have HE9 : Hid (wz.heap[w15.heap.size]? = some (.cells #[.slice ge.kA (uE 98 9).key.length ge.kc, .int .i64 (uE 98 9).seq, .int .i64 (uE 98 9).kind, .slice ge.vA (uE 98 9).val.length ge.vc] 55 (0, 0))) := by rw [hwz]; exact heap_at _ _ rfl
  have HMEZ : Hid (Em wz 0 wz.heap.size (uE 98 9) ge) := (HME0.out.below HXZ.out (Nat.le_refl _)).wide (Nat.le_refl _) HXZ.out.size
  obtain ⟨eb, heb⟩ : ∃ eb, eb = w15.heap.size := ⟨_, rfl⟩
  rw [← heb] at HE9 ⊢
  have HX9Z : Hid (Ext w9 wz) := Ext.trans HX12.out (Ext.trans HX15.out HXZ.out)
  have HBW : Hid (Ext w wz) := Ext.trans HX7.out (Ext.trans HX9.out HX9Z.out)
  have HMDZ : Hid (Em wz 0 wz.heap.size (uE 97 3) gd) := (HM9.out.below HX9Z.out (Nat.le_refl _)).wide (Nat.le_refl _) HX9Z.out.size
  have HTZ := Lib.hid (HTV9.out.ext HX9Z.out)
  have HKZ := Lib.hid (HTK.out.ext (Ext.trans HX15.out HXZ.out))
  have hdz := ext_heap HX9Z.out HD9.out
  have d0 := cell_of (v := .slice gd.kA (uE 97 3).key.length gd.kc) hdz (k := 0) rfl
  have d1 := cell_of (v := .int .i64 (uE 97 3).seq) hdz (k := 1) rfl
  have d2 := cell_of (v := .int .i64 (uE 97 3).kind) hdz (k := 2) rfl
  have d3 := cell_of (v := .slice gd.vA (uE 97 3).val.length gd.vc) hdz (k := 3) rfl
  have y0 := cell_of (v := .slice ge.kA (uE 98 9).key.length ge.kc) HE9.out (k := 0) rfl
  have y1 := cell_of (v := .int .i64 (uE 98 9).seq) HE9.out (k := 1) rfl
  have y2 := cell_of (v := .int .i64 (uE 98 9).kind) HE9.out (k := 2) rfl
  have y3 := cell_of (v := .slice ge.vA (uE 98 9).val.length ge.vc) HE9.out (k := 3) rfl
  have HMK : Hid (∀ u, (MarkR wz.heap.size).r wz.drew u → TV u g [uT] uT [] [] false ∧ TV u g2 [uT] uT [97, 0] [] false) := fun u hu => ⟨(HTZ.out.ext (Ext.drew wz)).mark hu, (HKZ.out.ext (Ext.drew wz)).mark hu⟩
  clear hwz heb hdz
  refine Fr.flow (R := MarkR wz.heap.size) (by kernel_rfl) [Is (.int .i64 2), Is (.int .i64 2), Is (.bool true), Is (.bool true), Is (.int .i64 2), Is (.int .i64 2), Is (.bool true), Is (.bool true), Is (.bool true), Is (.int .i64 10), Is (.int .i64 10), Is (.bool true), Is (.bool true), Is (.bool true), Is (.int .i64 0), Is (.int .i64 0), Is (.int .i64 0), Is (.int .i64 0), Is (.int .i64 0), Is (.int .i64 0), Is (.int .i64 0), Is (.int .i64 0), Is (.bool true), Is (.bool true), Is (.bool true), Is (.agg #[.slice gd.kA (uE 97 3).key.length gd.kc, .int .i64 (uE 97 3).seq, .int .i64 (uE 97 3).kind, .slice gd.vA (uE 97 3).val.length gd.vc]), LitF (uE 97 3), Is (.bool true), Is (.bool true), Is (.bool true), Is (.int .i64 6), Is (.int .i64 6), Is (.bool true), Is (.bool true), Is (.bool true), Is (.pointer (some ⟨g, 0, none⟩)), Is (.int .i64 3), Is (.bool true), Is (.bool true), Is (.bool true), Is (.pointer (some ⟨g, 0, none⟩)), Is (.int .i64 1), Is (.bool true), Is (.bool true), Is (.bool true), Is (.pointer (some ⟨g2, 0, none⟩)), Is (.int .i64 1), Is (.bool true), Is (.bool true), Is (.bool true), Is (.int .i64 6), Is (.int .i64 6), Is (.bool true), Is (.bool true), Is (.bool true), Is (.bool true), Is (.bool true), Is (.bool true), Is (.agg #[.slice ge.kA (uE 98 9).key.length ge.kc, .int .i64 (uE 98 9).seq, .int .i64 (uE 98 9).kind, .slice ge.vA (uE 98 9).val.length ge.vc]), LitF (uE 98 9), Is (.bool true), Is (.bool true), Is (.bool true), Is (.pointer (some ⟨g2, 0, none⟩)), BlF wz.heap.size [99], BlF wz.heap.size [99], ViewF [uT] uT [99] [] false, Is (.int .i64 0), Is (.bool true), Is (.bool true), Is (.bool true)] (by kernel_rfl) (by kernel_rfl) ?mono (fun f1 => ?obl) ?fin
  case mono =>
    simp only [List.forall_mem_cons, List.not_mem_nil, false_imp_iff, implies_true, and_true]
    exact ⟨.is _, .is _, .is _, .is _, .is _, .is _, .is _, .is _, .is _, .is _, .is _, .is _, .is _, .is _, .is _, .is _, .is _, .is _, .is _, .is _, .is _, .is _, .is _, .is _, .is _, .is _, .lit _ _, .is _, .is _, .is _, .is _, .is _, .is _, .is _, .is _, .is _, .is _, .is _, .is _, .is _, .is _, .is _, .is _, .is _, .is _, .is _, .is _, .is _, .is _, .is _, .is _, .is _, .is _, .is _, .is _, .is _, .is _, .is _, .is _, .lit _ _, .is _, .is _, .is _, .is _, .bl _ _ _, .bl _ _ _, .view _ _ _ _ _ _, .is _, .is _, .is _, .is _⟩
  case fin =>
    intro g1 u hu hg
    simp only [List.append_eq, List.cons_append, List.nil_append, puts, Act.put, zq1, zq2, zq3]
    have eL : g1 70 = .bool true := hg 70 (by decide)
    rw [eL]
    have HU := Lib.hid hu
    clear hu hg eL d0 d1 d2 d3 y0 y1 y2 y3
    go_wp2
    go_ret
    exact ⟨rfl, Below.trans HBW.out (((Chg.drew wz).trans (mark_chg HU.out)).below (fun i hi => Nat.le_trans HBW.out.size hi) HBW.out.size)⟩
  case obl =>
    refine ⟨fun u hu hd => ?_, ?_⟩
    · go_simp
      exact ⟨(MarkR wz.heap.size).refl _, rfl⟩
    refine ⟨fun u hu hd => ?_, ?_⟩
    · simp only [Act.put, zq1, zq2, zq3]
      have e0 : f1 0 = .int .i64 2 := hd 0 (by kernel_rfl)
      go_simp
      refine (unum _ _).mono ?_
      rintro x9 w9 ⟨rfl, rfl⟩
      exact ⟨_, rfl, (MarkR wz.heap.size).refl _, rfl⟩
    refine ⟨fun u hu hd => ?_, ?_⟩
    · simp only [Act.put, zq1, zq2, zq3]
      have e1 : f1 1 = .int .i64 2 := hd 1 (by kernel_rfl)
      go_simp
      exact ⟨(MarkR wz.heap.size).refl _, rfl⟩
    refine ⟨fun u hu hd => ?_, ?_⟩
    · simp only [Act.put, zq1, zq2, zq3]
      have e2 : f1 2 = .bool true := hd 2 (by kernel_rfl)
      go_simp
      exact ⟨(MarkR wz.heap.size).refl _, rfl⟩
    refine ⟨fun u hu hd => ?_, ?_⟩
    · simp only [Act.put, zq1, zq2, zq3]
      have e3 : f1 3 = .bool true := hd 3 (by kernel_rfl)
      go_simp
      exact ⟨(MarkR wz.heap.size).refl _, rfl⟩
    refine ⟨fun u hu hd => ?_, ?_⟩
    · simp only [Act.put, zq1, zq2, zq3]
      have e3 : f1 3 = .bool true := hd 3 (by kernel_rfl)
      have e4 : f1 4 = .int .i64 2 := hd 4 (by kernel_rfl)
      go_simp
      refine (unum _ _).mono ?_
      rintro x9 w9 ⟨rfl, rfl⟩
      exact ⟨_, rfl, (MarkR wz.heap.size).refl _, rfl⟩
    refine ⟨fun u hu hd => ?_, ?_⟩
    · simp only [Act.put, zq1, zq2, zq3]
      have e3 : f1 3 = .bool true := hd 3 (by kernel_rfl)
      have e5 : f1 5 = .int .i64 2 := hd 5 (by kernel_rfl)
      go_simp
      exact ⟨(MarkR wz.heap.size).refl _, rfl⟩
    refine ⟨fun u hu hd => ?_, ?_⟩
    · simp only [Act.put, zq1, zq2, zq3]
      have e3 : f1 3 = .bool true := hd 3 (by kernel_rfl)
      have e6 : f1 6 = .bool true := hd 6 (by kernel_rfl)
      go_simp
      exact ⟨(MarkR wz.heap.size).refl _, rfl⟩
    refine ⟨fun u hu hd => ?_, ?_⟩
    · simp only [Act.put, zq1, zq2, zq3]
      have e7 : f1 7 = .bool true := hd 7 (by kernel_rfl)
      go_simp
      exact ⟨(MarkR wz.heap.size).refl _, rfl⟩
    refine ⟨fun u hu hd => ?_, ?_⟩
    · simp only [Act.put, zq1, zq2, zq3]
      have e8 : f1 8 = .bool true := hd 8 (by kernel_rfl)
      go_simp
      exact ⟨(MarkR wz.heap.size).refl _, rfl⟩
    refine ⟨fun u hu hd => ?_, ?_⟩
    · simp only [Act.put, zq1, zq2, zq3]
      have e8 : f1 8 = .bool true := hd 8 (by kernel_rfl)
      have e9 : f1 9 = .int .i64 10 := hd 9 (by kernel_rfl)
      go_simp
      refine (unum _ _).mono ?_
      rintro x9 w9 ⟨rfl, rfl⟩
      exact ⟨_, rfl, (MarkR wz.heap.size).refl _, rfl⟩
    refine ⟨fun u hu hd => ?_, ?_⟩
    · simp only [Act.put, zq1, zq2, zq3]
      have e8 : f1 8 = .bool true := hd 8 (by kernel_rfl)
      have e10 : f1 10 = .int .i64 10 := hd 10 (by kernel_rfl)
      go_simp
      exact ⟨(MarkR wz.heap.size).refl _, rfl⟩
    refine ⟨fun u hu hd => ?_, ?_⟩
    · simp only [Act.put, zq1, zq2, zq3]
      have e8 : f1 8 = .bool true := hd 8 (by kernel_rfl)
      have e11 : f1 11 = .bool true := hd 11 (by kernel_rfl)
      go_simp
      exact ⟨(MarkR wz.heap.size).refl _, rfl⟩
    refine ⟨fun u hu hd => ?_, ?_⟩
    · simp only [Act.put, zq1, zq2, zq3]
      have e12 : f1 12 = .bool true := hd 12 (by kernel_rfl)
      go_simp
      exact ⟨(MarkR wz.heap.size).refl _, rfl⟩
    refine ⟨fun u hu hd => ?_, ?_⟩
    · simp only [Act.put, zq1, zq2, zq3]
      have e13 : f1 13 = .bool true := hd 13 (by kernel_rfl)
      go_simp
      exact ⟨(MarkR wz.heap.size).refl _, rfl⟩
    refine ⟨fun u hu hd => ?_, ?_⟩
    · simp only [Act.put, zq1, zq2, zq3]
      have e13 : f1 13 = .bool true := hd 13 (by kernel_rfl)
      have e14 : f1 14 = .int .i64 0 := hd 14 (by kernel_rfl)
      go_simp
      refine (unum _ _).mono ?_
      rintro x9 w9 ⟨rfl, rfl⟩
      exact ⟨_, rfl, (MarkR wz.heap.size).refl _, rfl⟩
    refine ⟨fun u hu hd => ?_, ?_⟩
    · simp only [Act.put, zq1, zq2, zq3]
      have e13 : f1 13 = .bool true := hd 13 (by kernel_rfl)
      go_simp
      exact ⟨(MarkR wz.heap.size).refl _, rfl⟩
    refine ⟨fun u hu hd => ?_, ?_⟩
    · simp only [Act.put, zq1, zq2, zq3]
      have e13 : f1 13 = .bool true := hd 13 (by kernel_rfl)
      have e16 : f1 16 = .int .i64 0 := hd 16 (by kernel_rfl)
      go_simp
      refine (unum _ _).mono ?_
      rintro x9 w9 ⟨rfl, rfl⟩
      exact ⟨_, rfl, (MarkR wz.heap.size).refl _, rfl⟩
    refine ⟨fun u hu hd => ?_, ?_⟩
    · simp only [Act.put, zq1, zq2, zq3]
      have e13 : f1 13 = .bool true := hd 13 (by kernel_rfl)
      have e15 : f1 15 = .int .i64 0 := hd 15 (by kernel_rfl)
      have e17 : f1 17 = .int .i64 0 := hd 17 (by kernel_rfl)
      go_simp
      exact ⟨(MarkR wz.heap.size).refl _, rfl⟩
    refine ⟨fun u hu hd => ?_, ?_⟩
    · simp only [Act.put, zq1, zq2, zq3]
      have e13 : f1 13 = .bool true := hd 13 (by kernel_rfl)
      go_simp
      exact ⟨(MarkR wz.heap.size).refl _, rfl⟩
    refine ⟨fun u hu hd => ?_, ?_⟩
    · simp only [Act.put, zq1, zq2, zq3]
      have e13 : f1 13 = .bool true := hd 13 (by kernel_rfl)
      have e19 : f1 19 = .int .i64 0 := hd 19 (by kernel_rfl)
      go_simp
      refine (unum _ _).mono ?_
      rintro x9 w9 ⟨rfl, rfl⟩
      exact ⟨_, rfl, (MarkR wz.heap.size).refl _, rfl⟩
    refine ⟨fun u hu hd => ?_, ?_⟩
    · simp only [Act.put, zq1, zq2, zq3]
      have e13 : f1 13 = .bool true := hd 13 (by kernel_rfl)
      have e18 : f1 18 = .int .i64 0 := hd 18 (by kernel_rfl)
      have e20 : f1 20 = .int .i64 0 := hd 20 (by kernel_rfl)
      go_simp
      exact ⟨(MarkR wz.heap.size).refl _, rfl⟩
    refine ⟨fun u hu hd => ?_, ?_⟩
    · simp only [Act.put, zq1, zq2, zq3]
      have e13 : f1 13 = .bool true := hd 13 (by kernel_rfl)
      have e21 : f1 21 = .int .i64 0 := hd 21 (by kernel_rfl)
      go_simp
      exact ⟨(MarkR wz.heap.size).refl _, rfl⟩
    refine ⟨fun u hu hd => ?_, ?_⟩
    · simp only [Act.put, zq1, zq2, zq3]
      have e13 : f1 13 = .bool true := hd 13 (by kernel_rfl)
      have e22 : f1 22 = .bool true := hd 22 (by kernel_rfl)
      go_simp
      exact ⟨(MarkR wz.heap.size).refl _, rfl⟩
    refine ⟨fun u hu hd => ?_, ?_⟩
    · simp only [Act.put, zq1, zq2, zq3]
      have e23 : f1 23 = .bool true := hd 23 (by kernel_rfl)
      go_simp
      exact ⟨(MarkR wz.heap.size).refl _, rfl⟩
    refine ⟨fun u hu hd => ?_, ?_⟩
    · simp only [Act.put, zq1, zq2, zq3]
      have e24 : f1 24 = .bool true := hd 24 (by kernel_rfl)
      have hu2 := hu
      have q0 := mark_cell hu2 d0
      have q1 := mark_cell hu2 d1
      have q2 := mark_cell hu2 d2
      have q3 := mark_cell hu2 d3
      go_simp
      exact ⟨(MarkR wz.heap.size).refl _, rfl⟩
    refine ⟨fun u hu hd => ?_, ?_⟩
    · simp only [Act.put, zq1, zq2, zq3]
      have e24 : f1 24 = .bool true := hd 24 (by kernel_rfl)
      go_simp
      refine (ulit_any (e := uE 97 3) (k := 97) (s := 3) rfl rfl (by decide) (by decide) (by decide) _).mono ?_
      rintro x9 w9 ⟨hx9, g9, rfl, hm9⟩
      exact ⟨_, rfl, mark_ext hx9, g9, rfl, hm9.wide (Nat.zero_le _) (Nat.le_refl _)⟩
    refine ⟨fun u hu hd => ?_, ?_⟩
    · simp only [Act.put, zq1, zq2, zq3]
      have e24 : f1 24 = .bool true := hd 24 (by kernel_rfl)
      have e25 : f1 25 = .agg #[.slice gd.kA (uE 97 3).key.length gd.kc, .int .i64 (uE 97 3).seq, .int .i64 (uE 97 3).kind, .slice gd.vA (uE 97 3).val.length gd.vc] := hd 25 (by kernel_rfl)
      obtain ⟨g9, e26, hm9⟩ := (show LitF (uE 97 3) (f1 26) u from hd 26 (by kernel_rfl))
      have hm8 : Em u 0 u.heap.size (uE 97 3) gd := (mark_em hu (show Em wz.drew 0 wz.heap.size (uE 97 3) gd from HMDZ.out.below (Ext.drew wz) (Nat.le_refl _))).wide (Nat.le_refl _) hu.2.2.2.1
      have HR9 := Lib.hid (rsame_any hm8 hm9 (Nat.le_refl _) (Nat.le_refl _))
      unfold Ent.at_ at e26 HR9
      clear hm8 hm9
      go_simp
      refine HR9.out.mono ?_
      rintro x9 w9 ⟨z, hz, rfl, hx9⟩
      obtain rfl : z = true := hz.2 rfl
      exact ⟨_, rfl, mark_ext hx9, rfl⟩
    refine ⟨fun u hu hd => ?_, ?_⟩
    · simp only [Act.put, zq1, zq2, zq3]
      have e24 : f1 24 = .bool true := hd 24 (by kernel_rfl)
      have e27 : f1 27 = .bool true := hd 27 (by kernel_rfl)
      go_simp
      exact ⟨(MarkR wz.heap.size).refl _, rfl⟩
    refine ⟨fun u hu hd => ?_, ?_⟩
    · simp only [Act.put, zq1, zq2, zq3]
      have e28 : f1 28 = .bool true := hd 28 (by kernel_rfl)
      go_simp
      exact ⟨(MarkR wz.heap.size).refl _, rfl⟩
    refine ⟨fun u hu hd => ?_, ?_⟩
    · simp only [Act.put, zq1, zq2, zq3]
      have e29 : f1 29 = .bool true := hd 29 (by kernel_rfl)
      go_simp
      exact ⟨(MarkR wz.heap.size).refl _, rfl⟩
    refine ⟨fun u hu hd => ?_, ?_⟩
    · simp only [Act.put, zq1, zq2, zq3]
      have e29 : f1 29 = .bool true := hd 29 (by kernel_rfl)
      have e30 : f1 30 = .int .i64 6 := hd 30 (by kernel_rfl)
      go_simp
      refine (unum _ _).mono ?_
      rintro x9 w9 ⟨rfl, rfl⟩
      exact ⟨_, rfl, (MarkR wz.heap.size).refl _, rfl⟩
    refine ⟨fun u hu hd => ?_, ?_⟩
    · simp only [Act.put, zq1, zq2, zq3]
      have e29 : f1 29 = .bool true := hd 29 (by kernel_rfl)
      have e31 : f1 31 = .int .i64 6 := hd 31 (by kernel_rfl)
      go_simp
      exact ⟨(MarkR wz.heap.size).refl _, rfl⟩
    refine ⟨fun u hu hd => ?_, ?_⟩
    · simp only [Act.put, zq1, zq2, zq3]
      have e29 : f1 29 = .bool true := hd 29 (by kernel_rfl)
      have e32 : f1 32 = .bool true := hd 32 (by kernel_rfl)
      go_simp
      exact ⟨(MarkR wz.heap.size).refl _, rfl⟩
    refine ⟨fun u hu hd => ?_, ?_⟩
    · simp only [Act.put, zq1, zq2, zq3]
      have e33 : f1 33 = .bool true := hd 33 (by kernel_rfl)
      go_simp
      exact ⟨(MarkR wz.heap.size).refl _, rfl⟩
    refine ⟨fun u hu hd => ?_, ?_⟩
    · simp only [Act.put, zq1, zq2, zq3]
      have e34 : f1 34 = .bool true := hd 34 (by kernel_rfl)
      go_simp
      exact ⟨(MarkR wz.heap.size).refl _, rfl⟩
    refine ⟨fun u hu hd => ?_, ?_⟩
    · simp only [Act.put, zq1, zq2, zq3]
      have e34 : f1 34 = .bool true := hd 34 (by kernel_rfl)
      have e35 : f1 35 = .pointer (some ⟨g, 0, none⟩) := hd 35 (by kernel_rfl)
      have HL9 := Lib.hid (tlen_any (HMK.out u hu).1.goes (by decide))
      have en9 : ((inV [] [] false uT).length : Int) = 3 := by decide
      rw [en9] at HL9
      clear en9
      go_simp
      refine HL9.out.mono ?_
      rintro x9 w9 ⟨rfl, hx9⟩
      exact ⟨_, rfl, mark_ext hx9, rfl⟩
    refine ⟨fun u hu hd => ?_, ?_⟩
    · simp only [Act.put, zq1, zq2, zq3]
      have e34 : f1 34 = .bool true := hd 34 (by kernel_rfl)
      have e36 : f1 36 = .int .i64 3 := hd 36 (by kernel_rfl)
      go_simp
      exact ⟨(MarkR wz.heap.size).refl _, rfl⟩
    refine ⟨fun u hu hd => ?_, ?_⟩
    · simp only [Act.put, zq1, zq2, zq3]
      have e34 : f1 34 = .bool true := hd 34 (by kernel_rfl)
      have e37 : f1 37 = .bool true := hd 37 (by kernel_rfl)
      go_simp
      exact ⟨(MarkR wz.heap.size).refl _, rfl⟩
    refine ⟨fun u hu hd => ?_, ?_⟩
    · simp only [Act.put, zq1, zq2, zq3]
      have e38 : f1 38 = .bool true := hd 38 (by kernel_rfl)
      go_simp
      exact ⟨(MarkR wz.heap.size).refl _, rfl⟩
    refine ⟨fun u hu hd => ?_, ?_⟩
    · simp only [Act.put, zq1, zq2, zq3]
      have e39 : f1 39 = .bool true := hd 39 (by kernel_rfl)
      go_simp
      exact ⟨(MarkR wz.heap.size).refl _, rfl⟩
    refine ⟨fun u hu hd => ?_, ?_⟩
    · simp only [Act.put, zq1, zq2, zq3]
      have e39 : f1 39 = .bool true := hd 39 (by kernel_rfl)
      have e40 : f1 40 = .pointer (some ⟨g, 0, none⟩) := hd 40 (by kernel_rfl)
      have HL9 := Lib.hid (tblocks_any (HMK.out u hu).1)
      have en9 : (([uT] : List (List Ent)).length : Int) = 1 := rfl
      rw [en9] at HL9
      clear en9
      go_simp
      refine HL9.out.mono ?_
      rintro x9 w9 ⟨rfl, rfl⟩
      exact ⟨_, rfl, (MarkR wz.heap.size).refl _, rfl⟩
    refine ⟨fun u hu hd => ?_, ?_⟩
    · simp only [Act.put, zq1, zq2, zq3]
      have e39 : f1 39 = .bool true := hd 39 (by kernel_rfl)
      have e41 : f1 41 = .int .i64 1 := hd 41 (by kernel_rfl)
      go_simp
      exact ⟨(MarkR wz.heap.size).refl _, rfl⟩
    refine ⟨fun u hu hd => ?_, ?_⟩
    · simp only [Act.put, zq1, zq2, zq3]
      have e39 : f1 39 = .bool true := hd 39 (by kernel_rfl)
      have e42 : f1 42 = .bool true := hd 42 (by kernel_rfl)
      go_simp
      exact ⟨(MarkR wz.heap.size).refl _, rfl⟩
    refine ⟨fun u hu hd => ?_, ?_⟩
    · simp only [Act.put, zq1, zq2, zq3]
      have e43 : f1 43 = .bool true := hd 43 (by kernel_rfl)
      go_simp
      exact ⟨(MarkR wz.heap.size).refl _, rfl⟩
    refine ⟨fun u hu hd => ?_, ?_⟩
    · simp only [Act.put, zq1, zq2, zq3]
      have e44 : f1 44 = .bool true := hd 44 (by kernel_rfl)
      go_simp
      exact ⟨(MarkR wz.heap.size).refl _, rfl⟩
    refine ⟨fun u hu hd => ?_, ?_⟩
    · simp only [Act.put, zq1, zq2, zq3]
      have e44 : f1 44 = .bool true := hd 44 (by kernel_rfl)
      have e45 : f1 45 = .pointer (some ⟨g2, 0, none⟩) := hd 45 (by kernel_rfl)
      have HL9 := Lib.hid (tlen_any (HMK.out u hu).2.goes (by decide))
      have en9 : ((inV [97, 0] [] false uT).length : Int) = 1 := by decide
      rw [en9] at HL9
      clear en9
      go_simp
      refine HL9.out.mono ?_
      rintro x9 w9 ⟨rfl, hx9⟩
      exact ⟨_, rfl, mark_ext hx9, rfl⟩
    refine ⟨fun u hu hd => ?_, ?_⟩
    · simp only [Act.put, zq1, zq2, zq3]
      have e44 : f1 44 = .bool true := hd 44 (by kernel_rfl)
      have e46 : f1 46 = .int .i64 1 := hd 46 (by kernel_rfl)
      go_simp
      exact ⟨(MarkR wz.heap.size).refl _, rfl⟩
    refine ⟨fun u hu hd => ?_, ?_⟩
    · simp only [Act.put, zq1, zq2, zq3]
      have e44 : f1 44 = .bool true := hd 44 (by kernel_rfl)
      have e47 : f1 47 = .bool true := hd 47 (by kernel_rfl)
      go_simp
      exact ⟨(MarkR wz.heap.size).refl _, rfl⟩
    refine ⟨fun u hu hd => ?_, ?_⟩
    · simp only [Act.put, zq1, zq2, zq3]
      have e48 : f1 48 = .bool true := hd 48 (by kernel_rfl)
      go_simp
      exact ⟨(MarkR wz.heap.size).refl _, rfl⟩
    refine ⟨fun u hu hd => ?_, ?_⟩
    · simp only [Act.put, zq1, zq2, zq3]
      have e49 : f1 49 = .bool true := hd 49 (by kernel_rfl)
      go_simp
      exact ⟨(MarkR wz.heap.size).refl _, rfl⟩
    refine ⟨fun u hu hd => ?_, ?_⟩
    · simp only [Act.put, zq1, zq2, zq3]
      have e49 : f1 49 = .bool true := hd 49 (by kernel_rfl)
      have e50 : f1 50 = .int .i64 6 := hd 50 (by kernel_rfl)
      go_simp
      refine (unum _ _).mono ?_
      rintro x9 w9 ⟨rfl, rfl⟩
      exact ⟨_, rfl, (MarkR wz.heap.size).refl _, rfl⟩
    refine ⟨fun u hu hd => ?_, ?_⟩
    · simp only [Act.put, zq1, zq2, zq3]
      have e49 : f1 49 = .bool true := hd 49 (by kernel_rfl)
      have e51 : f1 51 = .int .i64 6 := hd 51 (by kernel_rfl)
      go_simp
      exact ⟨(MarkR wz.heap.size).refl _, rfl⟩
    refine ⟨fun u hu hd => ?_, ?_⟩
    · simp only [Act.put, zq1, zq2, zq3]
      have e49 : f1 49 = .bool true := hd 49 (by kernel_rfl)
      have e52 : f1 52 = .bool true := hd 52 (by kernel_rfl)
      go_simp
      exact ⟨(MarkR wz.heap.size).refl _, rfl⟩
    refine ⟨fun u hu hd => ?_, ?_⟩
    · simp only [Act.put, zq1, zq2, zq3]
      have e53 : f1 53 = .bool true := hd 53 (by kernel_rfl)
      go_simp
      exact ⟨(MarkR wz.heap.size).refl _, rfl⟩
    refine ⟨fun u hu hd => ?_, ?_⟩
    · simp only [Act.put, zq1, zq2, zq3]
      have e54 : f1 54 = .bool true := hd 54 (by kernel_rfl)
      go_simp
      exact ⟨(MarkR wz.heap.size).refl _, rfl⟩
    refine ⟨fun u hu hd => ?_, ?_⟩
    · simp only [Act.put, zq1, zq2, zq3]
      have e54 : f1 54 = .bool true := hd 54 (by kernel_rfl)
      have e55 : f1 55 = .bool true := hd 55 (by kernel_rfl)
      go_simp
      exact ⟨(MarkR wz.heap.size).refl _, rfl⟩
    refine ⟨fun u hu hd => ?_, ?_⟩
    · simp only [Act.put, zq1, zq2, zq3]
      have e56 : f1 56 = .bool true := hd 56 (by kernel_rfl)
      go_simp
      exact ⟨(MarkR wz.heap.size).refl _, rfl⟩
    refine ⟨fun u hu hd => ?_, ?_⟩
    · simp only [Act.put, zq1, zq2, zq3]
      have e57 : f1 57 = .bool true := hd 57 (by kernel_rfl)
      have hu2 := hu
      have q0 := mark_cell hu2 y0
      have q1 := mark_cell hu2 y1
      have q2 := mark_cell hu2 y2
      have q3 := mark_cell hu2 y3
      go_simp
      exact ⟨(MarkR wz.heap.size).refl _, rfl⟩
    refine ⟨fun u hu hd => ?_, ?_⟩
    · simp only [Act.put, zq1, zq2, zq3]
      have e57 : f1 57 = .bool true := hd 57 (by kernel_rfl)
      go_simp
      refine (ulit_any (e := uE 98 9) (k := 98) (s := 9) rfl rfl (by decide) (by decide) (by decide) _).mono ?_
      rintro x9 w9 ⟨hx9, g9, rfl, hm9⟩
      exact ⟨_, rfl, mark_ext hx9, g9, rfl, hm9.wide (Nat.zero_le _) (Nat.le_refl _)⟩
    refine ⟨fun u hu hd => ?_, ?_⟩
    · simp only [Act.put, zq1, zq2, zq3]
      have e57 : f1 57 = .bool true := hd 57 (by kernel_rfl)
      have e58 : f1 58 = .agg #[.slice ge.kA (uE 98 9).key.length ge.kc, .int .i64 (uE 98 9).seq, .int .i64 (uE 98 9).kind, .slice ge.vA (uE 98 9).val.length ge.vc] := hd 58 (by kernel_rfl)
      obtain ⟨g9, e59, hm9⟩ := (show LitF (uE 98 9) (f1 59) u from hd 59 (by kernel_rfl))
      have hm8 : Em u 0 u.heap.size (uE 98 9) ge := (mark_em hu (show Em wz.drew 0 wz.heap.size (uE 98 9) ge from HMEZ.out.below (Ext.drew wz) (Nat.le_refl _))).wide (Nat.le_refl _) hu.2.2.2.1
      have HR9 := Lib.hid (rsame_any hm8 hm9 (Nat.le_refl _) (Nat.le_refl _))
      unfold Ent.at_ at e59 HR9
      clear hm8 hm9
      go_simp
      refine HR9.out.mono ?_
      rintro x9 w9 ⟨z, hz, rfl, hx9⟩
      obtain rfl : z = true := hz.2 rfl
      exact ⟨_, rfl, mark_ext hx9, rfl⟩
    refine ⟨fun u hu hd => ?_, ?_⟩
    · simp only [Act.put, zq1, zq2, zq3]
      have e57 : f1 57 = .bool true := hd 57 (by kernel_rfl)
      have e60 : f1 60 = .bool true := hd 60 (by kernel_rfl)
      go_simp
      exact ⟨(MarkR wz.heap.size).refl _, rfl⟩
    refine ⟨fun u hu hd => ?_, ?_⟩
    · simp only [Act.put, zq1, zq2, zq3]
      have e61 : f1 61 = .bool true := hd 61 (by kernel_rfl)
      go_simp
      exact ⟨(MarkR wz.heap.size).refl _, rfl⟩
    refine ⟨fun u hu hd => ?_, ?_⟩
    · simp only [Act.put, zq1, zq2, zq3]
      have e62 : f1 62 = .bool true := hd 62 (by kernel_rfl)
      go_simp
      exact ⟨(MarkR wz.heap.size).refl _, rfl⟩
    refine ⟨fun u hu hd => ?_, ?_⟩
    · simp only [Act.put, zq1, zq2, zq3]
      have e62 : f1 62 = .bool true := hd 62 (by kernel_rfl)
      go_simp
      exact ⟨mark_ext (ext_alloc _ _), _, (0, 0), rfl, hu.2.2.2.1, heap_at _ _ rfl⟩
    refine ⟨fun u hu hd => ?_, ?_⟩
    · simp only [Act.put, zq1, zq2, zq3]
      have e62 : f1 62 = .bool true := hd 62 (by kernel_rfl)
      obtain ⟨b9, fz9, e64, hB9, hb9⟩ := (show BlF wz.heap.size [99] (f1 64) u from hd 64 (by kernel_rfl))
      have HB9 := Lib.hid hb9
      have HBB9 := Lib.hid hB9
      have hcv := conv_const (n := 1) (c := 1) hb9
      dsimp only [List.length_cons, List.length_nil] at e64
      clear hb9 hB9
      go_simp
      obtain ⟨fz8, h8⟩ := freeze_at (k := 1) HB9.out
      exact ⟨mark_freeze HB9.out HBB9.out, b9, fz8, rfl, HBB9.out, h8⟩
    refine ⟨fun u hu hd => ?_, ?_⟩
    · simp only [Act.put, zq1, zq2, zq3]
      have e62 : f1 62 = .bool true := hd 62 (by kernel_rfl)
      have e63 : f1 63 = .pointer (some ⟨g2, 0, none⟩) := hd 63 (by kernel_rfl)
      obtain ⟨b9, fz9, e65, hB9, hb9⟩ := (show BlF wz.heap.size [99] (f1 65) u from hd 65 (by kernel_rfl))
      have e63 : f1 63 = .pointer (some ⟨g2, 0, none⟩) := hd 63 (by kernel_rfl)
      have HBS9 := Lib.hid (bl_bs (l := [99]) (by simp) hb9)
      have HC9 := Lib.hid (clip_any (e := false) (bA := none) (bc := 0) (b := []) (HMK.out u hu).2 HBS9.out (by decide) (Bs.nil _ _ _) (fun x hx => by cases hx) (by simp) (by simp))
      have HC8 : Hid (Calls Tryz.prog 40 #[.pointer (some ⟨g2, 0, none⟩), .slice (some ⟨b9, 0, none⟩) 1 1, .slice none 0 0, .bool false] u (ClipAns u [uT] uT [97, 0] [] [99] [] false false)) := HC9.out
      dsimp only [List.length_cons, List.length_nil] at e65
      clear hb9 hB9 HC9
      go_simp
      refine HC8.out.mono ?_
      rintro x9 w9 ⟨hx9, g9, rfl, htv9⟩
      exact ⟨_, rfl, mark_ext hx9, g9, rfl, htv9⟩
    refine ⟨fun u hu hd => ?_, ?_⟩
    · simp only [Act.put, zq1, zq2, zq3]
      have e62 : f1 62 = .bool true := hd 62 (by kernel_rfl)
      obtain ⟨g9, e66, htv9⟩ := (show ViewF [uT] uT [99] [] false (f1 66) u from hd 66 (by kernel_rfl))
      have HL9 := Lib.hid (tlen_any htv9.goes (by decide))
      have en9 : ((inV [99] [] false uT).length : Int) = 0 := by decide
      rw [en9] at HL9
      clear en9 htv9
      go_simp
      refine HL9.out.mono ?_
      rintro x9 w9 ⟨rfl, hx9⟩
      exact ⟨_, rfl, mark_ext hx9, rfl⟩
    refine ⟨fun u hu hd => ?_, ?_⟩
    · simp only [Act.put, zq1, zq2, zq3]
      have e62 : f1 62 = .bool true := hd 62 (by kernel_rfl)
      have e67 : f1 67 = .int .i64 0 := hd 67 (by kernel_rfl)
      go_simp
      exact ⟨(MarkR wz.heap.size).refl _, rfl⟩
    refine ⟨fun u hu hd => ?_, ?_⟩
    · simp only [Act.put, zq1, zq2, zq3]
      have e62 : f1 62 = .bool true := hd 62 (by kernel_rfl)
      have e68 : f1 68 = .bool true := hd 68 (by kernel_rfl)
      go_simp
      exact ⟨(MarkR wz.heap.size).refl _, rfl⟩
    refine ⟨fun u hu hd => ?_, ?_⟩
    · simp only [Act.put, zq1, zq2, zq3]
      have e69 : f1 69 = .bool true := hd 69 (by kernel_rfl)
      go_simp
      exact ⟨(MarkR wz.heap.size).refl _, rfl⟩
    trivial
end Go.Proofs.YthhgjeeangepaaaGreat
namespace Go.Proofs.YthhgjeeangepaaaGreat
open Go.ChangeShapes Go.WideShapes Go.ChangeAt Go.RowKit
set_option maxRecDepth 100000 in
set_option maxHeartbeats 4000000 in
theorem tmuch_any {w : World} {lo hi : Nat} {A : Option Addr} {c : Nat} {L : List (Ent × Hd)} (h : Es w lo hi A L) (hhi : hi ≤ w.heap.size) (hlen : L.length ≤ 4000000000000) (hln : ∀ p ∈ L, p.1.key.length ≤ 140737488351232 ∧ p.1.val.length ≤ 140737488351232) :
    Calls Tryz.prog 9 #[.slice A L.length c] w fun x w' => ∃ z : Bool, (z = false → L.length ≤ 600 ∧ ∀ p ∈ L, p.1.key.length + p.1.val.length < 100000) ∧ x = .returned (.bool z) ∧ Ext w w' := by
  have HM := Lib.hid (much_any (c := c) h hhi hlen hln)
  obtain ⟨n, hn⟩ : ∃ n, n = L.length := ⟨_, rfl⟩
  have HN := Lib.hid hn
  rw [← hn] at HM ⊢
  clear h hhi hlen hln hn
  go_enter Tryz.func9, Tryz.ntmps9
  go_wp2_with fail
  refine HM.out.mono ?_
  rintro x w2 ⟨z, hz, rfl, hx⟩
  have HX := Lib.hid hx
  have HZ := Lib.hid hz
  clear hx hz
  rcases z with _ | _
  · by_cases h1 : n ≤ 600
    · have d : decide ((600 : Int) < (n : Int)) = false := decide_eq_false (by omega)
      have dn : decide (600 < n) = false := decide_eq_false (by omega)
      have H1 := Lib.hid h1
      clear h1
      go_wp2_with fail
      go_ret
      exact ⟨false, fun _ => ⟨H1.out, (HZ.out rfl).2⟩, rfl, HX.out⟩
    · have d : decide ((600 : Int) < (n : Int)) = true := decide_eq_true (by omega)
      have dn : decide (600 < n) = true := decide_eq_true (by omega)
      clear h1
      go_wp2_with fail
      go_ret
      exact ⟨true, fun h => (by cases h), rfl, HX.out⟩
  · go_wp2_with fail
    go_ret
    exact ⟨true, fun h => (by cases h), rfl, HX.out⟩
end Go.Proofs.YthhgjeeangepaaaGreat
namespace Go.Proofs.YthhgjeeangepaaaGreat
open Go.ChangeShapes Go.WideShapes Go.ChangeAt Go.RowKit
def RiseTo (l : List Ent) (k : Nat) : Prop := ∀ j a b, j + 1 < k → l[j]? = some a → l[j + 1]? = some b → cmpE a b < 0
set_option maxRecDepth 100000 in
set_option maxHeartbeats 8000000 in
theorem rrises_any {w : World} {lo hi : Nat} {A : Option Addr} {c : Nat} {L : List (Ent × Hd)} (h : Es w lo hi A L) (hhi : hi ≤ w.heap.size) (hlen : L.length ≤ 1000000) (hln : ∀ p ∈ L, p.1.key.length + p.1.val.length < 100000) :
    Calls Tryz.prog 43 #[.slice A L.length c] w fun x w' => ∃ z : Bool, (z = true ↔ Rise (L.map Prod.fst) ∧ (L.all fun p => p.1.may) = true) ∧ x = .returned (.bool z) ∧ Ext w w' := by
  have HE := Lib.hid h
  have HHI := Lib.hid hhi
  have HL := Lib.hid hlen
  have HLN := Lib.hid hln
  clear h hhi hln
  go_enter Tryz.func43, Tryz.ntmps43
  go_wp2_with fail
  go_loopw [3] (fun i wr => ∃ k : Nat, k ≤ L.length ∧ i = .int .i64 (k : Int) ∧ Hid (RiseTo (L.map Prod.fst) k) ∧ Hid ((L.take k).all (fun p => p.1.may) = true) ∧ Hid (Ext w wr)) (fun i _ => L.length - (intOf i).toNat)
  case atStart => exact ⟨0, by omega, rfl, Lib.hid (fun j a b hj => by omega), by simp [Hid], Lib.hid (Ext.refl _)⟩
  case round =>
    obtain ⟨k, hk, rfl, HR, HM, HX⟩ := hrel
    by_cases hlt : k < L.length
    · have d : decide ((k : Int) < (L.length : Int)) = true := decide_eq_true (by omega)
      have dn : decide (k < L.length) = true := decide_eq_true hlt
      obtain ⟨b, o, hA⟩ := HE.out.base (by omega)
      subst hA
      obtain ⟨p, hp⟩ : ∃ p, L[k]? = some p := ⟨_, List.getElem?_eq_getElem hlt⟩
      obtain ⟨c0, c1, c2, c3⟩ := (HE.out.below HX.out HHI.out).get hp
      have HP := Lib.hid hp
      have n1 : (0 : Int) ≤ (k : Int) := by omega
      have n2 : (k : Int) < (L.length : Int) := by omega
      have HLT := Lib.hid hlt
      obtain ⟨z, hz⟩ : ∃ z, z = mayN p.1.key.length p.1.seq p.1.kind p.1.val.length := ⟨_, rfl⟩
      have HZ := Lib.hid hz
      clear hp hz
      cases z with
      | false =>
        go_upto_region 4 with (fail)
        refine flow (by kernel_rfl) [Is (.slice (some ⟨b, o, none⟩) L.length c), Is (.int .i64 (k : Int)), Is (.pointer (some ⟨b, o + k * 4, none⟩)), Is (.agg #[.slice p.2.kA p.1.key.length p.2.kc, .int .i64 p.1.seq, .int .i64 p.1.kind, .slice p.2.vA p.1.val.length p.2.vc]), Is (.bool false), Is (.bool true), Is (.bool true), Is undef, Is undef, Is undef, Is undef, Is undef, Is undef, Is undef, Is undef, Is undef, Is undef, Is undef, Is undef, Is undef, Is undef, Is undef, Is (.bool true)] (by kernel_rfl) (by kernel_rfl) ?mono (fun f1 => ?obl) ?fin
        case mono =>
          simp only [List.forall_mem_cons, List.not_mem_nil, false_imp_iff, implies_true, and_true]
          exact ⟨.is _, .is _, .is _, .is _, .is _, .is _, .is _, .is _, .is _, .is _, .is _, .is _, .is _, .is _, .is _, .is _, .is _, .is _, .is _, .is _, .is _, .is _, .is _⟩
        case fin =>
          intro g1 u hu hg
          simp only [puts, Act.put, zq1, zq2, zq3]
          have h22 : g1 22 = .bool true := hg 22 (by decide)
          rw [h22]
          have HXU : Hid (Ext w u) := Ext.trans HX.out (Ext.trans (Ext.drew wr) hu)
          clear h22 hg hu c0 c1 c2 c3
          go_wp2_with fail
          go_ret
          exact ⟨false, ⟨fun h => (by cases h), fun h => (by
            have h2 := all_not (f := fun p : Ent × Hd => p.1.may) HP.out HZ.out.symm
            rw [h.2] at h2; cases h2)⟩, rfl, HXU.out⟩
        case obl =>
          refine ⟨fun u hu hd => ?_, ?_⟩
          · go_simp
            exact ⟨Ext.refl _, rfl⟩
          refine ⟨fun u hu hd => ?_, ?_⟩
          · simp only [Act.put, zq1, zq2, zq3]
            go_simp
            exact ⟨Ext.refl _, rfl⟩
          refine ⟨fun u hu hd => ?_, ?_⟩
          · simp only [Act.put, zq1, zq2, zq3]
            have e0 : f1 0 = .slice (some ⟨b, o, none⟩) L.length c := hd 0 (by kernel_rfl)
            have e1 : f1 1 = .int .i64 (k : Int) := hd 1 (by kernel_rfl)
            go_simp
            exact ⟨Ext.refl _, rfl⟩
          refine ⟨fun u hu hd => ?_, ?_⟩
          · simp only [Act.put, zq1, zq2, zq3]
            have e2 : f1 2 = .pointer (some ⟨b, o + k * 4, none⟩) := hd 2 (by kernel_rfl)
            have hu2 := Ext.trans (Ext.drew wr) hu
            have q0 := ext_cell hu2 c0
            have q1 := ext_cell hu2 c1
            have q2 := ext_cell hu2 c2
            have q3 := ext_cell hu2 c3
            go_simp
            exact ⟨Ext.refl _, rfl⟩
          refine ⟨fun u hu hd => ?_, ?_⟩
          · simp only [Act.put, zq1, zq2, zq3]
            have e3 : f1 3 = .agg #[.slice p.2.kA p.1.key.length p.2.kc, .int .i64 p.1.seq, .int .i64 p.1.kind, .slice p.2.vA p.1.val.length p.2.vc] := hd 3 (by kernel_rfl)
            go_simp
            refine (rmay_any _ _ _ _ _ _ _ _ u).mono ?_
            rintro x w9 ⟨rfl, hx9⟩
            exact ⟨_, rfl, hx9, by rw [← HZ.out]; rfl⟩
          refine ⟨fun u hu hd => ?_, ?_⟩
          · simp only [Act.put, zq1, zq2, zq3]
            have e4 : f1 4 = .bool false := hd 4 (by kernel_rfl)
            go_simp
            exact ⟨Ext.refl _, rfl⟩
          refine ⟨fun u hu hd => ?_, ?_⟩
          · simp only [Act.put, zq1, zq2, zq3]
            have e5 : f1 5 = .bool true := hd 5 (by kernel_rfl)
            go_simp
            exact ⟨Ext.refl _, rfl⟩
          refine ⟨fun u hu hd => ?_, ?_⟩
          · simp only [Act.put, zq1, zq2, zq3]
            have e6 : f1 6 = .bool true := hd 6 (by kernel_rfl)
            go_simp
            rfl
          refine ⟨fun u hu hd => ?_, ?_⟩
          · simp only [Act.put, zq1, zq2, zq3]
            have e6 : f1 6 = .bool true := hd 6 (by kernel_rfl)
            go_simp
            rfl
          refine ⟨fun u hu hd => ?_, ?_⟩
          · simp only [Act.put, zq1, zq2, zq3]
            have e6 : f1 6 = .bool true := hd 6 (by kernel_rfl)
            go_simp
            rfl
          refine ⟨fun u hu hd => ?_, ?_⟩
          · simp only [Act.put, zq1, zq2, zq3]
            have e9 : f1 9 = undef := hd 9 (by kernel_rfl)
            go_simp
            rfl
          refine ⟨fun u hu hd => ?_, ?_⟩
          · simp only [Act.put, zq1, zq2, zq3]
            have e9 : f1 9 = undef := hd 9 (by kernel_rfl)
            go_simp
            rfl
          refine ⟨fun u hu hd => ?_, ?_⟩
          · simp only [Act.put, zq1, zq2, zq3]
            have e9 : f1 9 = undef := hd 9 (by kernel_rfl)
            go_simp
            rfl
          refine ⟨fun u hu hd => ?_, ?_⟩
          · simp only [Act.put, zq1, zq2, zq3]
            have e9 : f1 9 = undef := hd 9 (by kernel_rfl)
            go_simp
            rfl
          refine ⟨fun u hu hd => ?_, ?_⟩
          · simp only [Act.put, zq1, zq2, zq3]
            have e9 : f1 9 = undef := hd 9 (by kernel_rfl)
            go_simp
            rfl
          refine ⟨fun u hu hd => ?_, ?_⟩
          · simp only [Act.put, zq1, zq2, zq3]
            have e9 : f1 9 = undef := hd 9 (by kernel_rfl)
            go_simp
            rfl
          refine ⟨fun u hu hd => ?_, ?_⟩
          · simp only [Act.put, zq1, zq2, zq3]
            have e9 : f1 9 = undef := hd 9 (by kernel_rfl)
            go_simp
            rfl
          refine ⟨fun u hu hd => ?_, ?_⟩
          · simp only [Act.put, zq1, zq2, zq3]
            have e9 : f1 9 = undef := hd 9 (by kernel_rfl)
            go_simp
            rfl
          refine ⟨fun u hu hd => ?_, ?_⟩
          · simp only [Act.put, zq1, zq2, zq3]
            have e9 : f1 9 = undef := hd 9 (by kernel_rfl)
            go_simp
            rfl
          refine ⟨fun u hu hd => ?_, ?_⟩
          · simp only [Act.put, zq1, zq2, zq3]
            have e9 : f1 9 = undef := hd 9 (by kernel_rfl)
            go_simp
            rfl
          refine ⟨fun u hu hd => ?_, ?_⟩
          · simp only [Act.put, zq1, zq2, zq3]
            have e9 : f1 9 = undef := hd 9 (by kernel_rfl)
            go_simp
            rfl
          refine ⟨fun u hu hd => ?_, ?_⟩
          · simp only [Act.put, zq1, zq2, zq3]
            have e6 : f1 6 = .bool true := hd 6 (by kernel_rfl)
            go_simp
            rfl
          refine ⟨fun u hu hd => ?_, ?_⟩
          · simp only [Act.put, zq1, zq2, zq3]
            have e6 : f1 6 = .bool true := hd 6 (by kernel_rfl)
            go_simp
            exact ⟨Ext.refl _, rfl⟩
          trivial
      | true =>
        by_cases hk0 : k = 0
        · have HK0 := Lib.hid hk0
          have g0 : decide ((0 : Int) < (k : Int)) = false := decide_eq_false (by omega)
          have g0n : decide (0 < k) = false := decide_eq_false (by omega)
          clear hk0
          go_upto_region 4 with (fail)
          refine flow (by kernel_rfl) [Is (.slice (some ⟨b, o, none⟩) L.length c), Is (.int .i64 (k : Int)), Is (.pointer (some ⟨b, o + k * 4, none⟩)), Is (.agg #[.slice p.2.kA p.1.key.length p.2.kc, .int .i64 p.1.seq, .int .i64 p.1.kind, .slice p.2.vA p.1.val.length p.2.vc]), Is (.bool true), Is (.bool false), Is (.bool false), Is (.int .i64 (k : Int)), Is (.bool false), Is (.bool false), Is undef, Is undef, Is undef, Is undef, Is undef, Is undef, Is undef, Is undef, Is undef, Is undef, Is undef, Is (.bool false), Is (.bool false)] (by kernel_rfl) (by kernel_rfl) ?mono (fun f1 => ?obl) ?fin
          case mono =>
            simp only [List.forall_mem_cons, List.not_mem_nil, false_imp_iff, implies_true, and_true]
            exact ⟨.is _, .is _, .is _, .is _, .is _, .is _, .is _, .is _, .is _, .is _, .is _, .is _, .is _, .is _, .is _, .is _, .is _, .is _, .is _, .is _, .is _, .is _, .is _⟩
          case fin =>
            intro g1 u hu hg
            simp only [puts, Act.put, zq1, zq2, zq3]
            have h22 : g1 22 = .bool false := hg 22 (by decide)
            rw [h22]
            have HXU : Hid (Ext w u) := Ext.trans HX.out (Ext.trans (Ext.drew wr) hu)
            clear h22 hg hu c0 c1 c2 c3
            go_wp2_with fail
            go_roundw
            case rel => exact ⟨k + 1, by omega, by go_num, Lib.hid (fun j a b hj => by have := HK0.out; omega), Lib.hid (all_next (f := fun p : Ent × Hd => p.1.may) HM.out HP.out HZ.out.symm), HXU⟩
            case measure => have := HLT.out; simp [intOf]; omega
          case obl =>
            refine ⟨fun u hu hd => ?_, ?_⟩
            · go_simp
              exact ⟨Ext.refl _, rfl⟩
            refine ⟨fun u hu hd => ?_, ?_⟩
            · simp only [Act.put, zq1, zq2, zq3]
              go_simp
              exact ⟨Ext.refl _, rfl⟩
            refine ⟨fun u hu hd => ?_, ?_⟩
            · simp only [Act.put, zq1, zq2, zq3]
              have e0 : f1 0 = .slice (some ⟨b, o, none⟩) L.length c := hd 0 (by kernel_rfl)
              have e1 : f1 1 = .int .i64 (k : Int) := hd 1 (by kernel_rfl)
              go_simp
              exact ⟨Ext.refl _, rfl⟩
            refine ⟨fun u hu hd => ?_, ?_⟩
            · simp only [Act.put, zq1, zq2, zq3]
              have e2 : f1 2 = .pointer (some ⟨b, o + k * 4, none⟩) := hd 2 (by kernel_rfl)
              have hu2 := Ext.trans (Ext.drew wr) hu
              have q0 := ext_cell hu2 c0
              have q1 := ext_cell hu2 c1
              have q2 := ext_cell hu2 c2
              have q3 := ext_cell hu2 c3
              go_simp
              exact ⟨Ext.refl _, rfl⟩
            refine ⟨fun u hu hd => ?_, ?_⟩
            · simp only [Act.put, zq1, zq2, zq3]
              have e3 : f1 3 = .agg #[.slice p.2.kA p.1.key.length p.2.kc, .int .i64 p.1.seq, .int .i64 p.1.kind, .slice p.2.vA p.1.val.length p.2.vc] := hd 3 (by kernel_rfl)
              go_simp
              refine (rmay_any _ _ _ _ _ _ _ _ u).mono ?_
              rintro x w9 ⟨rfl, hx9⟩
              exact ⟨_, rfl, hx9, by rw [← HZ.out]; rfl⟩
            refine ⟨fun u hu hd => ?_, ?_⟩
            · simp only [Act.put, zq1, zq2, zq3]
              have e4 : f1 4 = .bool true := hd 4 (by kernel_rfl)
              go_simp
              exact ⟨Ext.refl _, rfl⟩
            refine ⟨fun u hu hd => ?_, ?_⟩
            · simp only [Act.put, zq1, zq2, zq3]
              have e5 : f1 5 = .bool false := hd 5 (by kernel_rfl)
              go_simp
              exact ⟨Ext.refl _, rfl⟩
            refine ⟨fun u hu hd => ?_, ?_⟩
            · simp only [Act.put, zq1, zq2, zq3]
              have e6 : f1 6 = .bool false := hd 6 (by kernel_rfl)
              go_simp
              exact ⟨Ext.refl _, rfl⟩
            refine ⟨fun u hu hd => ?_, ?_⟩
            · simp only [Act.put, zq1, zq2, zq3]
              have e6 : f1 6 = .bool false := hd 6 (by kernel_rfl)
              have e7 : f1 7 = .int .i64 (k : Int) := hd 7 (by kernel_rfl)
              go_simp
              exact ⟨Ext.refl _, rfl⟩
            refine ⟨fun u hu hd => ?_, ?_⟩
            · simp only [Act.put, zq1, zq2, zq3]
              have e6 : f1 6 = .bool false := hd 6 (by kernel_rfl)
              have e8 : f1 8 = .bool false := hd 8 (by kernel_rfl)
              go_simp
              exact ⟨Ext.refl _, rfl⟩
            refine ⟨fun u hu hd => ?_, ?_⟩
            · simp only [Act.put, zq1, zq2, zq3]
              have e9 : f1 9 = .bool false := hd 9 (by kernel_rfl)
              go_simp
              rfl
            refine ⟨fun u hu hd => ?_, ?_⟩
            · simp only [Act.put, zq1, zq2, zq3]
              have e9 : f1 9 = .bool false := hd 9 (by kernel_rfl)
              go_simp
              rfl
            refine ⟨fun u hu hd => ?_, ?_⟩
            · simp only [Act.put, zq1, zq2, zq3]
              have e9 : f1 9 = .bool false := hd 9 (by kernel_rfl)
              go_simp
              rfl
            refine ⟨fun u hu hd => ?_, ?_⟩
            · simp only [Act.put, zq1, zq2, zq3]
              have e9 : f1 9 = .bool false := hd 9 (by kernel_rfl)
              go_simp
              rfl
            refine ⟨fun u hu hd => ?_, ?_⟩
            · simp only [Act.put, zq1, zq2, zq3]
              have e9 : f1 9 = .bool false := hd 9 (by kernel_rfl)
              go_simp
              rfl
            refine ⟨fun u hu hd => ?_, ?_⟩
            · simp only [Act.put, zq1, zq2, zq3]
              have e9 : f1 9 = .bool false := hd 9 (by kernel_rfl)
              go_simp
              rfl
            refine ⟨fun u hu hd => ?_, ?_⟩
            · simp only [Act.put, zq1, zq2, zq3]
              have e9 : f1 9 = .bool false := hd 9 (by kernel_rfl)
              go_simp
              rfl
            refine ⟨fun u hu hd => ?_, ?_⟩
            · simp only [Act.put, zq1, zq2, zq3]
              have e9 : f1 9 = .bool false := hd 9 (by kernel_rfl)
              go_simp
              rfl
            refine ⟨fun u hu hd => ?_, ?_⟩
            · simp only [Act.put, zq1, zq2, zq3]
              have e9 : f1 9 = .bool false := hd 9 (by kernel_rfl)
              go_simp
              rfl
            refine ⟨fun u hu hd => ?_, ?_⟩
            · simp only [Act.put, zq1, zq2, zq3]
              have e9 : f1 9 = .bool false := hd 9 (by kernel_rfl)
              go_simp
              rfl
            refine ⟨fun u hu hd => ?_, ?_⟩
            · simp only [Act.put, zq1, zq2, zq3]
              have e9 : f1 9 = .bool false := hd 9 (by kernel_rfl)
              go_simp
              rfl
            refine ⟨fun u hu hd => ?_, ?_⟩
            · simp only [Act.put, zq1, zq2, zq3]
              have e6 : f1 6 = .bool false := hd 6 (by kernel_rfl)
              have e9 : f1 9 = .bool false := hd 9 (by kernel_rfl)
              go_simp
              exact ⟨Ext.refl _, rfl⟩
            refine ⟨fun u hu hd => ?_, ?_⟩
            · simp only [Act.put, zq1, zq2, zq3]
              have e6 : f1 6 = .bool false := hd 6 (by kernel_rfl)
              have e21 : f1 21 = .bool false := hd 21 (by kernel_rfl)
              go_simp
              exact ⟨Ext.refl _, rfl⟩
            trivial
        · obtain ⟨m, hm⟩ : ∃ m, m + 1 = k := ⟨k - 1, by omega⟩
          obtain ⟨q, hq⟩ : ∃ q, L[m]? = some q := ⟨_, List.getElem?_eq_getElem (by omega)⟩
          obtain ⟨d0, d1, d2, d3⟩ := (HE.out.below HX.out HHI.out).get hq
          have HQ := Lib.hid hq
          have HMK := Lib.hid hm
          have g0 : decide ((0 : Int) < (k : Int)) = true := decide_eq_true (by omega)
          have g0n : decide (0 < k) = true := decide_eq_true (by omega)
          have m1 : (0 : Int) ≤ (m : Int) := by omega
          have m2 : (m : Int) < (L.length : Int) := by omega
          have HSUB : Hid (IntKind.i64.wrap ((k : Int) - 1) = (m : Int)) := by unfold Hid; rw [IntKind.wrap_i64]; omega
          have HWW : Hid (∀ u, Ext wr u → Em u lo hi q.1 q.2 ∧ Em u lo hi p.1 p.2 ∧ hi ≤ u.heap.size) := fun u hu => by
            have hx := Ext.trans HX.out hu
            exact ⟨(HE.out.below hx HHI.out).each q (List.mem_of_getElem? hq), (HE.out.below hx HHI.out).each p (List.mem_of_getElem? HP.out), Nat.le_trans HHI.out hx.size⟩
          have HKL : Hid (q.1.key.length ≤ 140737488351232 ∧ p.1.key.length ≤ 140737488351232) := by
            have h1 := HLN.out q (List.mem_of_getElem? hq); have h2 := HLN.out p (List.mem_of_getElem? HP.out); exact ⟨by omega, by omega⟩
          obtain ⟨s, hs⟩ : ∃ s, s = cmpE q.1 p.1 := ⟨_, rfl⟩
          have HS := Lib.hid hs
          obtain ⟨y, hy⟩ : ∃ y, y = decide (0 ≤ s) := ⟨_, rfl⟩
          have HY := Lib.hid hy
          clear hq hm hs hy hk0
          go_upto_region 4 with (fail)
          refine flow (by kernel_rfl) [Is (.slice (some ⟨b, o, none⟩) L.length c), Is (.int .i64 (k : Int)), Is (.pointer (some ⟨b, o + k * 4, none⟩)), Is (.agg #[.slice p.2.kA p.1.key.length p.2.kc, .int .i64 p.1.seq, .int .i64 p.1.kind, .slice p.2.vA p.1.val.length p.2.vc]), Is (.bool true), Is (.bool false), Is (.bool false), Is (.int .i64 (k : Int)), Is (.bool true), Is (.bool true), Is (.slice (some ⟨b, o, none⟩) L.length c), Is (.int .i64 (k : Int)), Is (.int .i64 (m : Int)), Is (.pointer (some ⟨b, o + m * 4, none⟩)), Is (.agg #[.slice q.2.kA q.1.key.length q.2.kc, .int .i64 q.1.seq, .int .i64 q.1.kind, .slice q.2.vA q.1.val.length q.2.vc]), Is (.slice (some ⟨b, o, none⟩) L.length c), Is (.int .i64 (k : Int)), Is (.pointer (some ⟨b, o + k * 4, none⟩)), Is (.agg #[.slice p.2.kA p.1.key.length p.2.kc, .int .i64 p.1.seq, .int .i64 p.1.kind, .slice p.2.vA p.1.val.length p.2.vc]), Is (.int .i64 s), Is (.bool y), Is (.bool y), Is (.bool y)] (by kernel_rfl) (by kernel_rfl) ?mono (fun f1 => ?obl) ?fin
          case mono =>
            simp only [List.forall_mem_cons, List.not_mem_nil, false_imp_iff, implies_true, and_true]
            exact ⟨.is _, .is _, .is _, .is _, .is _, .is _, .is _, .is _, .is _, .is _, .is _, .is _, .is _, .is _, .is _, .is _, .is _, .is _, .is _, .is _, .is _, .is _, .is _⟩
          case fin =>
            intro g1 u hu hg
            simp only [puts, Act.put, zq1, zq2, zq3]
            have h22 : g1 22 = .bool y := hg 22 (by decide)
            rw [h22]
            have HXU : Hid (Ext w u) := Ext.trans HX.out (Ext.trans (Ext.drew wr) hu)
            clear h22 hg hu c0 c1 c2 c3 d0 d1 d2 d3
            cases y with
            | true =>
              go_wp2_with fail
              go_ret
              refine ⟨false, ⟨fun h => (by cases h), fun h => ?_⟩, rfl, HXU.out⟩
              have h1 := of_decide_eq_true HY.out.symm
              have h2 := h.1 m q.1 p.1 (by rw [List.getElem?_map, HQ.out]; rfl) (by rw [HMK.out, List.getElem?_map, HP.out]; rfl)
              have h3 := HS.out
              omega
            | false =>
              go_wp2_with fail
              go_roundw
              case rel => exact ⟨k + 1, by omega, by go_num, Lib.hid (fun j a b hj ha hb => by
                  by_cases hjm : j = m
                  · subst hjm
                    rw [List.getElem?_map, HQ.out] at ha
                    rw [HMK.out, List.getElem?_map, HP.out] at hb
                    simp at ha hb
                    subst ha hb
                    have h1 := of_decide_eq_false HY.out.symm
                    have h2 := HS.out
                    omega
                  · exact HR.out j a b (by have := HMK.out; omega) ha hb), Lib.hid (all_next (f := fun p : Ent × Hd => p.1.may) HM.out HP.out HZ.out.symm), HXU⟩
              case measure => have := HLT.out; simp [intOf]; omega
          case obl =>
            refine ⟨fun u hu hd => ?_, ?_⟩
            · go_simp
              exact ⟨Ext.refl _, rfl⟩
            refine ⟨fun u hu hd => ?_, ?_⟩
            · simp only [Act.put, zq1, zq2, zq3]
              go_simp
              exact ⟨Ext.refl _, rfl⟩
            refine ⟨fun u hu hd => ?_, ?_⟩
            · simp only [Act.put, zq1, zq2, zq3]
              have e0 : f1 0 = .slice (some ⟨b, o, none⟩) L.length c := hd 0 (by kernel_rfl)
              have e1 : f1 1 = .int .i64 (k : Int) := hd 1 (by kernel_rfl)
              go_simp
              exact ⟨Ext.refl _, rfl⟩
            refine ⟨fun u hu hd => ?_, ?_⟩
            · simp only [Act.put, zq1, zq2, zq3]
              have e2 : f1 2 = .pointer (some ⟨b, o + k * 4, none⟩) := hd 2 (by kernel_rfl)
              have hu2 := Ext.trans (Ext.drew wr) hu
              have q0 := ext_cell hu2 c0
              have q1 := ext_cell hu2 c1
              have q2 := ext_cell hu2 c2
              have q3 := ext_cell hu2 c3
              go_simp
              exact ⟨Ext.refl _, rfl⟩
            refine ⟨fun u hu hd => ?_, ?_⟩
            · simp only [Act.put, zq1, zq2, zq3]
              have e3 : f1 3 = .agg #[.slice p.2.kA p.1.key.length p.2.kc, .int .i64 p.1.seq, .int .i64 p.1.kind, .slice p.2.vA p.1.val.length p.2.vc] := hd 3 (by kernel_rfl)
              go_simp
              refine (rmay_any _ _ _ _ _ _ _ _ u).mono ?_
              rintro x w9 ⟨rfl, hx9⟩
              exact ⟨_, rfl, hx9, by rw [← HZ.out]; rfl⟩
            refine ⟨fun u hu hd => ?_, ?_⟩
            · simp only [Act.put, zq1, zq2, zq3]
              have e4 : f1 4 = .bool true := hd 4 (by kernel_rfl)
              go_simp
              exact ⟨Ext.refl _, rfl⟩
            refine ⟨fun u hu hd => ?_, ?_⟩
            · simp only [Act.put, zq1, zq2, zq3]
              have e5 : f1 5 = .bool false := hd 5 (by kernel_rfl)
              go_simp
              exact ⟨Ext.refl _, rfl⟩
            refine ⟨fun u hu hd => ?_, ?_⟩
            · simp only [Act.put, zq1, zq2, zq3]
              have e6 : f1 6 = .bool false := hd 6 (by kernel_rfl)
              go_simp
              exact ⟨Ext.refl _, rfl⟩
            refine ⟨fun u hu hd => ?_, ?_⟩
            · simp only [Act.put, zq1, zq2, zq3]
              have e6 : f1 6 = .bool false := hd 6 (by kernel_rfl)
              have e7 : f1 7 = .int .i64 (k : Int) := hd 7 (by kernel_rfl)
              go_simp
              exact ⟨Ext.refl _, rfl⟩
            refine ⟨fun u hu hd => ?_, ?_⟩
            · simp only [Act.put, zq1, zq2, zq3]
              have e6 : f1 6 = .bool false := hd 6 (by kernel_rfl)
              have e8 : f1 8 = .bool true := hd 8 (by kernel_rfl)
              go_simp
              exact ⟨Ext.refl _, rfl⟩
            refine ⟨fun u hu hd => ?_, ?_⟩
            · simp only [Act.put, zq1, zq2, zq3]
              have e9 : f1 9 = .bool true := hd 9 (by kernel_rfl)
              go_simp
              exact ⟨Ext.refl _, rfl⟩
            refine ⟨fun u hu hd => ?_, ?_⟩
            · simp only [Act.put, zq1, zq2, zq3]
              have e9 : f1 9 = .bool true := hd 9 (by kernel_rfl)
              go_simp
              exact ⟨Ext.refl _, rfl⟩
            refine ⟨fun u hu hd => ?_, ?_⟩
            · simp only [Act.put, zq1, zq2, zq3]
              have e9 : f1 9 = .bool true := hd 9 (by kernel_rfl)
              have e11 : f1 11 = .int .i64 (k : Int) := hd 11 (by kernel_rfl)
              have q1 := HSUB.out
              go_simp
              exact ⟨Ext.refl _, rfl⟩
            refine ⟨fun u hu hd => ?_, ?_⟩
            · simp only [Act.put, zq1, zq2, zq3]
              have e9 : f1 9 = .bool true := hd 9 (by kernel_rfl)
              have e10 : f1 10 = .slice (some ⟨b, o, none⟩) L.length c := hd 10 (by kernel_rfl)
              have e12 : f1 12 = .int .i64 (m : Int) := hd 12 (by kernel_rfl)
              go_simp
              exact ⟨Ext.refl _, rfl⟩
            refine ⟨fun u hu hd => ?_, ?_⟩
            · simp only [Act.put, zq1, zq2, zq3]
              have e9 : f1 9 = .bool true := hd 9 (by kernel_rfl)
              have e13 : f1 13 = .pointer (some ⟨b, o + m * 4, none⟩) := hd 13 (by kernel_rfl)
              have hu2 := Ext.trans (Ext.drew wr) hu
              have q0 := ext_cell hu2 d0
              have q1 := ext_cell hu2 d1
              have q2 := ext_cell hu2 d2
              have q3 := ext_cell hu2 d3
              go_simp
              exact ⟨Ext.refl _, rfl⟩
            refine ⟨fun u hu hd => ?_, ?_⟩
            · simp only [Act.put, zq1, zq2, zq3]
              have e9 : f1 9 = .bool true := hd 9 (by kernel_rfl)
              go_simp
              exact ⟨Ext.refl _, rfl⟩
            refine ⟨fun u hu hd => ?_, ?_⟩
            · simp only [Act.put, zq1, zq2, zq3]
              have e9 : f1 9 = .bool true := hd 9 (by kernel_rfl)
              go_simp
              exact ⟨Ext.refl _, rfl⟩
            refine ⟨fun u hu hd => ?_, ?_⟩
            · simp only [Act.put, zq1, zq2, zq3]
              have e9 : f1 9 = .bool true := hd 9 (by kernel_rfl)
              have e15 : f1 15 = .slice (some ⟨b, o, none⟩) L.length c := hd 15 (by kernel_rfl)
              have e16 : f1 16 = .int .i64 (k : Int) := hd 16 (by kernel_rfl)
              go_simp
              exact ⟨Ext.refl _, rfl⟩
            refine ⟨fun u hu hd => ?_, ?_⟩
            · simp only [Act.put, zq1, zq2, zq3]
              have e9 : f1 9 = .bool true := hd 9 (by kernel_rfl)
              have e17 : f1 17 = .pointer (some ⟨b, o + k * 4, none⟩) := hd 17 (by kernel_rfl)
              have hu2 := Ext.trans (Ext.drew wr) hu
              have q0 := ext_cell hu2 c0
              have q1 := ext_cell hu2 c1
              have q2 := ext_cell hu2 c2
              have q3 := ext_cell hu2 c3
              go_simp
              exact ⟨Ext.refl _, rfl⟩
            refine ⟨fun u hu hd => ?_, ?_⟩
            · simp only [Act.put, zq1, zq2, zq3]
              have e9 : f1 9 = .bool true := hd 9 (by kernel_rfl)
              have e14 : f1 14 = .agg #[.slice q.2.kA q.1.key.length q.2.kc, .int .i64 q.1.seq, .int .i64 q.1.kind, .slice q.2.vA q.1.val.length q.2.vc] := hd 14 (by kernel_rfl)
              have e18 : f1 18 = .agg #[.slice p.2.kA p.1.key.length p.2.kc, .int .i64 p.1.seq, .int .i64 p.1.kind, .slice p.2.vA p.1.val.length p.2.vc] := hd 18 (by kernel_rfl)
              have hu2 := Ext.trans (Ext.drew wr) hu
              obtain ⟨m1, m2, m3⟩ := HWW.out u hu2
              go_simp
              refine (rcompare_any m1 m2 m3 m3 HKL.out.1 HKL.out.2).mono ?_
              rintro x w9 ⟨rfl, hx9⟩
              exact ⟨_, rfl, hx9, by rw [HS.out]; rfl⟩
            refine ⟨fun u hu hd => ?_, ?_⟩
            · simp only [Act.put, zq1, zq2, zq3]
              have e9 : f1 9 = .bool true := hd 9 (by kernel_rfl)
              have e19 : f1 19 = .int .i64 s := hd 19 (by kernel_rfl)
              have q1 := HY.out.symm
              go_simp
              exact ⟨Ext.refl _, rfl⟩
            refine ⟨fun u hu hd => ?_, ?_⟩
            · simp only [Act.put, zq1, zq2, zq3]
              have e6 : f1 6 = .bool false := hd 6 (by kernel_rfl)
              have e9 : f1 9 = .bool true := hd 9 (by kernel_rfl)
              have e20 : f1 20 = .bool y := hd 20 (by kernel_rfl)
              go_simp
              exact ⟨Ext.refl _, rfl⟩
            refine ⟨fun u hu hd => ?_, ?_⟩
            · simp only [Act.put, zq1, zq2, zq3]
              have e6 : f1 6 = .bool false := hd 6 (by kernel_rfl)
              have e21 : f1 21 = .bool y := hd 21 (by kernel_rfl)
              go_simp
              exact ⟨Ext.refl _, rfl⟩
            trivial
    · have d : decide ((k : Int) < (L.length : Int)) = false := decide_eq_false (by omega)
      have dn : decide (k < L.length) = false := decide_eq_false hlt
      have HF : Hid (Rise (L.map Prod.fst) ∧ (L.all fun p => p.1.may) = true) := by
        refine ⟨fun j a b ha hb => HR.out j a b (by have := (List.getElem?_eq_some_iff.1 hb).1; rw [List.length_map] at this; omega) ha hb, ?_⟩
        have h := HM.out
        rwa [List.take_of_length_le (by omega)] at h
      clear hlt hk
      go_wp2_with fail
      go_ret
      exact ⟨true, ⟨fun _ => HF.out, fun _ => rfl⟩, rfl, HX.out⟩
end Go.Proofs.YthhgjeeangepaaaGreat
