/- Lucorrupt Pucorrupt, joined. -/
import Derived.Test.YthhgjeeangepaaaGreatMu17
import Derived.Test.YthhgjeeangepaaaGreatMu18
import Derived.Test.YthhgjeeangepaaaGreatMu7

/- TableCorrupt: the walk. -/
namespace Go.Proofs.YthhgjeeangepaaaGreat.ucorrupt
open Go.ChangeShapes Go.WideShapes Go.ChangeAt Go.RowKit

/-- The place that z means, of m. -/
def plc (m : Nat) (z : Int) : Nat := (z.tmod (m : Int)).natAbs
theorem plc_lt {m : Nat} (hm : 0 < m) (z : Int) : plc m z < m := by
  unfold plc
  have h1 : z.tmod (m : Int) < (m : Int) := Int.tmod_lt_of_pos z (by omega)
  have h3 : (-z).tmod (m : Int) < (m : Int) := Int.tmod_lt_of_pos (-z) (by omega)
  rw [Int.neg_tmod] at h3
  omega
theorem plc_neg {m : Nat} {z : Int} (h : z.tmod (m : Int) < 0) : z.tmod (m : Int) = -(plc m z : Int) := by unfold plc; omega
theorem plc_pos {m : Nat} {z : Int} (h : ¬ z.tmod (m : Int) < 0) : z.tmod (m : Int) = (plc m z : Int) := by unfold plc; omega
theorem inV_all (L : List Ent) : inV [] [] false L = L := by
  unfold inV
  rw [List.filter_eq_self]
  intro e _
  unfold hasV endsV
  rw [cmpK_nil]
  simp
  split <;> omega

set_option maxRecDepth 100000 in
set_option maxHeartbeats 8000000 in
theorem walk (W : World) (A : Option Addr) (c : Nat) (L : List (Ent × Hd)) (hlc : L.length ≤ c) (_hc : c ≤ maxLen) (hE : Es W 0 W.heap.size A L) (hln : ∀ p ∈ L, p.1.key.length ≤ 140737488351232 ∧ p.1.val.length ≤ 140737488351232) (hn : L.length ≤ 2199023255552)
    (z : Int) (hz : (Lit.int .i64 z).wf = true) (tu : Int) (ht : (Lit.int .u8 tu).wf = true) (v : Value) (m : List Nat) (hv : Bs W 0 W.heap.size v m) (hm : ∀ x ∈ m, x < 256) :
    Calls Tryz.prog 7 #[.slice A L.length c, .int .i64 z, .int .u8 tu, v] W fun e w' => e = .returned (.bool true) ∧ Below W.heap.size W w' := by
  have HE := Lib.hid hE
  have HV := Lib.hid hv
  have HM := Lib.hid hm
  have HLC := Lib.hid hlc
  have HLN := Lib.hid (And.intro hln hn)
  have hzz := i64_wf hz
  obtain ⟨t, htt, ht8⟩ : ∃ t : Nat, tu = (t : Int) ∧ t < 256 := by
    have h1 := u8_wf ht
    exact ⟨tu.toNat, by omega, by omega⟩
  subst htt
  have HZZ := Lib.hid hzz
  have HT8 := Lib.hid ht8
  obtain ⟨VA, vc, rfl, _⟩ := id hv
  clear hE hln hn hlc _hc hz ht hv hm hzz ht8
  go_enter Tryz.func7, Tryz.ntmps7
  go_wp2_with fail
  refine (uknown_any W).mono ?_
  rintro x w1 ⟨rfl, hx1⟩
  have HX1 : Hid (Ext W w1) := hx1
  have HMU := Lib.hid (tmuch_any (c := c) (HE.out.below HX1.out (Nat.le_refl _)) HX1.out.size (by have := HLN.out.2; omega) HLN.out.1)
  clear hx1
  go_wp2_with fail
  refine HMU.out.mono ?_
  rintro x w2 ⟨y, hy, rfl, hx2⟩
  have HX2 : Hid (Ext W w2) := Ext.trans HX1.out hx2
  have HY := Lib.hid hy
  clear hx2 hy HMU
  rcases y with _ | _
  rotate_left
  · go_wp2_with fail
    go_ret
    exact ⟨rfl, HX2.out⟩
  have HB := Lib.hid (HY.out rfl)
  by_cases hbig : 9000 < m.length
  · have d : decide ((9000 : Int) < (m.length : Int)) = true := decide_eq_true (by omega)
    have dn : decide (9000 < m.length) = true := decide_eq_true hbig
    clear hbig
    go_wp2_with fail
    go_ret
    exact ⟨rfl, HX2.out⟩
  have d : decide ((9000 : Int) < (m.length : Int)) = false := decide_eq_false (by omega)
  have dn : decide (9000 < m.length) = false := decide_eq_false hbig
  have HML : Hid (m.length ≤ 9000) := by unfold Hid; omega
  have HE2 := Lib.hid (HE.out.below HX2.out (Nat.le_refl _))
  have HW := Lib.hid (twrite_any HE2.out HX2.out.size HLC.out (by have := HB.out.1; omega))
  obtain ⟨Ls, hLs⟩ : ∃ Ls, Ls = L.map Prod.fst := ⟨_, rfl⟩
  have HLS := Lib.hid hLs
  rw [← hLs] at HW
  have HGD : Hid (∀ e ∈ Ls, (∀ x ∈ e.key, x < 256) ∧ ∀ x ∈ e.val, x < 256) := fun e he => by
    rw [HLS.out] at he
    obtain ⟨p, hp, rfl⟩ := List.mem_map.1 he
    have hem := HE.out.each p hp
    exact ⟨hem.bk, hem.bv⟩
  clear hbig hLs
  go_wp2_with fail
  refine HW.out.mono ?_
  rintro x w3 ⟨hx3, (⟨hmay, C, BA, bc, hf, hcu, rfl, hown⟩ | ⟨hno, rfl⟩)⟩
  rotate_left
  · have HX3 : Hid (Ext W w3) := Ext.trans HX2.out hx3
    have HRM := Lib.hid (rtmay_any (c := c) (HE.out.below HX3.out (Nat.le_refl _)) HX3.out.size (by have := HB.out.1; omega) HB.out.2)
    have HNO := Lib.hid hno
    clear hx3 hno
    go_wp2_with (first | (refine (unum _ _).mono ?_; rintro x wn ⟨rfl, rfl⟩) | (refine HRM.out.mono ?_; rintro x w4 ⟨q, hq, rfl, hx4⟩; have HX4 : Hid (Ext W w4) := Ext.trans HX3.out hx4; obtain rfl : q = false := (by cases q; rfl; exact absurd (HLS.out ▸ hq.1 rfl) HNO.out); clear hx4 hq))
    go_ret
    exact ⟨rfl, HX4.out⟩
  have HX3 : Hid (Ext W w3) := Ext.trans HX2.out hx3
  have HMC := Lib.hid (And.intro hmay (And.intro hcu hf))
  have HIS : Hid (IsT (tb C Ls) Ls) := ⟨hmay, C, hf, hcu, rfl⟩
  have HOP := Lib.hid (topen_any hown.bs (Nat.le_refl _) (utb_lt hmay hcu hf HGD.out) (ulen hmay hcu hf))
  have HBT : Hid (∀ x ∈ tb C Ls, x < 256) := utb_lt hmay hcu hf HGD.out
  have HBL : Hid (28 ≤ (tb C Ls).length ∧ (tb C Ls).length ≤ 300000028) := ⟨by rw [tb_len]; omega, by have := (few hmay hcu hf).a; rw [tb_len]; omega⟩
  have HOIS : Hid (∀ {w w' : World} {x : Ending}, TOpenAns w (tb C Ls) x w' → Ext w w' ∧ ∃ g, x = .returned (.tuple #[.pointer (some ⟨g, 0, none⟩), .int .i64 0]) ∧ TV w' g C Ls [] [] false) := fun h => open_is hmay hcu hf h
  obtain ⟨b, hb⟩ : ∃ b, b = tb C Ls := ⟨_, rfl⟩
  rw [← hb] at HIS HOP HBT HBL HOIS hown ⊢
  have HBO := Lib.hid (hown.base HX2.out.size)
  have db : ((b.length : Int) == 0) = false := by rw [beq_eq_false_iff_ne]; have := HBL.out; omega
  have dbn : (b.length == 0) = false := by rw [beq_eq_false_iff_ne]; have := HBL.out; omega
  clear hx3 hmay hcu hf hown hb HW
  go_wp2_with (refine (unum _ _).mono ?_; rintro x wn ⟨rfl, rfl⟩)
  refine HOP.out.mono ?_
  intro x w4 ho4
  obtain ⟨hx4, g, rfl, htv⟩ := HOIS.out ho4
  have HX34 := Lib.hid hx4
  have HX4 : Hid (Ext W w4) := Ext.trans HX3.out hx4
  have HTV := Lib.hid htv
  clear ho4 hx4 htv HOP
  go_wp2_with (first | (refine (unum _ _).mono ?_; rintro x wn ⟨rfl, rfl⟩) | (refine (tall_any ⟨_, rfl⟩).mono ?_; rintro x w5 ⟨rfl, hw5⟩; have HX45 : Hid (Ext w4 w5) := (by rw [hw5]; exact ext_alloc _ _); have HB5 : Hid (Boxed w5 w4.heap.size 33 (.pointer (some ⟨g, 0, none⟩))) := (by rw [hw5]; exact heap_at _ _ rfl); clear hw5))
  have HGO := Lib.hid (tgoes_any (most := 0) (c2 := c) (HTV.out.goes.2 w5 _ HX45.out HB5.out) (fun A hA => ⟨Ext.trans HX45.out hA, ext_heap hA HB5.out⟩) (HE.out.below (Ext.trans HX4.out HX45.out) (Nat.le_refl _)) (Ext.trans HX4.out HX45.out).size (by have := HB.out.1; omega) (by rw [inV_all]; exact HLS.out))
  refine HGO.out.mono ?_
  rintro x w6 ⟨rfl, hx6⟩
  have HX6 : Hid (Ext w4 w6) := Ext.trans HX45.out hx6
  clear hx6 HGO
  have HX7 : Hid (Ext W w6) := Ext.trans HX4.out HX6.out
  obtain ⟨k, hk⟩ : ∃ k, k = plc b.length z := ⟨_, rfl⟩
  have hkl : k < b.length := by rw [hk]; exact plc_lt (by have := HBL.out; omega) z
  have HK := Lib.hid hk
  have hkb : (k : Int) ≤ 1000000000 := by have := HBL.out; omega
  have hbb : (b.length : Int) ≤ 1000000000 := by have := HBL.out; omega
  have hb1 : (28 : Int) ≤ (b.length : Int) := by have := HBL.out; omega
  have HKL := Lib.hid hkl
  have hzz := HZZ.out
  clear hk hkl HX45 HB5
  go_upto_region 11 with (fail)
  go_upto_if 71 with (fail)
  go_cut [13] (fun v wx => v = .int .i64 (k : Int) ∧ wx = w6)
  case first =>
    by_cases hneg : z.tmod (b.length : Int) < 0
    · have h1 := plc_neg hneg
      rw [← HK.out] at h1
      have hk0 : 0 < k := by omega
      have hd : decide (-(k : Int) < 0) = true := by simp; omega
      have hd2 : decide ((0 : Int) < (k : Int)) = true := decide_eq_true (by omega)
      have hd3 : decide (0 < k) = true := decide_eq_true hk0
      have hw : wrap64 (- -(k : Int)) = (k : Int) := by unfold wrap64; omega
      have hw2 : wrap64 (k : Int) = (k : Int) := by unfold wrap64; omega
      have HEQ := Lib.hid h1
      clear h1 hneg
      rw [HEQ.out]
      go_wp2_with fail
      go_meet
      case rel => exact ⟨by first | rfl | rw [hw] | rw [Int.neg_neg, hw2] | rw [hw2], rfl⟩
    · have h1 := plc_pos hneg
      rw [← HK.out] at h1
      have hd : decide ((k : Int) < 0) = false := by simp
      have HEQ := Lib.hid h1
      clear h1 hneg
      rw [HEQ.out]
      go_wp2_with fail
      go_meet
      case rel => exact ⟨rfl, rfl⟩
  case rest =>
  obtain ⟨rfl, hwc⟩ := hcut
  have hwc := hwc.symm
  subst hwc
  have HBO6 : Hid (Own W.heap.size b (.slice BA b.length bc) w6) := HBO.out.below (Ext.trans HX34.out HX6.out)
  have hkc : k ≤ bc := by
    obtain ⟨A', c', he, h1, _⟩ := HBO.out.bs
    injection he with _ _ e3
    subst e3
    have := HKL.out; omega
  have HCUT : Hid (Bs w6 0 w6.heap.size (.slice BA (b.take k).length bc) (b.take k)) := by
    have h1 := HBO6.out.bs.head (k := k) (Nat.le_of_lt HKL.out)
    have e1 : (b.take k).length = k := by rw [List.length_take]; have := HKL.out; omega
    rw [e1]; exact h1
  have HOC := Lib.hid ((topen_any HCUT.out (Nat.le_refl _) (fun x hx => HBT.out x (List.mem_of_mem_take hx)) (by rw [List.length_take]; have := HBL.out; omega)).mono fun _ _ h => open_not (fun M hM => HIS.out.no_less HKL.out hM) h)
  have e1 : (b.take k).length = k := by rw [List.length_take]; have := HKL.out; omega
  rw [e1] at HOC
  clear e1 HCUT db dbn hkb hbb hb1 hzz d dn
  go_wp2_with fail
  refine HOC.out.mono ?_
  rintro x w8 ⟨hx8, rfl⟩
  have HX68 := Lib.hid hx8
  have HX8 : Hid (Ext W w8) := Ext.trans HX7.out hx8
  have HBO8 := Lib.hid (HBO6.out.below hx8)
  have HBOB := Lib.hid HBO8.out.bs
  clear hx8 HOC hkc
  go_wp2_with (at_builtin; refine wpList_addbytes rfl (.const (.slice none 0 0)) (.tmp 82) rfl w8.heap.size _ [] rfl (Own.nil _ _) 0 w8.heap.size _ b rfl HBOB.out (by have := HBL.out; simp only [List.length_nil]; omega) (Nat.le_refl _) ?_)
  intro A9 c9 w9 ho9 hb9
  have ho9' : Own w8.heap.size b (.slice A9 b.length c9) w9 := ho9
  have HO9 := Lib.hid ho9'
  have HX89 : Hid (Ext w8 w9) := hb9 w8 (Ext.refl _)
  have HV9 : Hid (Bs w9 0 W.heap.size (.slice VA m.length vc) m) := HV.out.below (Ext.trans HX8.out HX89.out) (Nat.le_refl _)
  clear ho9 ho9' hb9 HBOB
  go_wp2_with (at_builtin; refine wpList_addbytes rfl (.tmp 83) (.tmp 84) rfl w8.heap.size _ b rfl HO9.out 0 W.heap.size _ m rfl HV9.out (by have := HBL.out; have := HML.out; omega) HX89.out.size ?_)
  intro A10 c10 w10 ho10 hb10
  have ho10 : Own w8.heap.size (b ++ m) (.slice A10 (b ++ m).length c10) w10 := by rw [List.length_append]; exact ho10
  have HX10 : Hid (Ext w8 w10) := hb10 w8 HX89.out
  have HOM := Lib.hid (topen_any ho10.bs (Nat.le_refl _) (fun x hx => by rcases List.mem_append.1 hx with h | h; exact HBT.out x h; exact HM.out x h) (by rw [List.length_append]; have := HBL.out; have := HML.out; omega))
  clear ho10 hb10
  obtain ⟨N, hN⟩ : ∃ N, N = b.length + m.length := ⟨_, rfl⟩
  rw [List.length_append, ← hN] at HOM
  rw [← hN]
  clear hN
  have HRES : Hid (∃ q : Nat, (q = 0 ↔ m = []) ∧ q ≤ 10 ∧ Calls Tryz.prog 17 #[.slice A10 N c10] w10 fun x w' => Ext w10 w' ∧ ∃ p, x = .returned (.tuple #[.pointer p, .int .i64 (q : Int)])) := by
    by_cases hm0 : m = []
    · refine ⟨0, ⟨fun _ => hm0, fun _ => rfl⟩, by omega, HOM.out.mono fun x w' h => ?_⟩
      rw [hm0, List.append_nil] at h
      obtain ⟨h1, g', h2, _⟩ := HOIS.out h
      exact ⟨h1, _, h2⟩
    · refine ⟨10, ⟨fun h => (by omega), fun h => absurd h hm0⟩, by omega, HOM.out.mono fun x w' h => ?_⟩
      obtain ⟨h1, h2⟩ := open_not (fun M hM => hm0 (HIS.out.no_more hM)) h
      exact ⟨h1, _, h2⟩
  clear HOM
  obtain ⟨q, hq, hq10, hqc⟩ := HRES.out
  have HQC := Lib.hid hqc
  have HQ := Lib.hid (And.intro hq hq10)
  clear hqc hq hq10 HRES
  go_wp2_with fail
  refine HQC.out.mono ?_
  rintro x w11 ⟨hx11, p11, rfl⟩
  have HX11 : Hid (Ext w8 w11) := Ext.trans HX10.out hx11
  have HBO11 : Hid (Bs w11 0 w11.heap.size (.slice BA b.length bc) b) := (HBO8.out.below HX11.out).bs
  clear hx11 HQC
  go_wp2_with (at_builtin; refine wpList_addbytes rfl (.const (.slice none 0 0)) (.tmp 89) rfl w11.heap.size _ [] rfl (Own.nil _ _) 0 w11.heap.size _ b rfl HBO11.out (by have := HBL.out; simp only [List.length_nil]; omega) (Nat.le_refl _) ?_)
  intro A12 c12 w12 ho12 hb12
  have ho12' : Own w11.heap.size b (.slice A12 b.length c12) w12 := ho12
  have HX12 : Hid (Ext w11 w12) := hb12 w11 (Ext.refl _)
  obtain ⟨g12, c12', he12, hg1, hg2, hg3⟩ := ho12'.block (by have := HBL.out; omega)
  injection he12 with ea eb ec
  subst ea ec
  have HO12 := Lib.hid ho12'
  have ck := ho12'.cell HKL.out
  have fk := ho12'.free k
  obtain ⟨y, hy⟩ : ∃ y, y = b[k]'HKL.out := ⟨_, rfl⟩
  have hy8 : y < 256 := by rw [hy]; exact HBT.out _ (List.getElem_mem _)
  rw [← hy] at ck
  have HYE := Lib.hid hy
  have hxor := u8_xor_nat y t hy8 HT8.out
  have HG12 := Lib.hid (And.intro hg1 (And.intro hg2 hg3))
  have nk1 : (0 : Int) ≤ (k : Int) := Int.natCast_nonneg _
  have nk2 : (k : Int) < (b.length : Int) := Int.ofNat_lt.2 HKL.out
  clear ho12 ho12' hb12 eb hg1 hg2 hg3 hy hy8
  go_upto_region 18 with (fail)
  obtain ⟨w13, hw13⟩ : ∃ w13, w13 = w12.setCell ⟨g12, k, none⟩ (.int .u8 ((y ^^^ t : Nat) : Int)) := ⟨_, rfl⟩
  rw [← hw13]
  have HO13 : Hid (Own w11.heap.size (b.set k (y ^^^ t)) (.slice (some ⟨g12, 0, none⟩) b.length c12) w13) := by rw [hw13]; exact HO12.out.set k (y ^^^ t)
  have HX13 : Hid (Ext w11 w13) := by
    rw [hw13]
    exact Below.trans HX12.out ((Chg.setCell (S := fun i => i = g12) w12 ⟨g12, k, none⟩ _ rfl).below (fun i e => by have := HG12.out.1; omega) HX12.out.size)
  have hl13 : (b.set k (y ^^^ t)).length = b.length := List.length_set
  have HOS := Lib.hid (topen_any (b := b.set k (y ^^^ t)) (by rw [hl13]; exact HO13.out.bs) (Nat.le_refl _) (fun x hx => by rcases List.mem_or_eq_of_mem_set hx with h | h; exact HBT.out x h; rw [h]; exact Nat.xor_lt_two_pow (n := 8) (by rw [HYE.out]; exact HBT.out _ (List.getElem_mem _)) HT8.out) (by rw [hl13]; have := HBL.out; omega))
  rw [hl13] at HOS
  have HRES : Hid (∃ q2 : Nat, (q2 = 0 ↔ t = 0) ∧ q2 ≤ 10 ∧ Calls Tryz.prog 17 #[.slice (some ⟨g12, 0, none⟩) b.length c12] w13 fun x w' => Ext w13 w' ∧ ∃ p, x = .returned (.tuple #[.pointer p, .int .i64 (q2 : Int)])) := by
    by_cases ht0 : t = 0
    · refine ⟨0, ⟨fun _ => ht0, fun _ => rfl⟩, by omega, HOS.out.mono fun x w' h => ?_⟩
      have e9 : b.set k (y ^^^ t) = b := by
        rw [ht0, Nat.xor_zero, HYE.out, List.set_getElem_self]
      rw [e9] at h
      obtain ⟨h1, g', h2, _⟩ := HOIS.out h
      exact ⟨h1, _, h2⟩
    · refine ⟨10, ⟨fun h => (by omega), fun h => absurd h ht0⟩, by omega, HOS.out.mono fun x w' h => ?_⟩
      obtain ⟨h1, h2⟩ := open_not (fun M hM => ht0 (by rw [HYE.out] at hM; exact HIS.out.no_other HBT.out HKL.out HT8.out hM)) h
      exact ⟨h1, _, h2⟩
  clear HOS hw13 hl13 ck fk hxor nk1 nk2
  obtain ⟨q2, hq2, hq210, hqc2⟩ := HRES.out
  have HQC2 := Lib.hid hqc2
  have HQ2 := Lib.hid (And.intro hq2 hq210)
  clear hqc2 hq2 hq210 HRES
  go_wp2_with fail
  refine HQC2.out.mono ?_
  rintro x w14 ⟨hx14, p14, rfl⟩
  have HX14 : Hid (Ext W w14) := Ext.trans HX8.out (Ext.trans HX11.out (Ext.trans HX13.out hx14))
  obtain ⟨z1, a1, a2, a3, a4⟩ : ∃ z1 : Bool, ((m.length : Int) == 0) = z1 ∧ (m.length == 0) = z1 ∧ ((q : Int) == 0) = z1 ∧ (q == 0) = z1 := by
    by_cases hm0 : m = []
    · have hq0 := HQ.out.1.2 hm0
      exact ⟨true, by simp [hm0], by simp [hm0], by simp [hq0], by simp [hq0]⟩
    · have hq0 : q ≠ 0 := fun h => hm0 (HQ.out.1.1 h)
      have hl0 : m.length ≠ 0 := fun h => hm0 (List.eq_nil_of_length_eq_zero h)
      exact ⟨false, by rw [beq_eq_false_iff_ne]; omega, by rw [beq_eq_false_iff_ne]; exact hl0, by rw [beq_eq_false_iff_ne]; omega, by rw [beq_eq_false_iff_ne]; exact hq0⟩
  obtain ⟨z2, b1, b2, b3, b4⟩ : ∃ z2 : Bool, ((t : Int) == 0) = z2 ∧ (t == 0) = z2 ∧ ((q2 : Int) == 0) = z2 ∧ (q2 == 0) = z2 := by
    by_cases ht0 : t = 0
    · have hq0 := HQ2.out.1.2 ht0
      exact ⟨true, by simp [ht0], by simp [ht0], by simp [hq0], by simp [hq0]⟩
    · have hq0 : q2 ≠ 0 := fun h => ht0 (HQ2.out.1.1 h)
      exact ⟨false, by rw [beq_eq_false_iff_ne]; omega, by rw [beq_eq_false_iff_ne]; exact ht0, by rw [beq_eq_false_iff_ne]; omega, by rw [beq_eq_false_iff_ne]; exact hq0⟩
  have a5 : (z1 == z1) = true := by simp
  have b5 : (z2 == z2) = true := by simp
  clear hx14 HQC2
  go_wp2_with (refine (unum _ _).mono ?_; rintro x wn ⟨rfl, rfl⟩)
  go_ret
  exact ⟨rfl, HX14.out⟩
end Go.Proofs.YthhgjeeangepaaaGreat.ucorrupt

/- TableCorrupt: from the walk to the statement. For every input the law answers true and leaves its arguments as they were. -/
namespace Go.Proofs.YthhgjeeangepaaaGreat.ucorrupt
open Go.ChangeShapes Go.WideShapes Go.ChangeAt Go.RowKit
set_option linter.unusedVariables false

set_option maxRecDepth 100000 in
theorem lifted (os : Os) (started : os.Started) (H : Type) (enc : TypeId × Value → H) :
    ReturnsInHanded {} Tryz.checked os 7 .any (Rows.tableCorruptSpec.pre6 enc Tryz.prog Tryz.f7 Rows.tableCorruptRow.domain false) (Rows.tableCorruptSpec.post enc Tryz.prog Tryz.f7 false true false false) := by
  refine returnsInHanded_of_change_sized (C := Tryz.checked) own started (by kernel_rfl) Tryz.func7
    (ChangeSpec.witness6 (enc := enc) (C := Tryz.checked) false ⟨#[], #[.slice none 0 0, .int .i64 0, .int .u8 0, .slice none 0 0], []⟩ 8 (by kernel_rfl) (by kernel_rfl) (by kernel_rfl) (by kernel_rfl)) ?_
  intro W base args ds gs before hval0 hW hcnd hsz0 _
  have hsz : (DataW.weightsEach Tryz.prog (Tryz.f7.params.toList ++ Rows.tableCorruptSpec.plain.varTypes Tryz.prog) (ds ++ gs)).all (· ≤ reachBytes) = true := hsz0
  have hval : ∀ (j : Nat) t v, Tryz.f7.params[j]? = some t → args[j]? = some v → Value.okWide Tryz.prog W .any base t v := hval0
  have hW' := hW
  obtain ⟨p, q, hA0, hV, rfl, hfz, hnd⟩ := hW
  have hA : DataW.TrodAll enc Tryz.prog W 0 (fun _ => true) true Tryz.f7.params.toList args.toList ds p := hA0
  rw [Tryz.params7] at hA hval hsz
  obtain ⟨v0, vs0, d0, ds0, p0, q0, hargs, rfl, rfl, h0, r0⟩ := trodAll_cons hA
  obtain ⟨v1, vs1, d1, ds1, p1, q1, rfl, rfl, rfl, h1, r1⟩ := trodAll_cons r0
  obtain ⟨v2, vs2, d2, ds2, p2, q2, rfl, rfl, rfl, h2, r2⟩ := trodAll_cons r1
  obtain ⟨v3, vs3, d3, ds3, p3, q3, rfl, rfl, rfl, h3, r3⟩ := trodAll_cons r2
  obtain ⟨rfl, rfl, rfl⟩ := trodAll_nil r3
  obtain rfl : args = #[v0, v1, v2, v3] := by cases args; simp_all
  obtain ⟨rfl, rfl⟩ := trodVars_none hV
  have k0 := h0
  have lt0 : ∀ x ∈ p0, x.block < W.heap.size := by obtain ⟨m, hm⟩ := k0; exact DataW.trod_lt m _ _ _ hm
  obtain ⟨A0, c0, L0, rfl, x0, y0, m0, z0, n0⟩ := open_entries (hval 0 22 v0 rfl rfl) h0 hsz (jj := 0) rfl rfl
  obtain ⟨a1, rfl, rfl, rfl, w1⟩ := open_int Tryz.underlying3 (hval 1 3 v1 rfl rfl) h1
  obtain ⟨a2, rfl, rfl, rfl, w2⟩ := open_int Tryz.underlying5 (hval 2 5 v2 rfl rfl) h2
  have k3 := h3
  have lt3 : ∀ x ∈ p3, x.block < W.heap.size := by obtain ⟨m, hm⟩ := k3; exact DataW.trod_lt m _ _ _ hm
  obtain ⟨l3, y3, b3⟩ := open_bytes (hval 3 26 v3 rfl rfl) h3
  clear hA0 hval0 hsz0
  refine (walk W A0 c0 L0 x0 y0 m0 z0 n0 a1 w1 a2 w2 v3 l3 b3 y3).mono fun e W' ⟨he, bel⟩ => ?_
  subst he
  exact ⟨_, rfl, _, _, _, [], _, [], hW', trodAll_mk1 (shut_bool Tryz.underlying4 _), (trodAll_cons_mk (Below.trod laidOut (by kernel_rfl) (of_decide_eq_true (by kernel_rfl)) k0 bel lt0) (trodAll_cons_mk (shut_int Tryz.underlying3 w1) (trodAll_cons_mk (shut_int Tryz.underlying5 w2) (trodAll_cons_mk (Below.trod laidOut (by kernel_rfl) (of_decide_eq_true (by kernel_rfl)) k3 bel lt3) trodAll_mk0)))), rfl, bel.frame _, fun h => by cases h⟩

theorem over : Rows.tableCorruptRow.holds Tryz.pinned (OpenSpec.ofChange Rows.tableCorruptSpec) :=
  OpenClaim.holds_of_wide 7 Tryz.f7 rfl rfl rfl rfl rfl rfl rfl ⟨rfl, rfl, rfl, rfl, rfl⟩ rfl rfl rfl rfl rfl (by kernel_rfl) Tryz.func7 (by kernel_rfl)
    (of_decide_eq_true (by kernel_rfl)) (by unfold Func.isWrapper; first | (rw [if_pos (by decide +kernel)]; kernel_rfl) | (rw [if_neg (by decide +kernel)]; exact ⟨rfl, rfl⟩))
    (fun os started H enc _ => lifted os started H enc)

theorem proved : Rows.TableCorruptSaid := over
end Go.Proofs.YthhgjeeangepaaaGreat.ucorrupt
