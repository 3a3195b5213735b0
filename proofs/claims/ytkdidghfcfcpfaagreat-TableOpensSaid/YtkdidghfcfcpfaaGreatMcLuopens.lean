/- TableOpens: for every input the law answers true, and its arguments stay. No conditions. -/
import Derived.Test.YtkdidghfcfcpfaaGreatMc20
import Derived.Test.YtkdidghfcfcpfaaGreatMc21
import Derived.Test.YtkdidghfcfcpfaaGreatMc19
import Derived.Test.YtkdidghfcfcpfaaGreatMc6
import Derived.Test.YtkdidghfcfcpfaaGreatMc0
namespace Go.Proofs.YtkdidghfcfcpfaaGreat.uopens
open Go.ChangeShapes Go.WideShapes Go.ChangeAt Go.RowKit
theorem inV_all (L : List Ent) : inV [] [] false L = L := by
 unfold inV
 rw [List.filter_eq_self]
 intro e _
 unfold hasV endsV
 rw [cmpK_nil]
 split <;> simp
def SlN (n : Nat) (v : Value) (_ : World) : Prop := ∃ A c, v = .slice A n c
theorem slN_mono (n : Nat) : Mono (SlN n) := fun _ _ _ h _ => h
def GoA (C : List (List Ent)) (L : List Ent) (v : Value) (u : World) : Prop := ∃ bx g, v = .func (.func 40) #[] #[.pointer (some ⟨bx, 0, none⟩)] ∧ Boxed u bx 24 (.pointer (some ⟨g, 0, none⟩)) ∧ TV u g C L [] [] false
theorem goA_mono (C : List (List Ent)) (L : List Ent) : Mono (GoA C L) := fun _ _ _ ⟨bx, g, h, hb, hv⟩ hu => ⟨bx, g, h, ext_heap hu hb, hv.ext hu⟩
theorem goA_goes {C : List (List Ent)} {L : List Ent} {v : Value} {u : World} (h : GoA C L v u) {lo2 hi2 c2 : Nat} {X : Option Addr} {L2 : List (Ent × Hd)} {most : Int} (h2 : Es u lo2 hi2 X L2) (hhi2 : hi2 ≤ u.heap.size) (hl2 : L2.length ≤ 1000000000000) (hfit : L = L2.map Prod.fst) :
    Calls Tryz.prog 10 #[v, .slice X L2.length c2, .int .i64 most] u fun e w' => e = .returned (.bool true) ∧ Ext u w' := by
 obtain ⟨bx, g, rfl, hb, hv⟩ := h
 exact tgoes_any (hv.goes.2 u bx (Ext.refl _) hb) (fun A hA => ⟨hA, ext_heap hA hb⟩) h2 hhi2 hl2 (by rw [inV_all]; exact hfit)
theorem Es.setB {w : World} {lo hi : Nat} {A : Option Addr} {L : List (Ent × Hd)} (h : Es w lo hi A L) {p : Addr} (hp : p.block < lo) (u : Value) : Es (w.setCell p u) lo hi A L := ⟨h.outer.setCell (.inl hp) u, fun q hq => (h.each q hq).setCell (.inl hp) u⟩
set_option maxRecDepth 100000 in
set_option maxHeartbeats 16000000 in
theorem walk (W : World) (v0 : Value) (b : List Nat) (hb : Bs W 0 W.heap.size v0 b) (bb : ∀ x ∈ b, x < 256) (most : Int) (_ws : (Lit.int .i64 most).wf = true) :
    Calls Tryz.prog 3 #[v0, .int .i64 most] W fun e w' => e = .returned (.bool true) ∧ Below W.heap.size W w' := by
 clear _ws
 obtain ⟨A, c, rfl, _, hcm, _, _⟩ := id hb
 have HV := zHd hb
 have HBB := zHd bb
 have HBM : Hid (b.length ≤ 9223372036854775807) := by have := hb.len.2; unfold maxLen at this; unfold Hid; omega
 clear hb bb hcm
 go_enter Tryz.func3, Tryz.ntmps3
 by_cases h6 : b.length ≤ 60000
 rotate_left
 · have d : decide ((60000 : Int) < (b.length : Int)) = true := decide_eq_true (by omega)
   have dn : decide (60000 < b.length) = true := decide_eq_true (by omega)
   clear h6
   go_wp2_with fail
   refine (uknown_any W).mono ?_
   rintro x w3 ⟨rfl, hx⟩
   have HXK := zHd (zEt (Ext.refl W) hx)
   clear hx
   go_wp2_with fail
   go_ret
   exact ⟨rfl, HXK.out⟩
 have d : decide ((60000 : Int) < (b.length : Int)) = false := decide_eq_false (by omega)
 have dn : decide (60000 < b.length) = false := decide_eq_false (by omega)
 have HL := zHd h6
 clear h6
 go_upto_region 3 with (fail)
 clear d dn
 go_wp2_with (at_builtin; refine wpList_addbytes rfl (.const (.slice none 0 0)) (.tmp 15) rfl W.heap.size _ [] rfl (Own.nil _ _) 0 W.heap.size _ b rfl HV.out (by have := HL.out; simp only [List.length_nil]; omega) (zNr _) ?_)
 intro OA oc w1 ho1' hb1
 have ho1 : Own W.heap.size b (.slice OA b.length oc) w1 := ho1'
 have HX1 : Hid (Ext W w1) := hb1 W (Ext.refl _)
 clear ho1' hb1
 have HO1 := zHd ho1
 have HOP := zHd (topen_any ho1.bs (zNr _) HBB.out (by have := HL.out; omega))
 clear ho1
 go_wp2_with fail
 refine HOP.out.mono ?_
 intro x w2 hop
 have HX12 : Hid (Ext w1 w2) := hop.1
 have HX2 : Hid (Ext W w2) := zEt HX1.out hop.1
 have HRO := zHd (ropen_any (HV.out.below HX2.out (zNr _)) HX2.out.size HBB.out (by have := HL.out; omega))
 have HO2 := zHd (HO1.out.below hop.1)
 obtain ⟨_, (⟨C, L, g, hm, hc, hf, htb, hgd, rfl, hlg, hta⟩ | ⟨hno, rfl⟩)⟩ := hop
 rotate_left
 · have HNO := zHd hno
   clear hno HOP
   go_upto_region 5 with (fail)
   go_wp2_with fail
   refine HRO.out.mono ?_
   rintro x w3 ⟨hx3, (⟨_, _, R, _, _, _, hist⟩ | ⟨_, rfl⟩)⟩
   · exact absurd hist (HNO.out _)
   have HX3 : Hid (Ext W w3) := zEt HX2.out hx3
   have v1 := cv_any ((HO2.out.below hx3).bs)
   have v2 := cv_any (HV.out.below HX3.out (zNr _))
   have htt : ((tx b).toList == (tx b).toList) = true := by simp
   clear hx3 HRO
   go_wp2_with fail
   refine (unum _ _).mono ?_
   rintro x _ ⟨rfl, rfl⟩
   go_wp2_with fail
   refine (uknown_any w3).mono ?_
   rintro x w5 ⟨rfl, hx⟩
   have HXK := zHd (zEt HX3.out hx)
   clear hx
   go_wp2_with fail
   go_ret
   exact ⟨rfl, HXK.out⟩
 have HT := zHd (And.intro hm (And.intro hc (And.intro hf (And.intro htb hgd))))
 have HLG := zHd hlg
 have HTA := zHd hta
 clear hm hc hf htb hgd hlg hta HOP
 have HISL : Hid (IsT b L) := ⟨HT.out.1, C, HT.out.2.2.1, HT.out.2.1, HT.out.2.2.2.1⟩
 have HB0 : Hid (0 < b.length) := by rw [← HT.out.2.2.2.1, tb_len]; unfold Hid; omega
 obtain ⟨og, oc', he, hog1, hog2, _⟩ := HO1.out.block HB0.out
 injection he with he _ he3
 subst he
 subst he3
 have HOG : Hid (W.heap.size ≤ og ∧ og < w1.heap.size) := ⟨hog1, hog2⟩
 clear hog1 hog2
 go_upto_region 5 with (fail)
 go_wp2_with fail
 refine HRO.out.mono ?_
 rintro x w3 ⟨hx3, (⟨RA, rc, R, rfl, hesR, _, hist⟩ | ⟨hno, rfl⟩)⟩
 rotate_left
 · exact absurd HISL.out (hno _)
 have HRL : Hid (R.map Prod.fst = L) := hist.unique HISL.out
 have HES := zHd hesR
 have HX3 : Hid (Ext W w3) := zEt HX2.out hx3
 have HTA3 := zHd (HTA.out.ext hx3)
 have HO3 := zHd (HO2.out.below hx3)
 have HX23 : Hid (Ext w2 w3) := hx3
 have v1 := cv_any HO3.out.bs
 have v2 := cv_any (HV.out.below HX3.out (zNr _))
 have htt : ((tx b).toList == (tx b).toList) = true := by simp
 have HRN : Hid (R.length ≤ 4096) := by have := HT.out.1.2.1; rw [← HRL.out, List.length_map] at this; exact this
 clear hx3 hesR hist HRO
 go_upto_region 6 with (fail)
 go_wp2_with fail
 refine (unum _ _).mono ?_
 rintro x _ ⟨rfl, rfl⟩
 go_upto_region 8 with (fail)
 clear v1 v2
 go_upto_region 10 with (fail)
 have hbl : (b.length : Int) ≤ 60000 := by have := HL.out; omega
 go_wp2_with fail
 go_loopw [10] (fun iv wq => ∃ (k : Nat) (D : List Nat), iv = .int .i64 (k : Int) ∧ k ≤ b.length ∧ Hid (D.length = b.length) ∧ Hid (Own W.heap.size D (.slice (some ⟨og, 0, none⟩) b.length oc) wq) ∧ Hid (Ext W wq) ∧ Hid (TAt wq w1.heap.size g C L (.slice none 0 0) (.slice none 0 0) false) ∧ Hid (Es wq w2.heap.size w3.heap.size RA R ∧ w3.heap.size ≤ wq.heap.size)) (fun iv _ => b.length - (intOf iv).toNat)
 case atStart => exact ⟨0, b, rfl, Nat.zero_le _, rfl, HO3.out, HX3.out, HTA3.out, HES.out, zNr _⟩
 case round =>
  rename World => wq
  obtain ⟨k, D, rfl, hk, HDL, HOW, HX, HTQ, HEQ⟩ := hrel
  by_cases hlt : k < b.length
  · have d : decide ((k : Int) < (b.length : Int)) = true := decide_eq_true (by omega)
    have dn : decide (k < b.length) = true := decide_eq_true hlt
    have HLT := zHd hlt
    obtain ⟨yb, hcell⟩ : ∃ yb : Nat, wq.cell? ⟨og, k, none⟩ = some (.int .u8 (yb : Int)) := ⟨_, HOW.out.cell (i := k) (by rw [HDL.out]; exact hlt)⟩
    have hfz := HOW.out.free k
    have n1 : (0 : Int) ≤ (k : Int) := Int.natCast_nonneg _
    have n2 : (k : Int) < (b.length : Int) := by omega
    clear hlt hk
    go_wp2_with fail
    go_roundw
    case rel => exact ⟨k + 1, D.set k 102, by go_num, HLT.out, by rw [Hid, List.length_set]; exact HDL.out, HOW.out.set k 102, Below.setCell HX.out HOG.out.1 _, HTQ.out.set HLG.out HOG.out.2 _, ⟨Es.setB HEQ.out.1 (Nat.lt_of_lt_of_le HOG.out.2 HX12.out.size) _, by have := HEQ.out.2; simpa [World.setCell] using this⟩⟩
    case measure => have := HLT.out; simp [intOf]; omega
  have d : decide ((k : Int) < (b.length : Int)) = false := decide_eq_false (by omega)
  have dn : decide (k < b.length) = false := decide_eq_false hlt
  clear hlt hk
  have hta := HTQ.out
  have HTV : Hid (TV wq g C L [] [] false) := TV.whole HT.out.1 HT.out.2.1 HT.out.2.2.1 HT.out.2.2.2.2 hta
  have HES2 := zHd (HEQ.out.1.wide (Nat.zero_le _) HEQ.out.2)
  clear hta
  have HALL : Hid (∀ u, Ext wq u → Calls Tryz.prog 11 #[.pointer (some ⟨g, 0, none⟩)] u fun x w' => ∃ v, x = .returned v ∧ Ext u w' ∧ GoA C L v w') := fun u hu => by
   refine (tall_any ⟨_, rfl⟩).mono ?_
   rintro x w' ⟨rfl, hw'⟩
   have hx : Ext u w' := by rw [hw']; exact ext_alloc _ _
   exact ⟨_, rfl, hx, u.heap.size, g, rfl, (by rw [hw']; exact heap_at _ _ rfl), (HTV.out.ext hu).ext hx⟩
  have HGO : Hid (∀ (v : Value) (n : Int) u, Ext wq u → GoA C L v u → Calls Tryz.prog 10 #[v, .slice RA R.length rc, .int .i64 n] u fun x w' => x = .returned (.bool true) ∧ Ext u w') := fun v n u hu hg =>
   goA_goes hg (HES2.out.below hu (zNr _)) hu.size (by have := HRN.out; omega) HRL.out.symm
  have HLN : Hid (∀ u, Ext wq u → Calls Tryz.prog 12 #[.pointer (some ⟨g, 0, none⟩)] u fun x w' => x = .returned (.int .i64 (R.length : Int)) ∧ Ext u w') := fun u hu => by
   have hl : (inV [] [] false L).length = R.length := by rw [inV_all, ← HRL.out, List.length_map]
   have h := tlen_any (HTV.out.ext hu).goes (by rw [hl]; have := HRN.out; omega)
   rw [hl] at h
   exact h
  have HBK : Hid (∀ u, Ext wq u → Calls Tryz.prog 13 #[.pointer (some ⟨g, 0, none⟩)] u fun x w' => x = .returned (.int .i64 (C.length : Int)) ∧ Ext u w') := fun u hu => (tblocks_any (HTV.out.ext hu)).mono fun x w' h => ⟨h.1, by rw [h.2]; exact Ext.refl _⟩
  have HCT : Hid (∀ u, Ext wq u → Calls Tryz.prog 14 #[.slice RA R.length rc] u fun x w' => ∃ v, x = .returned v ∧ Ext u w' ∧ SlN C.length v w') := fun u hu => by
   refine (rtcut_any (c := rc) (HES2.out.below hu (zNr _)) hu.size (by rw [HRL.out]; exact HT.out.1)).mono ?_
   rintro x w' ⟨hx, C2, X, d2, rfl, h1, h2, _⟩
   have e : C2.map (·.map Prod.fst) = C := cut_unique h2 HT.out.2.1 (by rw [← List.map_flatten, h1, HRL.out, HT.out.2.2.1])
   have e2 : C2.length = C.length := by rw [← e, List.length_map]
   exact ⟨_, rfl, hx, X, d2, by rw [e2]⟩
  have HBY : Hid (∀ u, Ext wq u → Calls Tryz.prog 15 #[.pointer (some ⟨g, 0, none⟩)] u fun x w' => ∃ v, x = .returned v ∧ Ext u w' ∧ Own wq.heap.size b v w') := fun u hu => by
   refine (tbytes_any (HTV.out.ext hu)).mono ?_
   rintro x w' ⟨v, rfl, ho, hx⟩
   rw [HT.out.2.2.2.1] at ho
   exact ⟨v, rfl, hx, (show Own u.heap.size b v w' from ho).base hu.size⟩
  have HCV : Hid (∀ u, Ext wq u → (convert 22 9 (.slice A b.length c)).run Tryz.prog u = .ok (.string (tx b)) u) := fun u hu => cv_any (HV.out.below (zEt HX.out hu) (zNr _))
  go_upto_region 14 with (fail)
  clear d dn
  refine flow (by kernel_rfl) [Is (.pointer (some ⟨g, 0, none⟩)), GoA C L, Is (.slice RA R.length rc), Is (.int .i64 most), Is (.bool true), Is (.bool true), Is (.pointer (some ⟨g, 0, none⟩)), GoA C L, Is (.slice RA R.length rc), Is (.bool true), Is (.bool true), Is (.bool true), Is (.pointer (some ⟨g, 0, none⟩)), Is (.int .i64 (R.length : Int)), Is (.slice RA R.length rc), Is (.int .i64 (R.length : Int)), Is (.bool true), Is (.bool true), Is (.bool true), Is (.pointer (some ⟨g, 0, none⟩)), Is (.int .i64 (C.length : Int)), Is (.slice RA R.length rc), SlN C.length, Is (.int .i64 (C.length : Int)), Is (.bool true), Is (.bool true), Is (.bool true), Is (.pointer (some ⟨g, 0, none⟩)), Own wq.heap.size b, Is (.string (tx b)), Is (.slice A b.length c), Is (.string (tx b)), Is (.bool true), Is (.bool true), Is (.bool true), Is (.bool true), Is (.bool true), Is (.bool true)] (by kernel_rfl) (by kernel_rfl) ?mono (fun f1 => ?obl) ?fin
  case mono =>
   simp only [List.forall_mem_cons, List.not_mem_nil, false_imp_iff, implies_true, and_true]
   exact ⟨.is _, goA_mono _ _, .is _, .is _, .is _, .is _, .is _, goA_mono _ _, .is _, .is _, .is _, .is _, .is _, .is _, .is _, .is _, .is _, .is _, .is _, .is _, .is _, .is _, slN_mono _, .is _, .is _, .is _, .is _, .is _, .own _ _, .is _, .is _, .is _, .is _, .is _, .is _, .is _, .is _, .is _⟩
  case fin =>
   intro g1 u hu hg
   simp only [puts, Act.put, zq]
   have h37 : g1 37 = _ := hg 37 (by decide)
   rw [h37]
   have HU := zHd (zEt HX.out (zEt (Ext.drew wq) hu))
   clear h37 hg hu
   go_wp2_with fail
   go_ret
   exact ⟨rfl, HU.out⟩
  case obl =>
   refine ⟨fun u hu hd => ?_, fun u hu hd => ?_, fun u hu hd => ?_, fun u hu hd => ?_, fun u hu hd => ?_, fun u hu hd => ?_, fun u hu hd => ?_, fun u hu hd => ?_, fun u hu hd => ?_, fun u hu hd => ?_, fun u hu hd => ?_, fun u hu hd => ?_, fun u hu hd => ?_, fun u hu hd => ?_, fun u hu hd => ?_, fun u hu hd => ?_, fun u hu hd => ?_, fun u hu hd => ?_, fun u hu hd => ?_, fun u hu hd => ?_, fun u hu hd => ?_, fun u hu hd => ?_, fun u hu hd => ?_, fun u hu hd => ?_, fun u hu hd => ?_, fun u hu hd => ?_, fun u hu hd => ?_, fun u hu hd => ?_, fun u hu hd => ?_, fun u hu hd => ?_, fun u hu hd => ?_, fun u hu hd => ?_, fun u hu hd => ?_, fun u hu hd => ?_, fun u hu hd => ?_, fun u hu hd => ?_, fun u hu hd => ?_, fun u hu hd => ?_, trivial⟩
   all_goals try simp only [Act.put, zq]
   · go_simp
     exact zEr
   · have e0 : f1 0 = _ := hd 0 (by kernel_rfl)
     have hu2 := zEt (Ext.drew wq) hu
     go_simp
     refine (HALL.out u hu2).mono ?_
     rintro x9 w9 ⟨v9, rfl, hx9, hg9⟩
     exact ⟨_, rfl, hx9, hg9⟩
   · go_simp
     exact zEr
   · go_simp
     exact zEr
   · have e2 : f1 2 = _ := hd 2 (by kernel_rfl)
     have e3 : f1 3 = _ := hd 3 (by kernel_rfl)
     have h1 : GoA C L (f1 1) u := hd 1 (by kernel_rfl)
     have hu2 := zEt (Ext.drew wq) hu
     have hc := HGO.out (f1 1) most u hu2 h1
     clear h1
     go_simp
     refine hc.mono ?_
     rintro x9 w9 ⟨rfl, hx9⟩
     exact ⟨_, rfl, hx9, rfl⟩
   · have e4 : f1 4 = _ := hd 4 (by kernel_rfl)
     go_simp
     exact zEr
   · have e5 : f1 5 = _ := hd 5 (by kernel_rfl)
     go_simp
     exact zEr
   · have e5 : f1 5 = _ := hd 5 (by kernel_rfl)
     have e6 : f1 6 = _ := hd 6 (by kernel_rfl)
     have hu2 := zEt (Ext.drew wq) hu
     go_simp
     refine (HALL.out u hu2).mono ?_
     rintro x9 w9 ⟨v9, rfl, hx9, hg9⟩
     exact ⟨_, rfl, hx9, hg9⟩
   · have e5 : f1 5 = _ := hd 5 (by kernel_rfl)
     go_simp
     exact zEr
   · have e5 : f1 5 = _ := hd 5 (by kernel_rfl)
     have e8 : f1 8 = _ := hd 8 (by kernel_rfl)
     have h7 : GoA C L (f1 7) u := hd 7 (by kernel_rfl)
     have hu2 := zEt (Ext.drew wq) hu
     have hc := HGO.out (f1 7) 0 u hu2 h7
     clear h7
     go_simp
     refine hc.mono ?_
     rintro x9 w9 ⟨rfl, hx9⟩
     exact ⟨_, rfl, hx9, rfl⟩
   · have e5 : f1 5 = _ := hd 5 (by kernel_rfl)
     have e9 : f1 9 = _ := hd 9 (by kernel_rfl)
     go_simp
     exact zEr
   · have e10 : f1 10 = _ := hd 10 (by kernel_rfl)
     go_simp
     exact zEr
   · have e11 : f1 11 = _ := hd 11 (by kernel_rfl)
     go_simp
     exact zEr
   · have e11 : f1 11 = _ := hd 11 (by kernel_rfl)
     have e12 : f1 12 = _ := hd 12 (by kernel_rfl)
     have hu2 := zEt (Ext.drew wq) hu
     go_simp
     refine (HLN.out u hu2).mono ?_
     rintro x9 w9 ⟨rfl, hx9⟩
     exact ⟨_, rfl, hx9, rfl⟩
   · have e11 : f1 11 = _ := hd 11 (by kernel_rfl)
     go_simp
     exact zEr
   · have e11 : f1 11 = _ := hd 11 (by kernel_rfl)
     have e14 : f1 14 = _ := hd 14 (by kernel_rfl)
     go_simp
     exact zEr
   · have e11 : f1 11 = _ := hd 11 (by kernel_rfl)
     have e13 : f1 13 = _ := hd 13 (by kernel_rfl)
     have e15 : f1 15 = _ := hd 15 (by kernel_rfl)
     go_simp
     exact zEr
   · have e11 : f1 11 = _ := hd 11 (by kernel_rfl)
     have e16 : f1 16 = _ := hd 16 (by kernel_rfl)
     go_simp
     exact zEr
   · have e17 : f1 17 = _ := hd 17 (by kernel_rfl)
     go_simp
     exact zEr
   · have e18 : f1 18 = _ := hd 18 (by kernel_rfl)
     go_simp
     exact zEr
   · have e18 : f1 18 = _ := hd 18 (by kernel_rfl)
     have e19 : f1 19 = _ := hd 19 (by kernel_rfl)
     have hu2 := zEt (Ext.drew wq) hu
     go_simp
     refine (HBK.out u hu2).mono ?_
     rintro x9 w9 ⟨rfl, hx9⟩
     exact ⟨_, rfl, hx9, rfl⟩
   · have e18 : f1 18 = _ := hd 18 (by kernel_rfl)
     go_simp
     exact zEr
   · have e18 : f1 18 = _ := hd 18 (by kernel_rfl)
     have e21 : f1 21 = _ := hd 21 (by kernel_rfl)
     have hu2 := zEt (Ext.drew wq) hu
     go_simp
     refine (HCT.out u hu2).mono ?_
     rintro x9 w9 ⟨v9, rfl, hx9, hg9⟩
     exact ⟨_, rfl, hx9, hg9⟩
   · have e18 : f1 18 = _ := hd 18 (by kernel_rfl)
     obtain ⟨XA, xc, e22⟩ : SlN C.length (f1 22) u := hd 22 (by kernel_rfl)
     go_simp
     exact zEr
   · have e18 : f1 18 = _ := hd 18 (by kernel_rfl)
     have e20 : f1 20 = _ := hd 20 (by kernel_rfl)
     have e23 : f1 23 = _ := hd 23 (by kernel_rfl)
     go_simp
     exact zEr
   · have e18 : f1 18 = _ := hd 18 (by kernel_rfl)
     have e24 : f1 24 = _ := hd 24 (by kernel_rfl)
     go_simp
     exact zEr
   · have e25 : f1 25 = _ := hd 25 (by kernel_rfl)
     go_simp
     exact zEr
   · have e26 : f1 26 = _ := hd 26 (by kernel_rfl)
     go_simp
     exact zEr
   · have e26 : f1 26 = _ := hd 26 (by kernel_rfl)
     have e27 : f1 27 = _ := hd 27 (by kernel_rfl)
     have hu2 := zEt (Ext.drew wq) hu
     go_simp
     refine (HBY.out u hu2).mono ?_
     rintro x9 w9 ⟨v9, rfl, hx9, hg9⟩
     exact ⟨_, rfl, hx9, hg9⟩
   · have e26 : f1 26 = _ := hd 26 (by kernel_rfl)
     have h28 : Own wq.heap.size b (f1 28) u := hd 28 (by kernel_rfl)
     obtain ⟨XX, dd, e28x⟩ := h28.slice
     rw [e28x] at h28
     have cv := cv_any h28.bs
     have H3 := zHd h28
     clear h28
     go_simp
     exact zEr
   · have e26 : f1 26 = _ := hd 26 (by kernel_rfl)
     go_simp
     exact zEr
   · have e26 : f1 26 = _ := hd 26 (by kernel_rfl)
     have e30 : f1 30 = _ := hd 30 (by kernel_rfl)
     have hu2 := zEt (Ext.drew wq) hu
     have cv := HCV.out u hu2
     go_simp
     exact zEr
   · have e26 : f1 26 = _ := hd 26 (by kernel_rfl)
     have e29 : f1 29 = _ := hd 29 (by kernel_rfl)
     have e31 : f1 31 = _ := hd 31 (by kernel_rfl)
     go_simp
     exact zEr
   · have e26 : f1 26 = _ := hd 26 (by kernel_rfl)
     have e32 : f1 32 = _ := hd 32 (by kernel_rfl)
     go_simp
     exact zEr
   · have e33 : f1 33 = _ := hd 33 (by kernel_rfl)
     go_simp
     exact zEr
   · have e34 : f1 34 = _ := hd 34 (by kernel_rfl)
     go_simp
     refine (uknown_any u).mono ?_
     rintro x9 w9 ⟨rfl, hx9⟩
     exact ⟨_, rfl, hx9, rfl⟩
   · have e34 : f1 34 = _ := hd 34 (by kernel_rfl)
     have e35 : f1 35 = _ := hd 35 (by kernel_rfl)
     go_simp
     exact zEr
   · have e36 : f1 36 = _ := hd 36 (by kernel_rfl)
     go_simp
     exact zEr
end Go.Proofs.YtkdidghfcfcpfaaGreat.uopens
namespace Go.Proofs.YtkdidghfcfcpfaaGreat.uopens
open Go.ChangeShapes Go.WideShapes Go.ChangeAt Go.RowKit
set_option linter.unusedVariables false
set_option maxRecDepth 100000 in
theorem lifted (os : Os) (started : os.Started) (H : Type) (enc : TypeId × Value → H) :
    ReturnsInHanded {} Tryz.checked os 3 .any (Rows.tableOpensSpec.pre6 enc Tryz.prog Tryz.f3 Rows.tableOpensRow.domain false) (Rows.tableOpensSpec.post enc Tryz.prog Tryz.f3 false true false false) := by
 refine returnsInHanded_of_change_sized (C := Tryz.checked) own started (by kernel_rfl) Tryz.func3
  (ChangeSpec.witness6 (enc := enc) (C := Tryz.checked) false ⟨#[], #[.slice none 0 0, .int .i64 0], []⟩ 8 (by kernel_rfl) (by kernel_rfl) (by kernel_rfl) (by kernel_rfl)) ?_
 intro W base args ds gs before hval0 hW hcnd hsz0 _
 have hsz : (DataW.weightsEach Tryz.prog (Tryz.f3.params.toList ++ Rows.tableOpensSpec.plain.varTypes Tryz.prog) (ds ++ gs)).all (· ≤ reachBytes) = true := hsz0
 have hval : ∀ (j : Nat) t v, Tryz.f3.params[j]? = some t → args[j]? = some v → Value.okWide Tryz.prog W .any base t v := hval0
 have hW' := hW
 obtain ⟨p, q, hA0, hV, rfl, hfz, hnd⟩ := hW
 have hA : DataW.TrodAll enc Tryz.prog W 0 (fun _ => true) true Tryz.f3.params.toList args.toList ds p := hA0
 rw [Tryz.params3] at hA hval hsz
 obtain ⟨v0, vs0, d0, ds0, p0, q0, hargs, rfl, rfl, h0, r0⟩ := trodAll_cons hA
 obtain ⟨v1, vs1, d1, ds1, p1, q1, rfl, rfl, rfl, h1, r1⟩ := trodAll_cons r0
 obtain ⟨rfl, rfl, rfl⟩ := trodAll_nil r1
 obtain rfl : args = #[v0, v1] := by cases args; simp_all
 obtain ⟨rfl, rfl⟩ := trodVars_none hV
 have k0 := h0
 have lt0 : ∀ x ∈ p0, x.block < W.heap.size := by obtain ⟨m, hm⟩ := k0; exact DataW.trod_lt m _ _ _ hm
 obtain ⟨l0, y0, b0⟩ := open_bytes (hval 0 22 v0 rfl rfl) h0
 obtain ⟨a1, rfl, rfl, rfl, w1⟩ := open_int Tryz.underlying3 (hval 1 3 v1 rfl rfl) h1
 clear hA0 hval0 hsz0
 refine (walk W v0 l0 b0 y0 a1 w1).mono fun e W' ⟨he, bel⟩ => ?_
 subst he
 exact ⟨_, rfl, _, _, _, [], _, [], hW', trodAll_mk1 (shut_bool Tryz.underlying4 _), (trodAll_cons_mk (Below.trod laidOut (by kernel_rfl) (of_decide_eq_true (by kernel_rfl)) k0 bel lt0) (trodAll_cons_mk (shut_int Tryz.underlying3 w1) trodAll_mk0)), rfl, bel.frame _, fun h => by cases h⟩
theorem over : Rows.tableOpensRow.holds Tryz.pinned (OpenSpec.ofChange Rows.tableOpensSpec) :=
 OpenClaim.holds_of_wide 3 Tryz.f3 rfl rfl rfl rfl rfl rfl rfl ⟨rfl, rfl, rfl, rfl, rfl⟩ rfl rfl rfl rfl rfl (by kernel_rfl) Tryz.func3 (by kernel_rfl)
  (of_decide_eq_true (by kernel_rfl)) (by unfold Func.isWrapper; first | (rw [if_pos (by decide +kernel)]; kernel_rfl) | (rw [if_neg (by decide +kernel)]; exact ⟨rfl, rfl⟩))
  (fun os started H enc _ => lifted os started H enc)
theorem proved : Rows.TableOpensSaid := over
end Go.Proofs.YtkdidghfcfcpfaaGreat.uopens
