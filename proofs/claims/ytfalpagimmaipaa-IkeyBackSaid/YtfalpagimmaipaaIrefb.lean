/- The reference: an entry's bytes. -/
import Derived.Test.YtfalpagimmaipaaIref
namespace Go.Proofs.Ytfalpagimmaipaa
open Go.ChangeShapes Go.WideShapes Go.ChangeAt Go.RowKit

set_option maxRecDepth 100000 in
set_option maxHeartbeats 4000000 in
theorem rform_any {w : World} {lo hi : Nat} {e : Ent} {g : Hd} (hm : Em w lo hi e g) (hhi : hi ≤ w.heap.size) (hmay : e.may = true) : Calls Try.prog 18 #[e.at_ g] w fun x w' => ∃ A c, x = .returned (.slice A e.form.length c) ∧ Own w.heap.size e.form (.slice A e.form.length c) w' ∧ Ext w w' := by
  obtain ⟨w1, hw1⟩ : ∃ w1, w1 = w.alloc (.cells #[.slice g.kA e.key.length g.kc, .int .i64 e.seq, .int .i64 e.kind, .slice g.vA e.val.length g.vc] 25) := ⟨_, rfl⟩
  have HX : Hid (Ext w w1) := by rw [hw1]; exact ext_alloc _ _
  have HBX : Hid (w1.heap[w.heap.size]? = some (.cells #[.slice g.kA e.key.length g.kc, .int .i64 e.seq, .int .i64 e.kind, .slice g.vA e.val.length g.vc] 25 (0, 0))) := by rw [hw1]; exact heap_at _ _ rfl
  have HM := Lib.hid hm
  have HHI := Lib.hid hhi
  have HU := Lib.hid (Ent.may_u64 hmay)
  obtain ⟨_, hkn, hs1, hs2, hd⟩ := mayN_iff.1 hmay
  obtain ⟨n, hn⟩ : ∃ n : Nat, e.seq = (n : Int) := ⟨e.seq.toNat, by omega⟩
  obtain ⟨d, hdn⟩ : ∃ d : Nat, e.kind = (d : Int) := ⟨e.kind.toNat, by omega⟩
  have hn64 : U64 n := ⟨by omega⟩
  have hd64 : U64 d := ⟨by omega⟩
  have q1 : IntKind.u64.wrap (n : Int) = (n : Int) := by rw [IntKind.wrap_u64]; omega
  have q2 : IntKind.u64.wrap (d : Int) = (d : Int) := by rw [IntKind.wrap_u64]; omega
  have hform : e.form = ((bytesForm e.key ++ form n) ++ form d) ++ (if d = 1 then bytesForm e.val else []) := by
    unfold Ent.form
    rw [hn, hdn]
    have : ((d : Int) = 1) ↔ d = 1 := by omega
    by_cases h : d = 1 <;> simp [this, h]
  obtain ⟨F2, hF2⟩ : ∃ F, F = bytesForm e.key ++ form n := ⟨_, rfl⟩
  obtain ⟨F3, hF3⟩ : ∃ F, F = F2 ++ form d := ⟨_, rfl⟩
  rw [← hF2, ← hF3] at hform
  have HF2 := Lib.hid hF2
  have HF3 := Lib.hid hF3
  have hl1 : (bytesForm e.key).length ≤ 42 := by have := (bytesForm_len HU.out.1).1; omega
  have hl2 := form_len64 hn64
  have hl3 := form_len64 hd64
  have hkl : e.key.length ≤ 1000000000000 := by omega
  have hvl : e.val.length ≤ 65536 := by omega
  have hd12 : d = 1 ∨ d = 2 := by omega
  have HVL := Lib.hid hvl
  have HN := Lib.hid hn64
  have HD := Lib.hid hd64
  have HF := Lib.hid hform
  have HKL := Lib.hid hkl
  have HLL := Lib.hid (And.intro hl1 (And.intro hl2 hl3))
  have HFL : Hid (F2.length ≤ 52 ∧ F3.length ≤ 62) := by
    have e2 := congrArg List.length hF2
    have e3 := congrArg List.length hF3
    rw [List.length_append] at e2 e3
    unfold Hid; omega
  clear hF2 hF3 hm hhi hmay hn64 hd64 hform hkl hvl hkn hs1 hs2 hd hl1 hl2 hl3
  unfold Ent.at_
  rw [hn, hdn] at hw1 HBX
  have c0 := cell_of HBX.out (k := 0) rfl
  have c1 := cell_of HBX.out (k := 1) rfl
  have c2 := cell_of HBX.out (k := 2) rfl
  have c3 := cell_of HBX.out (k := 3) rfl
  rw [hn, hdn]
  clear hn hdn
  go_enter Try.func18, Try.ntmps18
  go_upto_region 1 with (fail)
  rw [← hw1]
  clear hw1
  refine flow_tail (by kernel_rfl) [Is (.pointer (some ⟨w.heap.size, 0, none⟩)), Is (.slice g.kA e.key.length g.kc), Own w1.heap.size (bytesForm e.key), Is (.pointer (some ⟨w.heap.size, 1, none⟩)), Is (.int .i64 (n : Int)), Is (.int .u64 (n : Int)), Own w1.heap.size (form n)] 7 (by kernel_rfl) (by kernel_rfl) (by kernel_rfl) (by kernel_rfl) ?mono (fun f1 => ?obl) ?fin
  case mono =>
    simp only [List.forall_mem_cons, List.not_mem_nil, false_imp_iff, implies_true, and_true]
    exact ⟨.is _, .is _, .own _ _, .is _, .is _, .is _, .own _ _⟩
  case fin =>
    intro g1 u hu hg
    simp only [List.take_succ_cons, List.take_zero, List.drop_succ_cons, List.drop_zero, puts, Act.put, List.setIfInBounds_toArray, List.set_cons_zero, List.set_cons_succ]
    have h2 : Own w1.heap.size (bytesForm e.key) (g1 2) u := hg 2 (by decide)
    have h6 : Own w1.heap.size (form n) (g1 6) u := hg 6 (by decide)
    have HU1 := Lib.hid (Ext.trans (Ext.drew w1) hu)
    have H2 := Lib.hid h2
    have H6 := Lib.hid h6
    obtain ⟨v6, e6⟩ : ∃ v, v = g1 6 := ⟨_, rfl⟩
    obtain ⟨v2, e2⟩ : ∃ v, v = g1 2 := ⟨_, rfl⟩
    rw [← e2] at h2 H2 ⊢
    rw [← e6] at h6 H6 ⊢
    obtain ⟨A6, c6, rfl⟩ := h6.slice
    obtain ⟨A2, c2', rfl⟩ := h2.slice
    clear h2 h6 e2 e6 hg hu c0 c1 c2 c3
    refine wpList_addbytes rfl (.tmp 6) (.tmp 10) rfl w1.heap.size _ _ rfl H2.out _ _ _ _ rfl H6.out.bs (by have := HLL.out; omega) HU1.out.size ?_
    intro A7 c7 w3 ho hb
    rw [← HF2.out] at ho ⊢
    have HO3 := Lib.hid ho
    have HX3 : Hid (Below w1.heap.size w1 w3) := hb w1 HU1.out
    have b2 := (HX3.out.cell (p := ⟨w.heap.size, 2, none⟩) (World.block_lt_of_cell? w1 _ (cell_of HBX.out (k := 2) rfl))).trans (cell_of HBX.out (k := 2) rfl)
    clear ho hb
    go_wp2_with fail
    refine (rnumber_any d HD.out w3).mono ?_
    rintro x w4 ⟨v4, rfl, hown, hb4⟩
    have HX4 : Hid (Below w1.heap.size w1 w4) := HX3.out.trans (hb4.mono HX3.out.size)
    have HO4 := Lib.hid (HO3.out.below hb4)
    have HN4 : Hid (Own w3.heap.size (form d) v4 w4) := hown
    obtain ⟨A4, c4, rfl⟩ := HN4.out.slice
    clear hown hb4 b2
    go_wp2_with (at_builtin; refine wpList_addbytes rfl (.tmp 12) (.tmp 16) rfl w1.heap.size _ _ rfl HO4.out _ _ _ _ rfl HN4.out.bs (by have := HLL.out; have := HFL.out; omega) HX4.out.size ?_)
    intro A8 c8 w5 ho hb
    rw [← HF3.out] at ho
    have hfl : F2.length + (form d).length = F3.length := by rw [HF3.out, List.length_append]
    rw [hfl] at ho ⊢
    clear hfl
    have HO5 := Lib.hid ho
    have HX5 : Hid (Below w1.heap.size w1 w5) := hb w1 HX4.out
    have b2 := (HX5.out.cell (p := ⟨w.heap.size, 2, none⟩) (World.block_lt_of_cell? w1 _ (cell_of HBX.out (k := 2) rfl))).trans (cell_of HBX.out (k := 2) rfl)
    have b3 := (HX5.out.cell (p := ⟨w.heap.size, 3, none⟩) (World.block_lt_of_cell? w1 _ (cell_of HBX.out (k := 3) rfl))).trans (cell_of HBX.out (k := 3) rfl)
    have HXW : Hid (Ext w w5) := Ext.trans HX.out HX5.out
    clear ho hb
    rcases hd12 with rfl | rfl
    · rw [if_pos rfl] at HF
      have b2 : w5.cell? ⟨w.heap.size, 2, none⟩ = some (.int .i64 1) := b2
      go_wp2_with fail
      refine (rbytes_any _ lo hi e.val _ (HM.out.v.below HXW.out HHI.out) (Nat.le_trans HHI.out HXW.out.size) (Nat.le_trans HVL.out (by decide))).mono ?_
      rintro x w6 ⟨v6, rfl, hown, hb6⟩
      have HX6 : Hid (Below w1.heap.size w1 w6) := HX5.out.trans (hb6.mono HX5.out.size)
      have HV6 : Hid (Own w5.heap.size (bytesForm e.val) v6 w6) := hown
      have HO6 := Lib.hid (HO5.out.below hb6)
      have HL4 : Hid ((bytesForm e.val).length ≤ 65546) := by have := (bytesForm_len HU.out.2.2.2).1; have := HVL.out; unfold Hid; omega
      obtain ⟨A6', c6', rfl⟩ := HV6.out.slice
      clear hown hb6 b2 b3
      go_wp2_with (at_builtin; refine wpList_addbytes rfl (.tmp 21) (.tmp 24) rfl w1.heap.size _ _ rfl HO6.out _ _ _ _ rfl HV6.out.bs (by have := HFL.out; have := HL4.out; omega) HX6.out.size ?_)
      intro A9 c9 w7 ho hb
      have HX7 : Hid (Ext w w7) := Ext.trans HX.out (hb w1 HX6.out)
      rw [← HF.out] at ho
      have hfl : F3.length + (bytesForm e.val).length = e.form.length := by rw [HF.out, List.length_append]
      rw [hfl] at ho ⊢
      clear hfl
      have HO7 := Lib.hid (ho.base HX.out.size)
      clear ho hb
      go_wp2_with fail
      go_ret
      exact ⟨_, _, rfl, HO7.out, HX7.out⟩
    · rw [if_neg (by decide), List.append_nil] at HF
      have b2 : w5.cell? ⟨w.heap.size, 2, none⟩ = some (.int .i64 2) := b2
      rw [← HF.out] at HO5 ⊢
      have HO7 := Lib.hid (HO5.out.base HX.out.size)
      go_wp2_with fail
      go_ret
      exact ⟨_, _, rfl, HO7.out, HXW.out⟩
  case obl =>
    refine ⟨fun u hu hd => ?_, ?_⟩
    · go_simp
      exact ⟨Ext.refl _, rfl⟩
    refine ⟨fun u hu hd => ?_, ?_⟩
    · simp only [Act.put, List.setIfInBounds_toArray, List.set_cons_zero, List.set_cons_succ]
      have e0 : f1 0 = .pointer (some ⟨w.heap.size, 0, none⟩) := hd 0 (by kernel_rfl)
      have hu2 := Ext.trans (Ext.drew w1) hu
      have q0 := ext_cell hu2 c0
      go_simp
      exact ⟨Ext.refl _, rfl⟩
    refine ⟨fun u hu hd => ?_, ?_⟩
    · simp only [Act.put, List.setIfInBounds_toArray, List.set_cons_zero, List.set_cons_succ]
      have e1 : f1 1 = .slice g.kA e.key.length g.kc := hd 1 (by kernel_rfl)
      have hu2 := Ext.trans (Ext.drew w1) hu
      go_simp
      refine (rbytes_any _ lo hi e.key u (HM.out.k.below (Ext.trans HX.out hu2) HHI.out) (Nat.le_trans HHI.out (Ext.trans HX.out hu2).size) HKL.out).mono ?_
      rintro x w9 ⟨v, rfl, hown, hb9⟩
      exact ⟨v, rfl, hb9, ownsRow_base hown hu2.size⟩
    refine ⟨fun u hu hd => ?_, ?_⟩
    · simp only [Act.put, List.setIfInBounds_toArray, List.set_cons_zero, List.set_cons_succ]
      go_simp
      exact ⟨Ext.refl _, rfl⟩
    refine ⟨fun u hu hd => ?_, ?_⟩
    · simp only [Act.put, List.setIfInBounds_toArray, List.set_cons_zero, List.set_cons_succ]
      have e3 : f1 3 = .pointer (some ⟨w.heap.size, 1, none⟩) := hd 3 (by kernel_rfl)
      have hu2 := Ext.trans (Ext.drew w1) hu
      have q0 := ext_cell hu2 c1
      go_simp
      exact ⟨Ext.refl _, rfl⟩
    refine ⟨fun u hu hd => ?_, ?_⟩
    · simp only [Act.put, List.setIfInBounds_toArray, List.set_cons_zero, List.set_cons_succ]
      have e4 : f1 4 = .int .i64 (n : Int) := hd 4 (by kernel_rfl)
      go_simp
      exact ⟨Ext.refl _, rfl⟩
    refine ⟨fun u hu hd => ?_, ?_⟩
    · simp only [Act.put, List.setIfInBounds_toArray, List.set_cons_zero, List.set_cons_succ]
      have e5 : f1 5 = .int .u64 (n : Int) := hd 5 (by kernel_rfl)
      have hu2 := Ext.trans (Ext.drew w1) hu
      go_simp
      refine (rnumber_any n HN.out u).mono ?_
      rintro x w9 ⟨v, rfl, hown, hb9⟩
      exact ⟨v, rfl, hb9, ownsRow_base hown hu2.size⟩
    trivial
end Go.Proofs.Ytfalpagimmaipaa
