/- ikey's Bytes and Size. -/
import Derived.Test.YtcofnbeemfhcpaaIent
import Derived.Test.YtcofnbeemfhcpaaFlow
import Derived.RegionTactic
import Derived.Deep.DeepCutAuto
namespace Go.Proofs.Ytcofnbeemfhcpaa
open Go.ChangeShapes Go.WideShapes Go.ChangeAt Go.RowKit

/-- Bytes in a row of the call's own, from block B on. -/
def Own (B : Nat) (l : List Nat) (v : Value) (u : World) : Prop := u.ownsRow B 5 1 v l.length (bv l)
theorem Mono.own (B : Nat) (l : List Nat) : Mono (Own B l) := fun _ _ _ h hu => own_below h hu (Nat.le_refl _)
theorem Own.below {B : Nat} {l : List Nat} {v : Value} {u u' : World} (h : Own B l v u) (hu : Ext u u') : Own B l v u' := own_below h hu (Nat.le_refl _)
theorem Own.bs {B : Nat} {l : List Nat} {v : Value} {u : World} (h : Own B l v u) : Bs u 0 u.heap.size v l := (Bs.of_own h).wide (Nat.zero_le _) (Nat.le_refl _)
theorem Own.slice {B : Nat} {l : List Nat} {v : Value} {u : World} (h : Own B l v u) : ∃ A c, v = .slice A l.length c := by
  obtain ⟨A, c, e, _⟩ := h.bs
  exact ⟨A, c, e⟩
theorem Own.base {B B' : Nat} {l : List Nat} {v : Value} {u : World} (h : Own B l v u) (hB : B' ≤ B) : Own B' l v u := ownsRow_base h hB

/-- 'append(s, x...)': bytes to bytes. -/
theorem wpList_addbytes {ops : Array Oper} {rest : List Oper} {o : Oper} {a : Act} {Q : Exit → Act → World → Prop} {wr : World} (hgd : o.guard = none) (s x : Operand)
    (ho : o.op = .call { callee := .builtin .append, args := #[s, x], argTypes := #[22, 22] }) (B : Nat) (v : Value) (l : List Nat) (hs : a.eval s = v) (hown : Own B l v wr)
    (lo hi : Nat) (u : Value) (r : List Nat) (hx : a.eval x = u) (hu : Bs wr lo hi u r) (hlen : l.length + r.length ≤ 1099511627776) (hB : B ≤ wr.heap.size)
    (h : ∀ A' c' w', Own B (l ++ r) (.slice A' (l ++ r).length c') w' → (∀ w0, Below B w0 wr → Below B w0 w') → wpList Try.prog ops Q rest (a.put o.dst (.slice A' (l ++ r).length c')) w') :
    wpList Try.prog ops Q (o :: rest) a wr := by
  obtain ⟨i0, hi0, ix0, ix1, ix2⟩ := info_parts t5info
  obtain ⟨A, c, rfl, h1, h2, hnil, hby⟩ := hu
  refine wpList_addall hgd s x 22 ho B 5 i0 (.int .u8 0) 1 Try.underlying22 hi0 ix0 ix1 ix2 rfl v l.length (bv l) hs hown lo hi A r.length c (bv r) hx hnil (by rw [bv_length]) hby (bv_one r) (by unfold maxLen; omega) (by omega) hB (fun v' w' ho' hb => ?_)
  have hown' : Own B (l ++ r) v' w' := by unfold Own; rw [List.length_append, bv_append]; exact ho'
  obtain ⟨A', c', rfl⟩ := hown'.slice
  exact h A' c' w' hown' hb

/-- What Bytes answers. -/
def BytesAns (w : World) (e : Ent) (x : Ending) (w' : World) : Prop :=
  Ext w w' ∧ ((e.may = true ∧ ∃ A c, x = .returned (.tuple #[.slice A e.form.length c, .int .i64 0]) ∧ Own w.heap.size e.form (.slice A e.form.length c) w') ∨ (e.may = false ∧ x = .returned (.tuple #[.slice none 0 0, .int .i64 2])))

set_option maxRecDepth 100000 in
set_option maxHeartbeats 4000000 in
theorem ebytes_any {w : World} {lo hi : Nat} {e : Ent} {g : Hd} (hm : Em w lo hi e g) (hhi : hi ≤ w.heap.size) : Calls Try.prog 6 #[e.at_ g] w (BytesAns w e) := by
  obtain ⟨w1, hw1⟩ : ∃ w1, w1 = w.alloc (.cells #[.slice g.kA e.key.length g.kc, .int .i64 e.seq, .int .i64 e.kind, .slice g.vA e.val.length g.vc] 25) := ⟨_, rfl⟩
  have HX : Hid (Ext w w1) := by rw [hw1]; exact ext_alloc _ _
  have c0 : w1.cell? ⟨w.heap.size, 0, none⟩ = some (.slice g.kA e.key.length g.kc) := by rw [hw1]; exact cell_of (heap_at _ _ rfl) rfl
  have c1 : w1.cell? ⟨w.heap.size, 1, none⟩ = some (.int .i64 e.seq) := by rw [hw1]; exact cell_of (heap_at _ _ rfl) rfl
  have c2 : w1.cell? ⟨w.heap.size, 2, none⟩ = some (.int .i64 e.kind) := by rw [hw1]; exact cell_of (heap_at _ _ rfl) rfl
  have c3 : w1.cell? ⟨w.heap.size, 3, none⟩ = some (.slice g.vA e.val.length g.vc) := by rw [hw1]; exact cell_of (heap_at _ _ rfl) rfl
  have HM := Lib.hid (may_any g.kA g.vA e.key.length g.kc e.val.length g.vc e.seq e.kind w1)
  have HE1 := Lib.hid (hm.below HX.out hhi)
  have HHI : Hid (hi ≤ w1.heap.size) := Nat.le_trans hhi HX.out.size
  have HSZ : Hid (w.heap.size ≤ w1.heap.size) := HX.out.size
  clear hm hhi
  cases hmay : mayN e.key.length e.seq e.kind e.val.length with
  | false =>
    rw [hmay] at HM
    have HMAY : Hid (e.may = false) := hmay
    clear hmay c0 c1 c2 c3
    unfold Ent.at_
    go_enter Try.func6, Try.ntmps6
    rw [hw1] at HM HX
    go_wp2_with fail
    refine Calls.mono HM.out ?_
    rintro x w2 ⟨rfl, hb⟩
    have HX2 := Lib.hid (Ext.trans HX.out hb)
    clear hb
    go_wp2_with fail
    go_ret2
    exact ⟨HX2.out, .inr ⟨HMAY.out, rfl⟩⟩
  | true =>
    rw [hmay] at HM
    have HMAY : Hid (e.may = true) := hmay
    have HU := Lib.hid (Ent.may_u64 HMAY.out)
    obtain ⟨_, hkn, hs1, hs2, hd⟩ := mayN_iff.1 hmay
    obtain ⟨n, hn⟩ : ∃ n : Nat, e.seq = (n : Int) := ⟨e.seq.toNat, by omega⟩
    obtain ⟨d, hdn⟩ : ∃ d : Nat, e.kind = (d : Int) := ⟨e.kind.toNat, by omega⟩
    have hn64 : U64 n := ⟨by omega⟩
    have hd64 : U64 d := ⟨by omega⟩
    have q1 : IntKind.u64.wrap (n : Int) = (n : Int) := by rw [IntKind.wrap_u64]; omega
    have q2 : IntKind.u64.wrap (d : Int) = (d : Int) := by rw [IntKind.wrap_u64]; omega
    have hform : e.form = [bytesForm e.key, form n, form d].flatten ++ (if d = 1 then bytesForm e.val else []) := by
      unfold Ent.form
      rw [hn, hdn]
      have : ((d : Int) = 1) ↔ d = 1 := by omega
      by_cases h : d = 1 <;> simp [this, h]
    have hkl : e.key.length ≤ 1000000000000 := by omega
    have hvl : e.val.length ≤ 65536 := by omega
    have hd12 : d = 1 ∨ d = 2 := by omega
    have hfl : [bytesForm e.key, form n, form d].flatten.length ≤ 70 := by
      have a1 := (bytesForm_len HU.out.1).1
      have a2 := form_len64 hn64
      have a3 := form_len64 hd64
      simp only [List.flatten_cons, List.flatten_nil, List.append_nil, List.length_append]
      omega
    obtain ⟨F3, hF3⟩ : ∃ F, F = [bytesForm e.key, form n, form d].flatten := ⟨_, rfl⟩
    rw [← hF3] at hform hfl
    have HF3 := Lib.hid hF3
    have HVL := Lib.hid hvl
    have HN := Lib.hid hn64
    have HD := Lib.hid hd64
    have HF := Lib.hid hform
    have HKL := Lib.hid hkl
    have HFL := Lib.hid hfl
    clear hF3 hmay hn64 hd64 hform hkl hvl hfl hkn hs1 hs2 hd
    rw [hn] at c1 HM
    rw [hdn] at c2 HM
    unfold Ent.at_
    rw [hn, hdn]
    rw [hn, hdn] at hw1
    clear hn hdn
    go_enter Try.func6, Try.ntmps6
    go_wp2_with fail
    rw [← hw1]
    refine Calls.mono HM.out ?_
    rintro x w2 ⟨rfl, hb⟩
    have HX2 : Hid (Ext w1 w2) := hb
    have b0 := ext_cell hb c0
    have b1 := ext_cell hb c1
    have b2 := ext_cell hb c2
    have b3 := ext_cell hb c3
    clear hb c0 c1 c2 c3 hw1
    go_upto_region 3 with (fail)
    refine flow (by kernel_rfl) [Is (.pointer (some ⟨w.heap.size, 0, none⟩)), Is (.slice g.kA e.key.length g.kc), Own w.heap.size (bytesForm e.key), Is (.pointer (some ⟨w.heap.size, 1, none⟩)), Is (.int .i64 (n : Int)), Is (.int .u64 (n : Int)), Own w.heap.size (form n), Is (.pointer (some ⟨w.heap.size, 2, none⟩)), Is (.int .i64 (d : Int)), Is (.int .u64 (d : Int)), Own w.heap.size (form d), Rws 3 [bytesForm e.key, form n, form d], Own w.heap.size F3, Own w.heap.size F3] (by kernel_rfl) (by kernel_rfl) ?mono (fun f => ?obl) ?fin
    case mono =>
      simp only [List.forall_mem_cons, List.not_mem_nil, false_imp_iff, implies_true, and_true]
      exact ⟨.is _, .is _, .own _ _, .is _, .is _, .is _, .own _ _, .is _, .is _, .is _, .own _ _, .rws _ _, .own _ _, .own _ _⟩
    case fin =>
      intro g1 u hu hg
      simp only [puts, Act.put, List.setIfInBounds_toArray, List.set_cons_zero, List.set_cons_succ]
      have h13 : Own w.heap.size F3 (g1 13) u := hg 13 (by decide)
      have b2 := ext_cell hu b2
      have b3 := ext_cell hu b3
      obtain ⟨v, hv⟩ : ∃ v, v = g1 13 := ⟨_, rfl⟩
      rw [← hv] at h13 ⊢
      have HO := Lib.hid h13
      obtain ⟨A, c, rfl⟩ := h13.slice
      have HXU : Hid (Ext w u) := Ext.trans HX.out (Ext.trans HX2.out (Ext.trans (Ext.drew w2) hu))
      have HEU := Lib.hid (HE1.out.below (Ext.trans HX2.out (Ext.trans (Ext.drew w2) hu)) HHI.out)
      have HHU : Hid (hi ≤ u.heap.size) := Nat.le_trans HHI.out (Ext.trans HX2.out (Ext.trans (Ext.drew w2) hu)).size
      clear h13 hv b0 b1 hg
      rcases hd12 with rfl | rfl
      · rw [if_pos rfl] at HF
        have b2 : u.cell? ⟨w.heap.size, 2, none⟩ = some (.int .i64 1) := b2
        go_wp2_with fail
        refine (bytes_any _ lo hi e.val _ HEU.out.v HHU.out (Nat.le_trans HVL.out (by decide))).mono ?_
        rintro x w3 ⟨v3, rfl, hown, hb3⟩
        have HX3 : Hid (Ext u w3) := hb3
        have HO3 : Hid (Own u.heap.size (bytesForm e.val) v3 w3) := hown
        have HO4 := Lib.hid (HO.out.below hb3)
        have HL4 : Hid ((bytesForm e.val).length ≤ 65546) := by have := (bytesForm_len HU.out.2.2.2).1; have := HVL.out; unfold Hid; omega
        obtain ⟨A3, c3, rfl⟩ := HO3.out.slice
        clear hown hb3
        go_wp2_with (at_builtin; refine wpList_addbytes rfl (.tmp 24) (.tmp 27) rfl w.heap.size _ _ rfl HO4.out _ _ _ _ rfl HO3.out.bs (by have := HFL.out; have := HL4.out; omega) (Nat.le_trans HXU.out.size HX3.out.size) ?_)
        intro A5 c5 w5 ho5 hb5
        rw [← HF.out] at ho5
        have HO5 := Lib.hid ho5
        have HX5 : Hid (Ext w w5) := hb5 w (Ext.trans HXU.out HX3.out)
        have hfl : F3.length + (bytesForm e.val).length = e.form.length := by rw [HF.out, List.length_append]
        rw [hfl] at HO5 ⊢
        clear ho5 hb5 hfl
        go_wp2_with fail
        go_ret2
        exact ⟨HX5.out, .inl ⟨HMAY.out, _, _, rfl, HO5.out⟩⟩
      · rw [if_neg (by decide), List.append_nil] at HF
        have b2 : u.cell? ⟨w.heap.size, 2, none⟩ = some (.int .i64 2) := b2
        rw [← HF.out] at HO ⊢
        go_wp2_with fail
        go_ret2
        exact ⟨HXU.out, .inl ⟨HMAY.out, _, _, rfl, HO.out⟩⟩
    case obl =>
      refine ⟨fun u hu hd => ?_, ?_⟩
      · go_simp
        exact ⟨Ext.refl _, rfl⟩
      refine ⟨fun u hu hd => ?_, ?_⟩
      · simp only [Act.put, List.setIfInBounds_toArray, List.set_cons_zero, List.set_cons_succ]
        have e0 : f 0 = (.pointer (some ⟨w.heap.size, 0, none⟩)) := hd 0 (by kernel_rfl)
        have q := ext_cell hu b0
        go_simp
        exact ⟨Ext.refl _, rfl⟩
      refine ⟨fun u hu hd => ?_, ?_⟩
      · simp only [Act.put, List.setIfInBounds_toArray, List.set_cons_zero, List.set_cons_succ]
        have e1 : f 1 = (.slice g.kA e.key.length g.kc) := hd 1 (by kernel_rfl)
        go_simp
        refine (bytes_any _ lo hi e.key u (HE1.out.k.below (Ext.trans HX2.out (Ext.trans (Ext.drew w2) hu)) HHI.out) (Nat.le_trans HHI.out (Ext.trans HX2.out (Ext.trans (Ext.drew w2) hu)).size) HKL.out).mono ?_
        rintro x w9 ⟨v, rfl, hown, hb9⟩
        exact ⟨v, rfl, hb9, ownsRow_base hown (Nat.le_trans HSZ.out (Ext.trans HX2.out (Ext.trans (Ext.drew w2) hu)).size)⟩
      refine ⟨fun u hu hd => ?_, ?_⟩
      · simp only [Act.put, List.setIfInBounds_toArray, List.set_cons_zero, List.set_cons_succ]
        go_simp
        exact ⟨Ext.refl _, rfl⟩
      refine ⟨fun u hu hd => ?_, ?_⟩
      · simp only [Act.put, List.setIfInBounds_toArray, List.set_cons_zero, List.set_cons_succ]
        have e3 : f 3 = (.pointer (some ⟨w.heap.size, 1, none⟩)) := hd 3 (by kernel_rfl)
        have q := ext_cell hu b1
        go_simp
        exact ⟨Ext.refl _, rfl⟩
      refine ⟨fun u hu hd => ?_, ?_⟩
      · simp only [Act.put, List.setIfInBounds_toArray, List.set_cons_zero, List.set_cons_succ]
        have e4 : f 4 = (.int .i64 (n : Int)) := hd 4 (by kernel_rfl)
        go_simp
        exact ⟨Ext.refl _, rfl⟩
      refine ⟨fun u hu hd => ?_, ?_⟩
      · simp only [Act.put, List.setIfInBounds_toArray, List.set_cons_zero, List.set_cons_succ]
        have e5 : f 5 = (.int .u64 (n : Int)) := hd 5 (by kernel_rfl)
        go_simp
        refine (number_any n HN.out u).mono ?_
        rintro x w9 ⟨v, rfl, hown, hb9⟩
        exact ⟨v, rfl, hb9, ownsRow_base hown (Nat.le_trans HSZ.out (Ext.trans HX2.out (Ext.trans (Ext.drew w2) hu)).size)⟩
      refine ⟨fun u hu hd => ?_, ?_⟩
      · simp only [Act.put, List.setIfInBounds_toArray, List.set_cons_zero, List.set_cons_succ]
        go_simp
        exact ⟨Ext.refl _, rfl⟩
      refine ⟨fun u hu hd => ?_, ?_⟩
      · simp only [Act.put, List.setIfInBounds_toArray, List.set_cons_zero, List.set_cons_succ]
        have e7 : f 7 = (.pointer (some ⟨w.heap.size, 2, none⟩)) := hd 7 (by kernel_rfl)
        have q := ext_cell hu b2
        go_simp
        exact ⟨Ext.refl _, rfl⟩
      refine ⟨fun u hu hd => ?_, ?_⟩
      · simp only [Act.put, List.setIfInBounds_toArray, List.set_cons_zero, List.set_cons_succ]
        have e8 : f 8 = (.int .i64 (d : Int)) := hd 8 (by kernel_rfl)
        go_simp
        exact ⟨Ext.refl _, rfl⟩
      refine ⟨fun u hu hd => ?_, ?_⟩
      · simp only [Act.put, List.setIfInBounds_toArray, List.set_cons_zero, List.set_cons_succ]
        have e9 : f 9 = (.int .u64 (d : Int)) := hd 9 (by kernel_rfl)
        go_simp
        refine (number_any d HD.out u).mono ?_
        rintro x w9 ⟨v, rfl, hown, hb9⟩
        exact ⟨v, rfl, hb9, ownsRow_base hown (Nat.le_trans HSZ.out (Ext.trans HX2.out (Ext.trans (Ext.drew w2) hu)).size)⟩
      refine ⟨fun u hu hd => ?_, ?_⟩
      · simp only [Act.put, List.setIfInBounds_toArray, List.set_cons_zero, List.set_cons_succ]
        have h2 : Own w.heap.size (bytesForm e.key) (f 2) u := hd 2 (by kernel_rfl)
        have h6 : Own w.heap.size (form n) (f 6) u := hd 6 (by kernel_rfl)
        have h10 : Own w.heap.size (form d) (f 10) u := hd 10 (by kernel_rfl)
        have hx0 := Lib.hid h2.bs
        have hx1 := Lib.hid h6.bs
        have hx2 := Lib.hid h10.bs
        obtain ⟨v2, e2⟩ : ∃ v, v = f 2 := ⟨_, rfl⟩
        obtain ⟨v6, e6⟩ : ∃ v, v = f 6 := ⟨_, rfl⟩
        obtain ⟨v10, e10⟩ : ∃ v, v = f 10 := ⟨_, rfl⟩
        rw [← e2] at hx0 h2 ⊢
        rw [← e6] at hx1 h6 ⊢
        rw [← e10] at hx2 h10 ⊢
        obtain ⟨A2, c2, rfl⟩ := h2.slice
        obtain ⟨A6, c6, rfl⟩ := h6.slice
        obtain ⟨A10, c10, rfl⟩ := h10.slice
        have hr := Lib.hid (rws_lit u [.slice A2 (bytesForm e.key).length c2, .slice A6 (form n).length c6, .slice A10 (form d).length c10] [bytesForm e.key, form n, form d] 3 rfl rfl (fun i v l hv hl => by
          match i with
          | 0 => simp at hv hl; subst hv hl; exact ⟨_, _, hx0.out, Nat.le_refl _⟩
          | 1 => simp at hv hl; subst hv hl; exact ⟨_, _, hx1.out, Nat.le_refl _⟩
          | 2 => simp at hv hl; subst hv hl; exact ⟨_, _, hx2.out, Nat.le_refl _⟩
          | i + 3 => simp at hv))
        clear h2 h6 h10 e2 e6 e10
        go_simp
        exact ⟨below_new _ _, hr.out⟩
      refine ⟨fun u hu hd => ?_, ?_⟩
      · simp only [Act.put, List.setIfInBounds_toArray, List.set_cons_zero, List.set_cons_succ]
        obtain ⟨hn, g1, h, e11, hh, x, hr⟩ := (show Rws 3 [bytesForm e.key, form n, form d] (f 11) u from hd 11 (by kernel_rfl))
        have HR := Lib.hid hr
        clear hr hn
        go_simp
        refine (join_any (some ⟨g1, 0, none⟩) 3 0 h x _ u HR.out hh (by simp [maxLen]) (by simp) (by rw [← HF3.out]; have := HFL.out; omega) 3 rfl).mono ?_
        rintro x w9 ⟨v, rfl, hown, hb9⟩
        rw [← HF3.out] at hown
        exact ⟨v, rfl, hb9, ownsRow_base hown (Nat.le_trans HSZ.out (Ext.trans HX2.out (Ext.trans (Ext.drew w2) hu)).size)⟩
      refine ⟨fun u hu hd => ?_, ?_⟩
      · simp only [Act.put, List.setIfInBounds_toArray, List.set_cons_zero, List.set_cons_succ]
        have H12 := Lib.hid (show Own w.heap.size F3 (f 12) u from hd 12 (by kernel_rfl))
        go_simp
        exact ⟨Ext.refl _, H12.out⟩
      trivial

end Go.Proofs.Ytcofnbeemfhcpaa
