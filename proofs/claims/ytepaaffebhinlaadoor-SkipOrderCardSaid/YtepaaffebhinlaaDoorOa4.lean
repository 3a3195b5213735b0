/- Ibytes Wtake Rnum Rmore Rread Rnumb Rtext Rlist Rboth Iread Tail Icopy Ilit Ilist, joined. -/
import Derived.Test.YtepaaffebhinlaaDoorOa3
import Derived.RegionTactic
import Derived.Deep.DeepCutAuto
import Derived.Test.YtepaaffebhinlaaDoorOa1
import Derived.Test.YtepaaffebhinlaaDoorOa2
import Derived.Deep.QuietTactic
import Derived.BigQuiet
import Derived.Laws.ResultCell
import Derived.Laws.Rows
import Derived.Lib.ConvBytes
import Derived.Laws.AppendOwn
import Derived.LoopTactic
import Derived.Laws.OwnMore

/- ikey's Bytes and Size. -/
namespace Go.Proofs.YtepaaffebhinlaaDoor
open Go.ChangeShapes Go.WideShapes Go.ChangeAt Go.RowKit

/-- Bytes in a row of the call's own, from block B on. -/
def Own (B : Nat) (l : List Nat) (v : Value) (u : World) : Prop := u.ownsRow B 5 1 v l.length (bv l)
theorem Mono.own (B : Nat) (l : List Nat) : Mono (Own B l) := fun _ _ _ h hu => own_below h hu (Nat.le_refl _)
theorem Own.below {B : Nat} {l : List Nat} {v : Value} {u u' : World} (h : Own B l v u) (hu : Ext u u') : Own B l v u' := own_below h hu (Nat.le_refl _)
theorem Own.bs {B : Nat} {l : List Nat} {v : Value} {u : World} (h : Own B l v u) : Bs u 0 u.heap.size v l := (Bs.of_own h).wide (Nat.zero_le _) (Nat.le_refl _)
theorem Own.slice {B : Nat} {l : List Nat} {v : Value} {u : World} (h : Own B l v u) : ∃ A c, v = .slice A l.length c := by
  obtain ⟨A, c, e, _⟩ := h.bs
  exact ⟨A, c, e⟩
theorem Own.base {B B' : Nat} {l : List Nat} {v : Value} {u : World} (h : Own B l v u) (hB : B' ≤ B) : Own B' l v u := ownsRow_base h hB

/-- 'append(s, x...)': bytes to bytes. -/
theorem wpList_addbytes {ops : Array Oper} {rest : List Oper} {o : Oper} {a : Act} {Q : Exit → Act → World → Prop} {wr : World} (hgd : o.guard = none) (s x : Operand)
    (ho : o.op = .call { callee := .builtin .append, args := #[s, x], argTypes := #[25, 25] }) (B : Nat) (v : Value) (l : List Nat) (hs : a.eval s = v) (hown : Own B l v wr)
    (lo hi : Nat) (u : Value) (r : List Nat) (hx : a.eval x = u) (hu : Bs wr lo hi u r) (hlen : l.length + r.length ≤ 1099511627776) (hB : B ≤ wr.heap.size)
    (h : ∀ A' c' w', Own B (l ++ r) (.slice A' (l ++ r).length c') w' → (∀ w0, Below B w0 wr → Below B w0 w') → wpList Tryd.prog ops Q rest (a.put o.dst (.slice A' (l ++ r).length c')) w') :
    wpList Tryd.prog ops Q (o :: rest) a wr := by
  obtain ⟨i0, hi0, ix0, ix1, ix2⟩ := info_parts t5info
  obtain ⟨A, c, rfl, h1, h2, hnil, hby⟩ := hu
  refine wpList_addall hgd s x 25 ho B 5 i0 (.int .u8 0) 1 Tryd.underlying25 hi0 ix0 ix1 ix2 rfl v l.length (bv l) hs hown lo hi A r.length c (bv r) hx hnil (by rw [bv_length]) hby (bv_one r) (by unfold maxLen; omega) (by omega) hB (fun v' w' ho' hb => ?_)
  have hown' : Own B (l ++ r) v' w' := by unfold Own; rw [List.length_append, bv_append]; exact ho'
  obtain ⟨A', c', rfl⟩ := hown'.slice
  exact h A' c' w' hown' hb

/-- What Bytes answers. -/
def BytesAns (w : World) (e : Ent) (x : Ending) (w' : World) : Prop :=
  Ext w w' ∧ ((e.may = true ∧ ∃ A c, x = .returned (.tuple #[.slice A e.form.length c, .int .i64 0]) ∧ Own w.heap.size e.form (.slice A e.form.length c) w') ∨ (e.may = false ∧ x = .returned (.tuple #[.slice none 0 0, .int .i64 2])))

set_option maxRecDepth 100000 in
set_option maxHeartbeats 4000000 in
theorem ebytes_any {w : World} {lo hi : Nat} {e : Ent} {g : Hd} (hm : Em w lo hi e g) (hhi : hi ≤ w.heap.size) : Calls Tryd.prog 51 #[e.at_ g] w (BytesAns w e) := by
  obtain ⟨w1, hw1⟩ : ∃ w1, w1 = w.alloc (.cells #[.slice g.kA e.key.length g.kc, .int .i64 e.seq, .int .i64 e.kind, .slice g.vA e.val.length g.vc] 28) := ⟨_, rfl⟩
  have HX : Hid (Ext w w1) := by rw [hw1]; exact ext_alloc _ _
  have c0 : w1.cell? ⟨w.heap.size, 0, none⟩ = some (.slice g.kA e.key.length g.kc) := by rw [hw1]; exact cell_of (heap_at _ _ rfl) rfl
  have c1 : w1.cell? ⟨w.heap.size, 1, none⟩ = some (.int .i64 e.seq) := by rw [hw1]; exact cell_of (heap_at _ _ rfl) rfl
  have c2 : w1.cell? ⟨w.heap.size, 2, none⟩ = some (.int .i64 e.kind) := by rw [hw1]; exact cell_of (heap_at _ _ rfl) rfl
  have c3 : w1.cell? ⟨w.heap.size, 3, none⟩ = some (.slice g.vA e.val.length g.vc) := by rw [hw1]; exact cell_of (heap_at _ _ rfl) rfl
  have HM := Lib.hid (may_any g.kA g.vA e.key.length g.kc e.val.length g.vc e.seq e.kind w1)
  have HE1 := Lib.hid (hm.below HX.out hhi)
  have HHI : Hid (hi ≤ w1.heap.size) := Nat.le_trans hhi HX.out.size
  have HSZ : Hid (w.heap.size ≤ w1.heap.size) := HX.out.size
  clear hm hhi
  cases hmay : mayN e.key.length e.seq e.kind e.val.length with
  | false =>
    rw [hmay] at HM
    have HMAY : Hid (e.may = false) := hmay
    clear hmay c0 c1 c2 c3
    unfold Ent.at_
    go_enter Tryd.func51, Tryd.ntmps51
    rw [hw1] at HM HX
    go_wp2_with fail
    refine Calls.mono HM.out ?_
    rintro x w2 ⟨rfl, hb⟩
    have HX2 := Lib.hid (Ext.trans HX.out hb)
    clear hb
    go_wp2_with fail
    go_ret2
    exact ⟨HX2.out, .inr ⟨HMAY.out, rfl⟩⟩
  | true =>
    rw [hmay] at HM
    have HMAY : Hid (e.may = true) := hmay
    have HU := Lib.hid (Ent.may_u64 HMAY.out)
    obtain ⟨_, hkn, hs1, hs2, hd⟩ := mayN_iff.1 hmay
    obtain ⟨n, hn⟩ : ∃ n : Nat, e.seq = (n : Int) := ⟨e.seq.toNat, by omega⟩
    obtain ⟨d, hdn⟩ : ∃ d : Nat, e.kind = (d : Int) := ⟨e.kind.toNat, by omega⟩
    have hn64 : U64 n := ⟨by omega⟩
    have hd64 : U64 d := ⟨by omega⟩
    have q1 : IntKind.u64.wrap (n : Int) = (n : Int) := by rw [IntKind.wrap_u64]; omega
    have q2 : IntKind.u64.wrap (d : Int) = (d : Int) := by rw [IntKind.wrap_u64]; omega
    have hform : e.form = [bytesForm e.key, form n, form d].flatten ++ (if d = 1 then bytesForm e.val else []) := by
      unfold Ent.form
      rw [hn, hdn]
      have : ((d : Int) = 1) ↔ d = 1 := by omega
      by_cases h : d = 1 <;> simp [this, h]
    have hkl : e.key.length ≤ 1000000000000 := by omega
    have hvl : e.val.length ≤ 65536 := by omega
    have hd12 : d = 1 ∨ d = 2 := by omega
    have hfl : [bytesForm e.key, form n, form d].flatten.length ≤ 70 := by
      have a1 := (bytesForm_len HU.out.1).1
      have a2 := form_len64 hn64
      have a3 := form_len64 hd64
      simp only [List.flatten_cons, List.flatten_nil, List.append_nil, List.length_append]
      omega
    obtain ⟨F3, hF3⟩ : ∃ F, F = [bytesForm e.key, form n, form d].flatten := ⟨_, rfl⟩
    rw [← hF3] at hform hfl
    have HF3 := Lib.hid hF3
    have HVL := Lib.hid hvl
    have HN := Lib.hid hn64
    have HD := Lib.hid hd64
    have HF := Lib.hid hform
    have HKL := Lib.hid hkl
    have HFL := Lib.hid hfl
    clear hF3 hmay hn64 hd64 hform hkl hvl hfl hkn hs1 hs2 hd
    rw [hn] at c1 HM
    rw [hdn] at c2 HM
    unfold Ent.at_
    rw [hn, hdn]
    rw [hn, hdn] at hw1
    clear hn hdn
    go_enter Tryd.func51, Tryd.ntmps51
    go_wp2_with fail
    rw [← hw1]
    refine Calls.mono HM.out ?_
    rintro x w2 ⟨rfl, hb⟩
    have HX2 : Hid (Ext w1 w2) := hb
    have b0 := ext_cell hb c0
    have b1 := ext_cell hb c1
    have b2 := ext_cell hb c2
    have b3 := ext_cell hb c3
    clear hb c0 c1 c2 c3 hw1
    go_upto_region 3 with (fail)
    refine flow (by kernel_rfl) [Is (.pointer (some ⟨w.heap.size, 0, none⟩)), Is (.slice g.kA e.key.length g.kc), Own w.heap.size (bytesForm e.key), Is (.pointer (some ⟨w.heap.size, 1, none⟩)), Is (.int .i64 (n : Int)), Is (.int .u64 (n : Int)), Own w.heap.size (form n), Is (.pointer (some ⟨w.heap.size, 2, none⟩)), Is (.int .i64 (d : Int)), Is (.int .u64 (d : Int)), Own w.heap.size (form d), Rws 3 [bytesForm e.key, form n, form d], Own w.heap.size F3, Own w.heap.size F3] (by kernel_rfl) (by kernel_rfl) ?mono (fun f => ?obl) ?fin
    case mono =>
      simp only [List.forall_mem_cons, List.not_mem_nil, false_imp_iff, implies_true, and_true]
      exact ⟨.is _, .is _, .own _ _, .is _, .is _, .is _, .own _ _, .is _, .is _, .is _, .own _ _, .rws _ _, .own _ _, .own _ _⟩
    case fin =>
      intro g1 u hu hg
      simp only [puts, Act.put, List.setIfInBounds_toArray, List.set_cons_zero, List.set_cons_succ]
      have h13 : Own w.heap.size F3 (g1 13) u := hg 13 (by decide)
      have b2 := ext_cell hu b2
      have b3 := ext_cell hu b3
      obtain ⟨v, hv⟩ : ∃ v, v = g1 13 := ⟨_, rfl⟩
      rw [← hv] at h13 ⊢
      have HO := Lib.hid h13
      obtain ⟨A, c, rfl⟩ := h13.slice
      have HXU : Hid (Ext w u) := Ext.trans HX.out (Ext.trans HX2.out (Ext.trans (Ext.drew w2) hu))
      have HEU := Lib.hid (HE1.out.below (Ext.trans HX2.out (Ext.trans (Ext.drew w2) hu)) HHI.out)
      have HHU : Hid (hi ≤ u.heap.size) := Nat.le_trans HHI.out (Ext.trans HX2.out (Ext.trans (Ext.drew w2) hu)).size
      clear h13 hv b0 b1 hg
      rcases hd12 with rfl | rfl
      · rw [if_pos rfl] at HF
        have b2 : u.cell? ⟨w.heap.size, 2, none⟩ = some (.int .i64 1) := b2
        go_wp2_with fail
        refine (bytes_any _ lo hi e.val _ HEU.out.v HHU.out (Nat.le_trans HVL.out (by decide))).mono ?_
        rintro x w3 ⟨v3, rfl, hown, hb3⟩
        have HX3 : Hid (Ext u w3) := hb3
        have HO3 : Hid (Own u.heap.size (bytesForm e.val) v3 w3) := hown
        have HO4 := Lib.hid (HO.out.below hb3)
        have HL4 : Hid ((bytesForm e.val).length ≤ 65546) := by have := (bytesForm_len HU.out.2.2.2).1; have := HVL.out; unfold Hid; omega
        obtain ⟨A3, c3, rfl⟩ := HO3.out.slice
        clear hown hb3
        go_wp2_with (at_builtin; refine wpList_addbytes rfl (.tmp 24) (.tmp 27) rfl w.heap.size _ _ rfl HO4.out _ _ _ _ rfl HO3.out.bs (by have := HFL.out; have := HL4.out; omega) (Nat.le_trans HXU.out.size HX3.out.size) ?_)
        intro A5 c5 w5 ho5 hb5
        rw [← HF.out] at ho5
        have HO5 := Lib.hid ho5
        have HX5 : Hid (Ext w w5) := hb5 w (Ext.trans HXU.out HX3.out)
        have hfl : F3.length + (bytesForm e.val).length = e.form.length := by rw [HF.out, List.length_append]
        rw [hfl] at HO5 ⊢
        clear ho5 hb5 hfl
        go_wp2_with fail
        go_ret2
        exact ⟨HX5.out, .inl ⟨HMAY.out, _, _, rfl, HO5.out⟩⟩
      · rw [if_neg (by decide), List.append_nil] at HF
        have b2 : u.cell? ⟨w.heap.size, 2, none⟩ = some (.int .i64 2) := b2
        rw [← HF.out] at HO ⊢
        go_wp2_with fail
        go_ret2
        exact ⟨HXU.out, .inl ⟨HMAY.out, _, _, rfl, HO.out⟩⟩
    case obl =>
      refine ⟨fun u hu hd => ?_, ?_⟩
      · go_simp
        exact ⟨Ext.refl _, rfl⟩
      refine ⟨fun u hu hd => ?_, ?_⟩
      · simp only [Act.put, List.setIfInBounds_toArray, List.set_cons_zero, List.set_cons_succ]
        have e0 : f 0 = (.pointer (some ⟨w.heap.size, 0, none⟩)) := hd 0 (by kernel_rfl)
        have q := ext_cell hu b0
        go_simp
        exact ⟨Ext.refl _, rfl⟩
      refine ⟨fun u hu hd => ?_, ?_⟩
      · simp only [Act.put, List.setIfInBounds_toArray, List.set_cons_zero, List.set_cons_succ]
        have e1 : f 1 = (.slice g.kA e.key.length g.kc) := hd 1 (by kernel_rfl)
        go_simp
        refine (bytes_any _ lo hi e.key u (HE1.out.k.below (Ext.trans HX2.out (Ext.trans (Ext.drew w2) hu)) HHI.out) (Nat.le_trans HHI.out (Ext.trans HX2.out (Ext.trans (Ext.drew w2) hu)).size) HKL.out).mono ?_
        rintro x w9 ⟨v, rfl, hown, hb9⟩
        exact ⟨v, rfl, hb9, ownsRow_base hown (Nat.le_trans HSZ.out (Ext.trans HX2.out (Ext.trans (Ext.drew w2) hu)).size)⟩
      refine ⟨fun u hu hd => ?_, ?_⟩
      · simp only [Act.put, List.setIfInBounds_toArray, List.set_cons_zero, List.set_cons_succ]
        go_simp
        exact ⟨Ext.refl _, rfl⟩
      refine ⟨fun u hu hd => ?_, ?_⟩
      · simp only [Act.put, List.setIfInBounds_toArray, List.set_cons_zero, List.set_cons_succ]
        have e3 : f 3 = (.pointer (some ⟨w.heap.size, 1, none⟩)) := hd 3 (by kernel_rfl)
        have q := ext_cell hu b1
        go_simp
        exact ⟨Ext.refl _, rfl⟩
      refine ⟨fun u hu hd => ?_, ?_⟩
      · simp only [Act.put, List.setIfInBounds_toArray, List.set_cons_zero, List.set_cons_succ]
        have e4 : f 4 = (.int .i64 (n : Int)) := hd 4 (by kernel_rfl)
        go_simp
        exact ⟨Ext.refl _, rfl⟩
      refine ⟨fun u hu hd => ?_, ?_⟩
      · simp only [Act.put, List.setIfInBounds_toArray, List.set_cons_zero, List.set_cons_succ]
        have e5 : f 5 = (.int .u64 (n : Int)) := hd 5 (by kernel_rfl)
        go_simp
        refine (number_any n HN.out u).mono ?_
        rintro x w9 ⟨v, rfl, hown, hb9⟩
        exact ⟨v, rfl, hb9, ownsRow_base hown (Nat.le_trans HSZ.out (Ext.trans HX2.out (Ext.trans (Ext.drew w2) hu)).size)⟩
      refine ⟨fun u hu hd => ?_, ?_⟩
      · simp only [Act.put, List.setIfInBounds_toArray, List.set_cons_zero, List.set_cons_succ]
        go_simp
        exact ⟨Ext.refl _, rfl⟩
      refine ⟨fun u hu hd => ?_, ?_⟩
      · simp only [Act.put, List.setIfInBounds_toArray, List.set_cons_zero, List.set_cons_succ]
        have e7 : f 7 = (.pointer (some ⟨w.heap.size, 2, none⟩)) := hd 7 (by kernel_rfl)
        have q := ext_cell hu b2
        go_simp
        exact ⟨Ext.refl _, rfl⟩
      refine ⟨fun u hu hd => ?_, ?_⟩
      · simp only [Act.put, List.setIfInBounds_toArray, List.set_cons_zero, List.set_cons_succ]
        have e8 : f 8 = (.int .i64 (d : Int)) := hd 8 (by kernel_rfl)
        go_simp
        exact ⟨Ext.refl _, rfl⟩
      refine ⟨fun u hu hd => ?_, ?_⟩
      · simp only [Act.put, List.setIfInBounds_toArray, List.set_cons_zero, List.set_cons_succ]
        have e9 : f 9 = (.int .u64 (d : Int)) := hd 9 (by kernel_rfl)
        go_simp
        refine (number_any d HD.out u).mono ?_
        rintro x w9 ⟨v, rfl, hown, hb9⟩
        exact ⟨v, rfl, hb9, ownsRow_base hown (Nat.le_trans HSZ.out (Ext.trans HX2.out (Ext.trans (Ext.drew w2) hu)).size)⟩
      refine ⟨fun u hu hd => ?_, ?_⟩
      · simp only [Act.put, List.setIfInBounds_toArray, List.set_cons_zero, List.set_cons_succ]
        have h2 : Own w.heap.size (bytesForm e.key) (f 2) u := hd 2 (by kernel_rfl)
        have h6 : Own w.heap.size (form n) (f 6) u := hd 6 (by kernel_rfl)
        have h10 : Own w.heap.size (form d) (f 10) u := hd 10 (by kernel_rfl)
        have hx0 := Lib.hid h2.bs
        have hx1 := Lib.hid h6.bs
        have hx2 := Lib.hid h10.bs
        obtain ⟨v2, e2⟩ : ∃ v, v = f 2 := ⟨_, rfl⟩
        obtain ⟨v6, e6⟩ : ∃ v, v = f 6 := ⟨_, rfl⟩
        obtain ⟨v10, e10⟩ : ∃ v, v = f 10 := ⟨_, rfl⟩
        rw [← e2] at hx0 h2 ⊢
        rw [← e6] at hx1 h6 ⊢
        rw [← e10] at hx2 h10 ⊢
        obtain ⟨A2, c2, rfl⟩ := h2.slice
        obtain ⟨A6, c6, rfl⟩ := h6.slice
        obtain ⟨A10, c10, rfl⟩ := h10.slice
        have hr := Lib.hid (rws_lit u [.slice A2 (bytesForm e.key).length c2, .slice A6 (form n).length c6, .slice A10 (form d).length c10] [bytesForm e.key, form n, form d] 3 rfl rfl (fun i v l hv hl => by
          match i with
          | 0 => simp at hv hl; subst hv hl; exact ⟨_, _, hx0.out, Nat.le_refl _⟩
          | 1 => simp at hv hl; subst hv hl; exact ⟨_, _, hx1.out, Nat.le_refl _⟩
          | 2 => simp at hv hl; subst hv hl; exact ⟨_, _, hx2.out, Nat.le_refl _⟩
          | i + 3 => simp at hv))
        clear h2 h6 h10 e2 e6 e10
        go_simp
        exact ⟨below_new _ _, hr.out⟩
      refine ⟨fun u hu hd => ?_, ?_⟩
      · simp only [Act.put, List.setIfInBounds_toArray, List.set_cons_zero, List.set_cons_succ]
        obtain ⟨hn, g1, h, e11, hh, x, hr⟩ := (show Rws 3 [bytesForm e.key, form n, form d] (f 11) u from hd 11 (by kernel_rfl))
        have HR := Lib.hid hr
        clear hr hn
        go_simp
        refine (join_any (some ⟨g1, 0, none⟩) 3 0 h x _ u HR.out hh (by simp [maxLen]) (by simp) (by rw [← HF3.out]; have := HFL.out; omega) 3 rfl).mono ?_
        rintro x w9 ⟨v, rfl, hown, hb9⟩
        rw [← HF3.out] at hown
        exact ⟨v, rfl, hb9, ownsRow_base hown (Nat.le_trans HSZ.out (Ext.trans HX2.out (Ext.trans (Ext.drew w2) hu)).size)⟩
      refine ⟨fun u hu hd => ?_, ?_⟩
      · simp only [Act.put, List.setIfInBounds_toArray, List.set_cons_zero, List.set_cons_succ]
        have H12 := Lib.hid (show Own w.heap.size F3 (f 12) u from hd 12 (by kernel_rfl))
        go_simp
        exact ⟨Ext.refl _, H12.out⟩
      trivial

theorem size_any {w : World} {lo hi : Nat} {e : Ent} {g : Hd} (hm : Em w lo hi e g) (hhi : hi ≤ w.heap.size) : Calls Tryd.prog 39 #[e.at_ g] w fun x w' => x = .returned (.int .i64 (if e.may then (e.form.length : Int) else 0)) ∧ Ext w w' := by
  obtain ⟨w1, hw1⟩ : ∃ w1, w1 = w.alloc (.cells #[.slice g.kA e.key.length g.kc, .int .i64 e.seq, .int .i64 e.kind, .slice g.vA e.val.length g.vc] 28) := ⟨_, rfl⟩
  have HX : Hid (Ext w w1) := by rw [hw1]; exact ext_alloc _ _
  have HB := Lib.hid (ebytes_any (hm.below HX.out hhi) (Nat.le_trans hhi HX.out.size))
  clear hm hhi
  obtain ⟨N, hN⟩ : ∃ N : Int, N = if e.may then (e.form.length : Int) else 0 := ⟨_, rfl⟩
  rw [← hN]
  unfold Ent.at_ at HB ⊢
  go_enter Tryd.func39, Tryd.ntmps39
  rw [hw1] at HB HX
  go_wp2_with fail
  refine Calls.mono HB.out ?_
  rintro x w2 ⟨hx, (⟨hmay, A, c, rfl, _⟩ | ⟨hmay, rfl⟩)⟩
  · have HX2 := Lib.hid (Ext.trans HX.out hx)
    rw [hmay] at hN
    have HN := Lib.hid hN
    clear hx hN
    go_wp2_with fail
    go_ret
    have hn := HN.out
    subst hn
    exact ⟨rfl, HX2.out⟩
  · have HX2 := Lib.hid (Ext.trans HX.out hx)
    rw [hmay] at hN
    have HN := Lib.hid hN
    clear hx hN
    go_wp2_with fail
    go_ret
    have hn := HN.out
    subst hn
    exact ⟨rfl, HX2.out⟩
end Go.Proofs.YtepaaffebhinlaaDoor

/- Lists of numbers: wire.Take and wire.Put at uint64. -/
namespace Go.Proofs.YtepaaffebhinlaaDoor
open Go.ChangeShapes Go.WideShapes Go.ChangeAt Go.RowKit

/-- Numbers that stand here one behind the other. -/
def AllNum : List Nat → List Nat → List Nat → Prop
  | l, [], rest => l = rest
  | l, x :: xs, rest => ∃ mid, Begins l x mid ∧ AllNum mid xs rest
theorem AllNum.snoc : ∀ {xs l mid : List Nat} {x : Nat} {rest : List Nat}, AllNum l xs mid → Begins mid x rest → AllNum l (xs ++ [x]) rest
  | [], l, mid, x, rest, h, hb => by
    have : l = mid := h
    subst this
    exact ⟨rest, hb, rfl⟩
  | y :: ys, l, mid, x, rest, ⟨m, h1, h2⟩, hb => ⟨m, h1, AllNum.snoc h2 hb⟩
theorem AllNum.len : ∀ {xs l rest : List Nat}, AllNum l xs rest → xs.length + rest.length ≤ l.length
  | [], l, rest, h => by
    have : l = rest := h
    subst this
    simp
  | x :: xs, l, rest, ⟨m, h1, h2⟩ => by
    have := AllNum.len h2
    have h3 := congrArg List.length h1.eq
    have h4 : 0 < (form x).length := by
      by_cases h : x < 128
      · rw [form_lo h]; simp
      · rw [form_hi h]; simp
    simp at h3
    simp only [List.length_cons]
    omega

def uv (l : List Nat) : List Value := l.map fun n : Nat => Value.int .u64 (n : Int)
theorem t22info : (Tryd.prog.info? 82).map (fun i => (i.zero, i.size, i.bytes)) = some (some (.int .u64 0), 1, 8) := by kernel_rfl

/-- A list that stands here, in new memory from block B on. -/
def OkList (B : Nat) (most : Int) (l : List Nat) (v : Value) (rest : List Nat) (w : World) : Prop :=
  ∃ xs mid : List Nat, Begins l xs.length mid ∧ (xs.length : Int) ≤ most ∧ AllNum mid xs rest ∧ w.ownsRow B 82 1 v xs.length (uv xs)
def ErrList (most : Int) (l : List Nat) (n : Int) : Prop := ErrCount most l n ∨ (n = 4 ∧ ∃ m mid, Begins l m mid ∧ (m : Int) ≤ most ∧ ∃ xs rest, xs.length < m ∧ AllNum mid xs rest ∧ NoNum rest)

theorem holds_list (B : Nat) (most : Int) (l : List Nat) (B' : Nat) (h : B' ≤ B) : Holds2 (OkList B most l) B' := by
  rintro v rest w b o u ⟨xs, mid, h1, h2, h3, h4⟩ hb
  exact ⟨xs, mid, h1, h2, h3, ownsRow_setCell_below h4 (by simpa using Nat.lt_of_lt_of_le hb h) u⟩

theorem own_grown {w w' : World} {B : Nat} {e : TypeId} {v : Value} {n : Nat} {xs : List Value} {r : Nat} (h : w.ownsRow B e 1 v n xs) (hg : w.grownBy w' (some r)) (hr : r < B) : w'.ownsRow B e 1 v n xs := by
  refine h.kept hg ?_
  cases hb : v.ownBlock with
  | none => exact .inl rfl
  | some k =>
    right
    have := (h.lt k hb).1
    intro he
    injection he with he
    omega

theorem grownBy_trans {a b c : World} {r : Nat} (h : a.grownBy b (some r)) (k : b.grownBy c (some r)) : a.grownBy c (some r) :=
  ⟨k.os.trans h.os, k.tape.trans h.tape, k.output.trans h.output, Nat.le_trans h.size k.size, fun i hi hne => (k.block i (Nat.lt_of_lt_of_le hi h.size) hne).trans (h.block i hi hne)⟩
theorem grownBy_below {a b c : World} {r : Nat} (h : a.grownBy b (some r)) (k : Below a.heap.size b c) : a.grownBy c (some r) :=
  ⟨k.os.trans h.os, k.tape.trans h.tape, k.output.trans h.output, Nat.le_trans h.size k.size, fun i hi hne => (k.block i hi).trans (h.block i hi hne)⟩

/-- The form of a list of numbers. -/
def listForm (xs : List Nat) : List Nat := form xs.length ++ (xs.map form).flatten

theorem allnum_forms : ∀ (xs rest : List Nat), (∀ x ∈ xs, U64 x) → AllNum ((xs.map form).flatten ++ rest) xs rest
  | [], rest, _ => by simp [AllNum]
  | x :: xs, rest, h => ⟨(xs.map form).flatten ++ rest, ⟨h x (by simp), by simp⟩, allnum_forms xs rest fun y hy => h y (by simp [hy])⟩
theorem AllNum.forms : ∀ {xs l rest : List Nat}, AllNum l xs rest → l = (xs.map form).flatten ++ rest ∧ ∀ x ∈ xs, U64 x
  | [], l, rest, h => ⟨by simpa using (show l = rest from h), by simp⟩
  | x :: xs, l, rest, ⟨m, h1, h2⟩ => by
    obtain ⟨h3, h4⟩ := AllNum.forms h2
    refine ⟨by rw [h1.eq, h3]; simp, fun y hy => ?_⟩
    rcases List.mem_cons.1 hy with rfl | hy
    · exact h1.n64
    · exact h4 y hy
end Go.Proofs.YtepaaffebhinlaaDoor

/- The reference's writers answer the same forms. -/
namespace Go.Proofs.YtepaaffebhinlaaDoor
open Go.ChangeShapes Go.WideShapes Go.ChangeAt Go.RowKit

theorem wq {m : Nat} (h : U64 m) : IntKind.u64.wrap ((m : Int) / 128) = (m : Int) / 128 := by have := h.lt; rw [IntKind.wrap_u64]; omega
theorem wr128 (m : Nat) : IntKind.u64.wrap ((m : Int) % 128) = (m : Int) % 128 := by rw [IntKind.wrap_u64]; omega
theorem form_pos (n : Nat) : 0 < (form n).length := by
  by_cases h : n < 128
  · rw [form_lo h]; simp
  · rw [form_hi h]; simp

theorem drop_form (n : Nat) : ∀ (k m : Nat), k < (form n).length → (form n).drop k = form m → (form n)[k]? = some (if m < 128 then m else m % 128 + 128) ∧ (¬ m < 128 → (form n).drop (k + 1) = form (m / 128)) ∧ (m < 128 ↔ k + 1 = (form n).length) := by
  intro k m hk h
  have h0 : ((form n).drop k)[0]? = (form n)[k]? := by rw [List.getElem?_drop]; simp
  have hl : ((form n).drop k).length = (form n).length - k := by simp
  have hd : (form n).drop (k + 1) = ((form n).drop k).drop 1 := by rw [List.drop_drop]
  by_cases hm : m < 128
  · rw [h, form_lo hm] at h0 hl
    refine ⟨by rw [← h0, if_pos hm]; rfl, fun h => absurd hm h, fun _ => ?_, fun _ => hm⟩
    simp at hl; omega
  · have hp := form_pos (m / 128)
    rw [h, form_hi hm] at h0 hl hd
    refine ⟨by rw [← h0, if_neg hm]; rfl, fun _ => by rw [hd]; rfl, fun h => absurd h hm, fun h => ?_⟩
    simp at hl; omega

theorem take_set {xs : List Value} {L : List Nat} {k u : Nat} (hk : k < L.length) (hx : k < xs.length) (ht : xs.take k = bv (L.take k)) (hg : L[k]? = some u) {v : Value} (hv : v = .int .u8 (u : Int) := by rfl) :
    (xs.set k v).take (k + 1) = bv (L.take (k + 1)) := by
  subst hv
  rw [List.getElem?_eq_getElem hk] at hg
  injection hg with hg
  rw [List.take_succ_eq_append_getElem (by simpa using hx), List.take_succ_eq_append_getElem hk, bv_append, ← ht, hg, List.take_set, List.set_eq_of_length_le (by simp; omega)]
  simp [bv]

end Go.Proofs.YtepaaffebhinlaaDoor

/- The reference's Signed, Flag, Bytes. -/
namespace Go.Proofs.YtepaaffebhinlaaDoor
open Go.ChangeShapes Go.WideShapes Go.ChangeAt Go.RowKit

end Go.Proofs.YtepaaffebhinlaaDoor

/- The reference's reader. -/
namespace Go.Proofs.YtepaaffebhinlaaDoor
open Go.ChangeShapes Go.WideShapes Go.ChangeAt Go.RowKit
theorem below_drewN {B : Nat} {w w' : World} (h : Below B w w') (n : Nat) : Below B w (w'.drewN n) := h.trans ⟨rfl, rfl, rfl, Nat.le_refl _, fun _ _ => rfl⟩
theorem grown_refl (w : World) (row : Option Nat) : w.grownBy w row := ⟨rfl, rfl, rfl, Nat.le_refl _, fun _ _ _ => rfl⟩
theorem grown_then {a b c : World} {r : Nat} (h : a.grownBy b (some r)) (k : Below b.heap.size b c) : a.grownBy c (some r) := grownBy_below h (k.mono h.size)

/-- How many bytes the form has that stands first. -/
def Wh (l : List Nat) (m : Nat) : Prop := (m = 0 ∧ NoNum l) ∨ ∃ (i : Nat) (hi : i < l.length), m = i + 1 ∧ i ≤ 9 ∧ l[i] < 128 ∧ Begins l (val (l.take i) + 128 ^ i * l[i]) (l.drop (i + 1))

end Go.Proofs.YtepaaffebhinlaaDoor

/- The reference's reader: its numbers. -/
namespace Go.Proofs.YtepaaffebhinlaaDoor
open Go.ChangeShapes Go.WideShapes Go.ChangeAt Go.RowKit

/-- The digits from place j on. -/
def Vd (l : List Nat) (m j : Nat) : Nat := val ((l.take m).drop j)
theorem vd_step {l : List Nat} {m j : Nat} (hm : m ≤ l.length) (hj : j < m) : Vd l m j = l[j]'(by omega) % 128 + 128 * Vd l m (j + 1) := by
  unfold Vd
  have h1 : j < (l.take m).length := by simp; omega
  rw [List.drop_eq_getElem_cons h1, val]
  simp
theorem vd_le (l : List Nat) (m : Nat) : ∀ j, Vd l m j ≤ val (l.take m) := by
  intro j
  have h := val_append ((l.take m).take j) ((l.take m).drop j)
  rw [List.take_append_drop] at h
  unfold Vd
  have h2 : 0 < 128 ^ ((l.take m).take j).length := Nat.pow_pos (by omega)
  have := Nat.le_mul_of_pos_left (val ((l.take m).drop j)) h2
  omega
theorem vd_top (l : List Nat) (m : Nat) (hm : m ≤ l.length) : Vd l m m = 0 := by
  unfold Vd; rw [List.drop_of_length_le (by simp; omega)]; rfl
theorem vd_zero (l : List Nat) (m : Nat) : Vd l m 0 = val (l.take m) := by simp [Vd]
theorem vd_sum {a x s : Nat} (h : s = x % 128 + 128 * a) (h2 : s < 18446744073709551616) : a * 128 < 18446744073709551616 ∧ a * 128 + x % 128 = s := by omega

theorem wrap_step {a x s : Nat} (h : a * 128 < 18446744073709551616) (h2 : a * 128 + x % 128 = s) (hs : s < 18446744073709551616) :
    IntKind.u64.wrap (IntKind.u64.wrap ((a : Int) * 128) + (x : Int) % 128) = (s : Int) := by
  have e1 : ∀ n : Int, 0 ≤ n → n < 18446744073709551616 → IntKind.u64.wrap n = n := fun n h0 h1 => by
    simp only [IntKind.wrap_u64]; omega
  have h3 : (a : Int) * 128 < 18446744073709551616 := by omega
  rw [e1 _ (by omega) h3, e1 _ (by omega) (by omega)]
  omega

theorem half_even {n : Nat} (h : n < 18446744073709551616) : ((n : Int) / 2) < 9223372036854775808 := by omega
theorem zz_half (n : Nat) : (n % 2 = 0 → zz ((n : Int) / 2) = n) ∧ (n % 2 = 1 → zz (-1 - (n : Int) / 2) = n) := by
  constructor
  · intro h; unfold zz; rw [if_pos (by omega)]; omega
  · intro h; unfold zz; rw [if_neg (by omega)]; omega

/-- Why the reference counts none. -/
def RErrCount (most : Int) (l : List Nat) (n : Int) : Prop := (n = 4 ∧ NoNum l) ∨ (n = 3 ∧ ∃ m rest, Begins l m rest ∧ most < (m : Int))

end Go.Proofs.YtepaaffebhinlaaDoor

/- The reference's reader: bytes. -/
namespace Go.Proofs.YtepaaffebhinlaaDoor
open Go.ChangeShapes Go.WideShapes Go.ChangeAt Go.RowKit

def RErrText (most : Int) (l : List Nat) (n : Int) : Prop := RErrCount most l n ∨ (n = 4 ∧ ∃ m rest, Begins l m rest ∧ (m : Int) ≤ most ∧ rest.length < m)

end Go.Proofs.YtepaaffebhinlaaDoor

/- The reference's reader: a list of numbers. -/
namespace Go.Proofs.YtepaaffebhinlaaDoor
open Go.ChangeShapes Go.WideShapes Go.ChangeAt Go.RowKit

def RErrList (most : Int) (l : List Nat) (n : Int) : Prop := RErrCount most l n ∨ (n = 4 ∧ ∃ m mid, Begins l m mid ∧ (m : Int) ≤ most ∧ ∃ xs rest, xs.length < m ∧ AllNum mid xs rest ∧ NoNum rest)
def lenOf : Value → Nat
  | .slice _ n _ => n
  | _ => 0

end Go.Proofs.YtepaaffebhinlaaDoor

/- What is read, by the program's reader and by the reference's, said at once; it is told. -/
namespace Go.Proofs.YtepaaffebhinlaaDoor
open Go.ChangeShapes Go.WideShapes Go.ChangeAt Go.RowKit

def OutNum (l : List Nat) (n : Nat) (k : Int) (rest : List Nat) : Prop := (k = 0 ∧ Begins l n rest) ∨ (k = 4 ∧ NoNum l ∧ rest = l ∧ n = 0)
def OutSig (l : List Nat) (s : Int) (k : Int) (rest : List Nat) : Prop := (k = 0 ∧ Begins l (zz s) rest) ∨ (k = 4 ∧ NoNum l ∧ rest = l ∧ s = 0)
def OutFlag (l : List Nat) (b : Bool) (k : Int) (rest : List Nat) : Prop := (k = 0 ∧ l = flagForm b ++ rest) ∨ (k = 4 ∧ (∀ b rest, l ≠ flagForm b ++ rest) ∧ rest = l ∧ b = false)
def OutText (most : Int) (l bs : List Nat) (k : Int) (rest : List Nat) : Prop := (k = 0 ∧ (bs.length : Int) ≤ most ∧ U64 bs.length ∧ l = bytesForm bs ++ rest) ∨ (k ≠ 0 ∧ ErrText most l k ∧ rest = l ∧ bs = [])
theorem OutNum.same {l r r' : List Nat} {n n' : Nat} {k k' : Int} (h : OutNum l n k r) (h' : OutNum l n' k' r') : n = n' ∧ k = k' ∧ r = r' := by
  rcases h with ⟨rfl, hb⟩ | ⟨rfl, hno, rfl, rfl⟩ <;> rcases h' with ⟨rfl, hb'⟩ | ⟨rfl, hno', rfl, rfl⟩
  · obtain ⟨h1, h2⟩ := hb.unique hb'; exact ⟨h1, rfl, h2⟩
  · exact absurd hb (hno' _ _)
  · exact absurd hb' (hno _ _)
  · exact ⟨rfl, rfl, rfl⟩
theorem OutSig.same {l r r' : List Nat} {n n' : Int} {k k' : Int} (h : OutSig l n k r) (h' : OutSig l n' k' r') : n = n' ∧ k = k' ∧ r = r' := by
  rcases h with ⟨rfl, hb⟩ | ⟨rfl, hno, rfl, rfl⟩ <;> rcases h' with ⟨rfl, hb'⟩ | ⟨rfl, hno', rfl, rfl⟩
  · obtain ⟨h1, h2⟩ := hb.unique hb'; exact ⟨zz_inj h1, rfl, h2⟩
  · exact absurd hb (hno' _ _)
  · exact absurd hb' (hno _ _)
  · exact ⟨rfl, rfl, rfl⟩
theorem OutFlag.same {l r r' : List Nat} {n n' : Bool} {k k' : Int} (h : OutFlag l n k r) (h' : OutFlag l n' k' r') : n = n' ∧ k = k' ∧ r = r' := by
  rcases h with ⟨rfl, hb⟩ | ⟨rfl, hno, rfl, rfl⟩ <;> rcases h' with ⟨rfl, hb'⟩ | ⟨rfl, hno', rfl, rfl⟩
  · rw [hb] at hb'
    cases n <;> cases n' <;> simp [flagForm] at hb' <;> simp [hb']
  · exact absurd hb (hno' _ _)
  · exact absurd hb' (hno _ _)
  · exact ⟨rfl, rfl, rfl⟩
theorem begins_text {l bs rest : List Nat} (h : U64 bs.length) (he : l = bytesForm bs ++ rest) : Begins l bs.length (bs ++ rest) := ⟨h, by rw [he]; simp [bytesForm]⟩
theorem ErrCount.not {most : Int} {l : List Nat} {n : Int} {m : Nat} {rest : List Nat} (h : ErrCount most l n) (hb : Begins l m rest) (hle : (m : Int) ≤ most) : False := by
  rcases h with ⟨_, h0⟩ | ⟨_, _, hno⟩ | ⟨_, _, m', r', hb', hlt⟩
  · omega
  · exact hno _ _ hb
  · obtain ⟨e1, _⟩ := hb.unique hb'; omega
theorem ErrCount.same {most : Int} {l : List Nat} {n n' : Int} (h : ErrCount most l n) (h' : ErrCount most l n') : n = n' := by
  rcases h with ⟨rfl, h0⟩ | ⟨_, rfl, hno⟩ | ⟨_, rfl, m, r, hb, hlt⟩ <;> rcases h' with ⟨rfl, h0'⟩ | ⟨_, rfl, hno'⟩ | ⟨_, rfl, m', r', hb', hlt'⟩ <;> first | rfl | omega | exact absurd hb' (hno _ _) | exact absurd hb (hno' _ _)
theorem ErrText.same {most : Int} {l : List Nat} {n n' : Int} (h : ErrText most l n) (h' : ErrText most l n') : n = n' := by
  rcases h with h | ⟨rfl, m, r, hb, hle, hlt⟩ <;> rcases h' with h' | ⟨rfl, m', r', hb', hle', hlt'⟩
  · exact h.same h'
  · exact (h.not hb' hle').elim
  · exact (h'.not hb hle).elim
  · rfl
theorem ErrText.not {most : Int} {l : List Nat} {n : Int} (h : ErrText most l n) {bs rest : List Nat} (h1 : (bs.length : Int) ≤ most) (h2 : U64 bs.length) (h3 : l = bytesForm bs ++ rest) : False := by
  have hb := begins_text h2 h3
  rcases h with h | ⟨rfl, m, r, hb', hle, hlt⟩
  · exact h.not hb h1
  · obtain ⟨rfl, rfl⟩ := hb.unique hb'; simp at hlt; omega
theorem OutText.same {most : Int} {l r r' n n' : List Nat} {k k' : Int} (h : OutText most l n k r) (h' : OutText most l n' k' r') : n = n' ∧ k = k' ∧ r = r' := by
  rcases h with ⟨rfl, h1, h2, h3⟩ | ⟨_, he, rfl, rfl⟩ <;> rcases h' with ⟨rfl, h1', h2', h3'⟩ | ⟨_, he', rfl, rfl⟩
  · obtain ⟨e1, e2⟩ := (begins_text h2 h3).unique (begins_text h2' h3')
    obtain ⟨a1, a2⟩ := List.append_inj e2 e1
    exact ⟨a1, rfl, a2⟩
  · exact (he'.not h1 h2 h3).elim
  · exact (he.not h1' h2' h3').elim
  · exact ⟨rfl, he.same he', rfl⟩
theorem rcount {most : Int} (h0 : 0 ≤ most) {l : List Nat} {n : Int} (h : RErrCount most l n) : ErrCount most l n := by
  rcases h with ⟨rfl, h⟩ | ⟨rfl, m, r, h1, h2⟩
  · exact .inr (.inl ⟨h0, rfl, h⟩)
  · exact .inr (.inr ⟨h0, rfl, m, r, h1, h2⟩)
theorem OutText.neg {most : Int} {l bs rest : List Nat} {k : Int} (hm : most < 0) (h : OutText most l bs k rest) : k = 2 ∧ rest = l ∧ bs = [] := by
  rcases h with ⟨rfl, h1, _⟩ | ⟨_, he, rfl, rfl⟩
  · omega
  · exact ⟨he.same (.inl (.inl ⟨rfl, hm⟩)), rfl, rfl⟩
/-- Nothing that stood is other than it was, but the two readers. -/
structure G2 (r q : Nat) (w w' : World) : Prop where
  os : w'.os = w.os
  tape : w'.tape = w.tape
  output : w'.output = w.output
  size : w.heap.size ≤ w'.heap.size
  block : ∀ i, i < w.heap.size → i ≠ r → i ≠ q → w'.heap[i]? = w.heap[i]?
theorem G2.refl (r q : Nat) (w : World) : G2 r q w w := ⟨rfl, rfl, rfl, Nat.le_refl _, fun _ _ _ _ => rfl⟩
theorem G2.trans {r q : Nat} {a b c : World} (h : G2 r q a b) (k : G2 r q b c) : G2 r q a c :=
  ⟨k.os.trans h.os, k.tape.trans h.tape, k.output.trans h.output, Nat.le_trans h.size k.size, fun i hi h1 h2 => (k.block i (Nat.lt_of_lt_of_le hi h.size) h1 h2).trans (h.block i hi h1 h2)⟩
theorem g2_r {r q : Nat} {a b : World} (h : a.grownBy b (some r)) : G2 r q a b := ⟨h.os, h.tape, h.output, h.size, fun i hi h1 _ => h.block i hi (by intro e; injection e with e; exact h1 e)⟩
theorem g2_q {r q : Nat} {a b : World} (h : a.grownBy b (some q)) : G2 r q a b := ⟨h.os, h.tape, h.output, h.size, fun i hi _ h2 => h.block i hi (by intro e; injection e with e; exact h2 e)⟩
theorem g2_b {r q : Nat} {a b : World} (h : Below a.heap.size a b) : G2 r q a b := ⟨h.os, h.tape, h.output, h.size, fun i hi _ _ => h.block i hi⟩
end Go.Proofs.YtepaaffebhinlaaDoor

/- ikey's Read. -/
namespace Go.Proofs.YtepaaffebhinlaaDoor
open Go.ChangeShapes Go.WideShapes Go.ChangeAt Go.RowKit

theorem Own.nil (B : Nat) (w : World) : Own B [] (.slice none 0 0) w := World.ownsRow_nil _ _ _ _
theorem Own.grown {B r : Nat} {l : List Nat} {v : Value} {w w' : World} (h : Own B l v w) (hg : w.grownBy w' (some r)) (hr : r < B) : Own B l v w' := own_grown h hg hr
theorem OutText.len {most : Int} {l bs rest : List Nat} {k : Int} (h : OutText most l bs k rest) : bs.length ≤ l.length ∧ rest.length ≤ l.length ∧ (∀ x ∈ bs, x ∈ l) := by
  rcases h with ⟨_, _, _, rfl⟩ | ⟨_, _, rfl, rfl⟩
  · refine ⟨?_, ?_, fun x hx => ?_⟩
    · unfold bytesForm; simp only [List.length_append]; omega
    · simp only [List.length_append]; omega
    · unfold bytesForm; simp [hx]
  · simp
theorem OutNum.len {l rest : List Nat} {n : Nat} {k : Int} (h : OutNum l n k rest) : rest.length ≤ l.length ∧ U64 n := by
  rcases h with ⟨_, hb⟩ | ⟨_, _, rfl, rfl⟩
  · refine ⟨?_, hb.n64⟩
    rw [hb.eq, List.length_append]; omega
  · exact ⟨Nat.le_refl _, ⟨by omega⟩⟩

/-- What is read in a row, where an entry stands. -/
theorem read_is {b kb vb r1 r2 r3 r4 : List Nat} {n d : Nat} {k1 k2 k3 k4 : Int} (h1 : OutText 32 b kb k1 r1) (h2 : OutNum r1 n k2 r2) (h3 : OutNum r2 d k3 r3) (h4 : OutText 65536 r3 vb k4 r4) {e : Ent} (he : IsE b e) :
    e = ⟨kb, n, d, vb⟩ ∧ k1 = 0 ∧ k2 = 0 ∧ k3 = 0 ∧ (e.kind = 1 → k4 = 0) ∧ (e.kind = 2 → r3 = []) ∧ r4 = [] := by
  obtain ⟨hm, rfl⟩ := he
  obtain ⟨u1, u2, u3, u4⟩ := Ent.may_u64 hm
  obtain ⟨a1, a2, a3, a4, a5⟩ := mayN_iff.1 hm
  unfold Ent.form at h1
  obtain ⟨rfl, rfl, rfl⟩ := h1.same (.inl ⟨rfl, by omega, u1, rfl⟩)
  obtain ⟨rfl, rfl, rfl⟩ := h2.same (.inl ⟨rfl, u2, rfl⟩)
  obtain ⟨rfl, rfl, rfl⟩ := h3.same (.inl ⟨rfl, u3, rfl⟩)
  have e1 : ((e.seq.toNat : Nat) : Int) = e.seq := by omega
  have e2 : ((e.kind.toNat : Nat) : Int) = e.kind := by omega
  rcases a5 with ⟨a5, a6⟩ | ⟨a5, a6⟩
  · rw [if_pos a5] at h4
    obtain ⟨rfl, rfl, rfl⟩ := h4.same (.inl ⟨rfl, by omega, u4, (List.append_nil _).symm⟩)
    refine ⟨Ent.ext rfl e1.symm e2.symm rfl, rfl, rfl, rfl, fun _ => rfl, fun h => by omega, rfl⟩
  · rw [if_neg (by omega)] at h4
    have hv : vb = [] ∧ r4 = [] := by
      rcases h4 with ⟨_, _, _, h⟩ | ⟨_, _, rfl, rfl⟩
      · have h5 := congrArg List.length h
        have h6 := (bytesForm_len (l := vb) ⟨by omega⟩)
        simp only [List.length_append, List.length_nil] at h5
        omega
      · exact ⟨rfl, rfl⟩
    obtain ⟨rfl, rfl⟩ := hv
    refine ⟨Ent.ext rfl e1.symm e2.symm (List.eq_nil_of_length_eq_zero a6), rfl, rfl, rfl, fun h => by omega, fun _ => by rw [if_neg (by omega)], rfl⟩

/-- An entry of nothing. -/
def noE : Value := .agg #[.slice none 0 0, .int .i64 0, .int .i64 0, .slice none 0 0]
/-- What Read answers. -/
def ReadAns (w : World) (b : List Nat) (x : Ending) (w' : World) : Prop :=
  Ext w w' ∧ ((∃ (e : Ent) (g : Hd), IsE b e ∧ x = .returned (.tuple #[e.at_ g, .int .i64 0]) ∧ Own w.heap.size e.key (.slice g.kA e.key.length g.kc) w' ∧ Own w.heap.size e.val (.slice g.vA e.val.length g.vc) w') ∨
    ((∀ e, ¬ IsE b e) ∧ x = .returned (.tuple #[noE, .int .i64 4])))

theorem entry_ret {fn : Func} {tmps : Array Value} {w : World} {g : Nat} {p q : Tmp} {c : Array Value} {k : Value} {R : Ending → World → Prop} (hr : fn.results = #[.cell p 28, .tmp q]) (h2 : tmps.getD p undef = .pointer (some ⟨g, 0, none⟩)) (h3 : tmps.getD q undef = k)
    (hc : c.size = 4) (hg : w.heap[g]? = some (.cells c 28 (0, 0))) (h : R (.returned (.tuple #[.agg c, k])) w) : bodyPost Tryd.prog fn R .ret { tmps := tmps, defers := [] } w := by
  refine ⟨rfl, .tuple #[.agg c, k], ?_, h⟩
  have hi : (Tryd.prog.info? 28).map (·.size) = some 4 := by kernel_rfl
  have hl := run_loadVar_row (P := Tryd.prog) w g 28 28 c (0, 0) _ hg Tryd.underlying28 rfl (by rw [hc]; exact hi)
  have ha : (asAddr (.pointer (some ⟨g, 0, none⟩))).run Tryd.prog w = .ok ⟨g, 0, none⟩ w := rfl
  rw [results_cell_tmp hr, h2, h3, ha, Result.andThen_ok, hl, Result.andThen_ok]
/-- Four cells of a block, set. -/
theorem set_four {u : World} {g : Nat} {a b c d x y z t : Value} {ty : TypeId} (h : u.heap[g]? = some (.cells #[a, b, c, d] ty (0, 0))) :
    ((((u.setCell ⟨g, 0, none⟩ x).setCell ⟨g, 1, none⟩ y).setCell ⟨g, 2, none⟩ z).setCell ⟨g, 3, none⟩ t).heap[g]? = some (.cells #[x, y, z, t] ty (0, 0)) := by
  have h1 := heap_setCell_same u g 0 _ _ x h
  have h2 := heap_setCell_same (u.setCell ⟨g, 0, none⟩ x) g 1 _ _ y h1
  have h3 := heap_setCell_same ((u.setCell ⟨g, 0, none⟩ x).setCell ⟨g, 1, none⟩ y) g 2 _ _ z h2
  have h4 := heap_setCell_same (((u.setCell ⟨g, 0, none⟩ x).setCell ⟨g, 1, none⟩ y).setCell ⟨g, 2, none⟩ z) g 3 _ _ t h3
  rw [h4]; rfl
theorem frozen_four {u : World} {g j : Nat} {c : Array Value} {ty : TypeId} (h : u.heap[g]? = some (.cells c ty (0, 0))) : u.frozen? ⟨g, j, none⟩ = false := by simp [World.frozen?, h]

end Go.Proofs.YtepaaffebhinlaaDoor

/- A region that draws its order, by facts, up to an operation from which on each one waits for all ahead of it: from there on it is walked in the order of the text (no function of the program). -/
namespace Go.Proofs.YtepaaffebhinlaaDoor
open Go.RowKit

/-- Operation i waits for the j-th, by way of others. -/
def reachB (ops : Array Oper) : Nat → Nat → Nat → Bool
  | 0, _, _ => false
  | f + 1, i, j => match ops[i]? with | some o => aft o j || (List.range i).any (fun k => aft o k && reachB ops f k j) | none => false
/-- From the m-th operation on, each waits for the one ahead of it, and for all of the first m. -/
def tailOk (ops : Array Oper) (m : Nat) : Bool := (List.range ops.size).all fun i => decide (i < m) || ((decide (i = m) || match ops[i]? with | some o => aft o (i - 1) | none => false) && (List.range m).all (reachB ops ops.size i))

section
variable {P : Program} {ops : Array Oper} {Q : Exit → Act → World → Prop} {φ : List (Value → World → Prop)} {a0 : Act} {w0 : World} {m : Nat}

theorem tail_prev (h : tailOk ops m = true) {i : Nat} {o : Oper} (hi : ops[i]? = some o) (hm : m < i) : aft o (i - 1) = true := by
  have hlt := (Array.getElem?_eq_some_iff.1 hi).1
  have h1 := (List.all_eq_true.1 h) i (List.mem_range.2 hlt)
  simp only [hi, Bool.or_eq_true, Bool.and_eq_true, decide_eq_true_eq] at h1
  rcases h1 with h1 | ⟨h1 | h1, _⟩
  · omega
  · omega
  · exact h1
theorem tail_reach (h : tailOk ops m = true) {i : Nat} {o : Oper} (hi : ops[i]? = some o) (hm : m ≤ i) : ∀ j, j < m → reachB ops ops.size i j = true := by
  intro j hj
  have hlt := (Array.getElem?_eq_some_iff.1 hi).1
  have h1 := (List.all_eq_true.1 h) i (List.mem_range.2 hlt)
  simp only [hi, Bool.or_eq_true, Bool.and_eq_true, decide_eq_true_eq] at h1
  rcases h1 with h1 | ⟨_, h1⟩
  · omega
  · exact (List.all_eq_true.1 h1) j (List.mem_range.2 hj)
theorem reach_seen {seen : Array Bool} {a : Act} {u : World} (hI : Inv ops φ a0 w0 seen a u) : ∀ (f k j : Nat), seen.getD k false = true → reachB ops f k j = true → seen.getD j false = true := by
  intro f
  induction f with
  | zero => intro k j _ h; cases h
  | succ f ih =>
    intro k j hk h
    simp only [reachB] at h
    split at h
    · rename_i o ho
      rcases Bool.or_eq_true_iff.1 h with h | h
      · exact hI.closed k o ho hk j h
      · obtain ⟨k', _, h2⟩ := List.any_eq_true.1 h
        simp only [Bool.and_eq_true] at h2
        exact ih k' j (hI.closed k o ho hk k' h2.1) h2.2
    · cases h
theorem aft_seen {seen : Array Bool} {o : Oper} (hed : ∀ e ∈ o.after, Region.binds .any e = true → seen.getD e.on false = true) {j : Nat} (h : aft o j = true) : seen.getD j false = true := by
  unfold aft at h
  obtain ⟨e, he, hb⟩ := Array.any_eq_true'.1 h
  simp only [Bool.and_eq_true, beq_iff_eq] at hb
  rw [← hb.2]
  exact hed e he hb.1
theorem ready_seen {seen : Array Bool} {a : Act} {u : World} (hI : Inv ops φ a0 w0 seen a u) {i : Nat} {o : Oper} (hi : ops[i]? = some o) (hed : ∀ e ∈ o.after, Region.binds .any e = true → seen.getD e.on false = true) {f j : Nat} (h : reachB ops f i j = true) : seen.getD j false = true := by
  cases f with
  | zero => cases h
  | succ f =>
    simp only [reachB, hi] at h
    rcases Bool.or_eq_true_iff.1 h with h | h
    · exact aft_seen hed h
    · obtain ⟨k', _, h2⟩ := List.any_eq_true.1 h
      simp only [Bool.and_eq_true] at h2
      exact reach_seen hI f k' j (aft_seen hed h2.1) h2.2

theorem done_getD {n k j : Nat} (b : Bool) (hj : j < n) : (Done n k).getD j b = decide (j < k) := by simp [Done, Array.getD, hj]
theorem done_size (n k : Nat) : (Done n k).size = n := by simp [Done]

theorem seq_tail {size : Nat} (hok : flowOk ops size = true) (ht : tailOk ops m = true) : ∀ (r k : Nat) (a : Act) (u : World), k + r = ops.size → m ≤ k → wpList P ops Q (ops.toList.drop k) a u → wpAny P .any ops Q r (Done ops.size k) a u := by
  intro r
  induction r with
  | zero =>
    intro k a u hk hm h
    have hk' : k = ops.size := by omega
    subst hk'
    rw [List.drop_of_length_le (by simp)] at h
    refine ⟨List.eq_nil_iff_forall_not_mem.2 fun i hi => ?_, h⟩
    obtain ⟨hun, oi, hio, _⟩ := mem_ready.1 hi
    have hlt := (Array.getElem?_eq_some_iff.1 hio).1
    rw [done_getD true hlt] at hun
    simp at hun; omega
  | succ r ih =>
    intro k a u hk hm h
    have hlt : k < ops.size := by omega
    have ho : ops[k]? = some ops[k] := Array.getElem?_eq_getElem hlt
    rw [List.drop_eq_getElem_cons (by simpa using hlt)] at h
    have hready : k ∈ Region.ready .any ops (Done ops.size k) := mem_ready.2 ⟨by rw [done_getD true hlt]; simp, ops[k], ho, fun e he hb => by
      have h1 := (flowOk_at hok ho).1 e he hb
      rw [done_getD false (by omega)]; simpa using h1⟩
    refine ⟨fun h0 => absurd hready (by rw [h0]; simp), fun i hi => ?_⟩
    have hik : i = k := by
      obtain ⟨hun, oi, hio, hed⟩ := mem_ready.1 hi
      have hil := (Array.getElem?_eq_some_iff.1 hio).1
      rw [done_getD true hil] at hun
      have hge : k ≤ i := by simpa using hun
      rcases Nat.lt_or_ge k i with hki | hki
      · have h2 := aft_seen hed (tail_prev ht hio (by omega))
        rw [done_getD false (by omega)] at h2
        simp at h2; omega
      · omega
    subst hik
    have hnext : ∀ a u, wpList P ops Q (ops.toList.drop (i + 1)) a u → wpAny P .any ops Q r ((Done ops.size i).setIfInBounds i true) a u := fun a u h => by
      rw [Done.succ hlt]
      exact ih (i + 1) a u (by omega) (by omega) h
    unfold wpOp
    simp only [ho]
    unfold wpList at h
    rw [Array.getElem_toList] at h
    split
    · rename_i hw
      rw [if_pos hw] at h
      rcases h with h | h
      · exact .inl (Oper.wp_mono (fun a u h => hnext a u h) h)
      · exact .inr h
    · rename_i hw
      rw [if_neg hw] at h
      exact hnext _ _ h

theorem act_tail {seen : Array Bool} {a : Act} {u : World} (hok : flowOk ops a0.tmps.size = true) (hI : Inv ops φ a0 w0 seen a u) (hn : ∀ j, m ≤ j → seen.getD j false = false) : a = puts (held ops a) 0 (ops.toList.take m) a0 := by
  have hd : a.defers = (puts (held ops a) 0 (ops.toList.take m) a0).defers := by rw [puts_defers]; exact hI.defs
  have conv : ∀ (j : Nat) (o : Oper), (ops.toList.take m)[j]? = some o → j < m ∧ ops[j]? = some o := fun j o h => by
    rw [List.getElem?_take] at h
    split at h
    · rename_i hj; exact ⟨hj, by rw [← Array.getElem?_toList]; exact h⟩
    · cases h
  have ht : a.tmps = (puts (held ops a) 0 (ops.toList.take m) a0).tmps := by
    apply Array.ext_getElem?
    intro t
    by_cases hsz : t < a0.tmps.size
    · have huniq : ∀ (x y : Nat) (ox oy : Oper), (ops.toList.take m)[x]? = some ox → (ops.toList.take m)[y]? = some oy → ox.dst = some t → oy.dst = some t → x = y := fun x y ox oy hx hy h1 h2 => by
        rcases Nat.decEq x y with hne | he
        · exact absurd h1 (((flowOk_at hok (conv x ox hx).2).2.2.2 y oy t (conv y oy hy).2 h2).1 (fun e => hne e.symm))
        · exact he
      obtain ⟨h1, h2⟩ := puts_get (held ops a) (ops.toList.take m) 0 a0 t hsz huniq
      by_cases hex : ∃ (j : Nat) (oj : Oper), (ops.toList.take m)[j]? = some oj ∧ oj.dst = some t
      · obtain ⟨j, oj, hj, hd⟩ := hex
        rw [h2 j oj hj hd, Nat.zero_add]
        simp only [held, (conv j oj hj).2, slot, hd]
        have hts : t < a.tmps.size := by rw [hI.tsz]; exact hsz
        simp [Array.getD, hts]
      · have hex' : ∀ (j : Nat) (o : Oper), (ops.toList.take m)[j]? = some o → o.dst ≠ some t := fun j o hj hd => hex ⟨j, o, hj, hd⟩
        rw [h1 hex']
        refine hI.old t fun j oj hj hs => ?_
        have hjm : j < m := by
          rcases Nat.lt_or_ge j m with h | h
          · exact h
          · rw [hn j h] at hs; cases hs
        exact hex' j oj (by rw [List.getElem?_take, if_pos hjm, Array.getElem?_toList]; exact hj)
    · rw [Array.getElem?_eq_none (by rw [hI.tsz]; omega), Array.getElem?_eq_none (by rw [puts_size]; omega)]
  have ext : ∀ x y : Act, x.tmps = y.tmps → x.defers = y.defers → x = y := by rintro ⟨_, _⟩ ⟨_, _⟩ rfl rfl; rfl
  exact ext _ _ ht hd

theorem flow_tail_any (hok : flowOk ops a0.tmps.size = true) (hsel : Region.noSelect ops = true) (hmn : m ≤ ops.size) (htl : tailOk ops m = true) (hmono : ∀ p ∈ φ, Mono p)
    (hobl : ∀ f, Obls P ops φ w0 f 0 (ops.toList.take m) a0)
    (hfin : ∀ (g : Nat → Value) u, Ext w0 u → (∀ j, j < m → fact φ j (g j) u) → wpList P ops Q (ops.toList.drop m) (puts g 0 (ops.toList.take m) a0) u) :
    ∀ (n : Nat) (seen : Array Bool) (a : Act) (u : World), Inv ops φ a0 w0 seen a u → (∀ j, m ≤ j → seen.getD j false = false) → left ops seen = n → wpAny P .any ops Q n seen a u := by
  have whole : ∀ (n : Nat) (seen : Array Bool) (a : Act) (u : World), Inv ops φ a0 w0 seen a u → (∀ j, m ≤ j → seen.getD j false = false) → left ops seen = n → (∀ j, j < m → seen.getD j false = true) → wpAny P .any ops Q n seen a u := fun n seen a u hI hn hl hall => by
    have hseen : seen = Done ops.size m := by
      apply Array.ext
      · rw [hI.size, done_size]
      · intro i h1 h2
        have e1 : seen[i] = seen.getD i false := by simp [Array.getD, h1]
        have e2 : (Done ops.size m)[i] = (Done ops.size m).getD i false := by simp [Array.getD, h2]
        rw [e1, e2, done_getD false (by rw [← hI.size]; exact h1)]
        rcases Nat.lt_or_ge i m with h | h
        · rw [hall i h]; simp [h]
        · rw [hn i h]; simp; omega
    have hleft : left ops seen = ops.size - m := by
      unfold left
      have : (List.range ops.size).countP (fun i => !seen.getD i false) = (List.range ops.size).countP (fun i => decide (m ≤ i)) := by
        apply List.countP_congr
        intro j hj
        rcases Nat.lt_or_ge j m with h | h
        · rw [hall j h]; simp; omega
        · rw [hn j h]; simp; omega
      rw [this]
      have cnt : ∀ N, (List.range N).countP (fun i => decide (m ≤ i)) = N - m := by
        intro N
        induction N with
        | zero => simp
        | succ N ih =>
          rw [List.range_succ, List.countP_append, ih, List.countP_singleton]
          by_cases h : m ≤ N
          · simp [h]; omega
          · simp [h]; omega
      exact cnt _
    have hA := act_tail hok hI hn
    have hF := hfin (held ops a) u hI.ext fun j hj => by
      have hoj : ops[j]? = some ops[j] := Array.getElem?_eq_getElem (by omega)
      simp only [held, hoj]
      exact hI.facts j _ hoj (hall j hj)
    rw [← hA] at hF
    rw [← hl, hleft, hseen]
    exact seq_tail hok htl _ _ _ _ (by omega) (Nat.le_refl _) hF
  intro n
  induction n with
  | zero =>
    intro seen a u hI hn hl
    refine whole 0 seen a u hI hn hl fun j hj => ?_
    have := List.countP_eq_zero.1 hl j (List.mem_range.2 (by omega))
    simpa using this
  | succ n ih =>
    intro seen a u hI hn hl
    by_cases hall : ∀ j, j < m → seen.getD j false = true
    · exact whole _ seen a u hI hn hl hall
    · have hread : Region.ready .any ops seen = [] → False := fun hr => hall fun j hj => by
        exact all_seen hok hI hr j (by omega)
      refine ⟨fun hr => (hread hr).elim, fun i hi => ?_⟩
      obtain ⟨hun, oi, hio, hed⟩ := mem_ready.1 hi
      have hlt := (Array.getElem?_eq_some_iff.1 hio).1
      rw [getD_both seen (by rw [hI.size]; exact hlt)] at hun
      have hleft := left_next hI.size hlt hun
      have him : i < m := by
        rcases Nat.lt_or_ge i m with h | h
        · exact h
        · exfalso
          refine hall fun j hj => ?_
          exact ready_seen hI hio hed (tail_reach htl hio h j hj)
      refine wpOp_mono (fun b u' hb => ih _ b u' hb ?_ (by omega)) (flow_step hok hsel hmono hobl hI him hi)
      intro j hj
      rw [set_getD, if_neg (fun h => by have := h.1; omega)]; exact hn j hj

/-- A region that draws its order, whose last operations are done one behind the other. -/
theorem flow_tail {id : Nat} {w : World} (hm0 : P.follows .mixedOrders = true) (φ : List (Value → World → Prop)) (m : Nat) (hok : flowOk ops a0.tmps.size = true) (hsel : Region.noSelect ops = true) (hmn : decide (m ≤ ops.size) = true) (htl : tailOk ops m = true) (hmono : ∀ p ∈ φ, Mono p)
    (hobl : ∀ f, Obls P ops φ w.drew f 0 (ops.toList.take m) a0)
    (hfin : ∀ (g : Nat → Value) u, Ext w.drew u → (∀ j, j < m → fact φ j (g j) u) → wpList P ops Q (ops.toList.drop m) (puts g 0 (ops.toList.take m) a0) u) :
    (Code.region id ops true).wp P Q a0 w := by
  refine wp_region_any hm0 (flow_tail_any hok hsel (of_decide_eq_true hmn) htl hmono hobl hfin ops.size _ a0 w.drew inv_start (fun j _ => ?_) left_start)
  rw [Array.getD_eq_getD_getElem?]
  by_cases hj : j < ops.size
  · simp [hj]
  · simp [hj]
end
end Go.Proofs.YtepaaffebhinlaaDoor

/- ikey's Copy; the law's put and del. -/
namespace Go.Proofs.YtepaaffebhinlaaDoor
open Go.ChangeShapes Go.WideShapes Go.ChangeAt Go.RowKit

theorem entry_ret1 {fn : Func} {tmps : Array Value} {w : World} {g : Nat} {p : Tmp} {c : Array Value} {R : Ending → World → Prop} (hr : fn.results = #[.cell p 28]) (h2 : tmps.getD p undef = .pointer (some ⟨g, 0, none⟩))
    (hc : c.size = 4) (hg : w.heap[g]? = some (.cells c 28 (0, 0))) (h : R (.returned (.agg c)) w) : bodyPost Tryd.prog fn R .ret { tmps := tmps, defers := [] } w := by
  have hi : (Tryd.prog.info? 28).map (·.size) = some 4 := by kernel_rfl
  exact ⟨rfl, .agg c, results_cell_row hr _ _ _ _ _ _ _ h2 hg Tryd.underlying28 rfl (by rw [hc]; exact hi), h⟩

theorem Own.far {B : Nat} {l : List Nat} {v x : Value} {u : World} {p : Addr} (h : Own B l v u) (hp : p.block < B) : Own B l v (u.setCell p x) :=
  row_kept h (fun g hg => Below.heap_setCell _ _ _ _ (by have := (row_lt h g hg).1; omega))
/-- What Copy answers. -/
def CopyAns (w : World) (e : Ent) (x : Ending) (w' : World) : Prop :=
  Ext w w' ∧ ∃ g : Hd, x = .returned (e.at_ g) ∧ Own w.heap.size e.key (.slice g.kA e.key.length g.kc) w' ∧ Own w.heap.size e.val (.slice g.vA e.val.length g.vc) w'

set_option maxRecDepth 100000 in
set_option maxHeartbeats 4000000 in
theorem copy_any {w : World} {lo hi : Nat} {e : Ent} {g : Hd} (hm : Em w lo hi e g) (hhi : hi ≤ w.heap.size) (hk : e.key.length ≤ 1099511627776) (hv : e.val.length ≤ 1099511627776) : Calls Tryd.prog 38 #[e.at_ g] w (CopyAns w e) := by
  obtain ⟨w1, hw1⟩ : ∃ w1, w1 = (w.alloc (.cells #[.slice g.kA e.key.length g.kc, .int .i64 e.seq, .int .i64 e.kind, .slice g.vA e.val.length g.vc] 28)).alloc (.cells #[.slice none 0 0, .int .i64 0, .int .i64 0, .slice none 0 0] 28) := ⟨_, rfl⟩
  have HX : Hid (Ext w w1) := by rw [hw1]; exact Ext.trans (ext_alloc _ _) (ext_alloc _ _)
  have HZ1 : Hid (w1.heap.size = w.heap.size + 2) := by rw [hw1]; simp [Hid]
  have HBX : Hid (w1.heap[w.heap.size]? = some (.cells #[.slice g.kA e.key.length g.kc, .int .i64 e.seq, .int .i64 e.kind, .slice g.vA e.val.length g.vc] 28 (0, 0))) := by rw [hw1]; exact ext_heap (ext_alloc _ _) (heap_at _ _ rfl)
  have HRX : Hid (w1.heap[w.heap.size + 1]? = some (.cells #[.slice none 0 0, .int .i64 0, .int .i64 0, .slice none 0 0] 28 (0, 0))) := by rw [hw1]; exact heap_at _ _ (by simp)
  have HM := Lib.hid hm
  have HHI := Lib.hid hhi
  have HK := Lib.hid hk
  have HV := Lib.hid hv
  clear hm hhi hk hv
  have c0 := cell_of HBX.out (k := 0) rfl
  have c3 := cell_of HBX.out (k := 3) rfl
  unfold Ent.at_
  go_enter Tryd.func38, Tryd.ntmps38
  go_upto_region 1 with (fail)
  rw [← hw1]
  clear hw1
  refine flow_tail (by kernel_rfl) [Is (.pointer (some ⟨w.heap.size, 0, none⟩)), Is (.slice g.kA e.key.length g.kc), Own w1.heap.size e.key, Is (.pointer (some ⟨w.heap.size, 3, none⟩)), Is (.slice g.vA e.val.length g.vc), Own w1.heap.size e.val, Is (.pointer (some ⟨w.heap.size, 0, none⟩))] 7 (by kernel_rfl) (by kernel_rfl) (by kernel_rfl) (by kernel_rfl) ?mono (fun f => ?obl) ?fin
  case mono =>
    simp only [List.forall_mem_cons, List.not_mem_nil, false_imp_iff, implies_true, and_true]
    exact ⟨.is _, .is _, .own _ _, .is _, .is _, .own _ _, .is _⟩
  case fin =>
    intro g1 u hu hg
    simp only [List.take_succ_cons, List.take_zero, List.drop_succ_cons, List.drop_zero, puts, Act.put, List.setIfInBounds_toArray, List.set_cons_zero, List.set_cons_succ]
    have h2 : Own w1.heap.size e.key (g1 2) u := hg 2 (by decide)
    have h5 : Own w1.heap.size e.val (g1 5) u := hg 5 (by decide)
    have h6 : g1 6 = .pointer (some ⟨w.heap.size, 0, none⟩) := hg 6 (by decide)
    obtain ⟨v2, e2⟩ : ∃ v, v = g1 2 := ⟨_, rfl⟩
    obtain ⟨v5, e5⟩ : ∃ v, v = g1 5 := ⟨_, rfl⟩
    rw [h6]
    rw [← e2] at h2 ⊢
    rw [← e5] at h5 ⊢
    have H2 := Lib.hid h2
    have H5 := Lib.hid h5
    obtain ⟨A2, c2, rfl⟩ := h2.slice
    obtain ⟨A5, c5, rfl⟩ := h5.slice
    have HU : Hid (Ext w1 u) := Ext.trans (Ext.drew w1) hu
    have hb1 := ext_heap HU.out HBX.out
    have hb2 := ext_heap HU.out HRX.out
    have q0 := cell_of hb1 (k := 0) rfl
    have q1 := cell_of hb1 (k := 1) rfl
    have q2 := cell_of hb1 (k := 2) rfl
    have q3 := cell_of hb1 (k := 3) rfl
    have z0 := frozen_four hb1 (j := 0)
    have z3 := frozen_four hb1 (j := 3)
    have r0 := cell_of hb2 (k := 0) rfl
    have r1 := cell_of hb2 (k := 1) rfl
    have r2 := cell_of hb2 (k := 2) rfl
    have r3 := cell_of hb2 (k := 3) rfl
    have y0 := frozen_four hb2 (j := 0)
    have y1 := frozen_four hb2 (j := 1)
    have y2 := frozen_four hb2 (j := 2)
    have y3 := frozen_four hb2 (j := 3)
    have HB2 := Lib.hid hb2
    clear h2 h5 h6 e2 e5 hb1 hb2 hg hu c0 c3
    go_wp2_with fail
    have n1 : w.heap.size < w1.heap.size := by have := HZ1.out; omega
    have n2 : w.heap.size + 1 < w1.heap.size := by have := HZ1.out; omega
    have n3 : w.heap.size ≤ w1.heap.size := Nat.le_of_lt n1
    have HUW := Ext.trans HX.out HU.out
    refine entry_ret1 (p := 2) (by kernel_rfl) rfl rfl (set_four (a := .slice none 0 0) (b := .int .i64 0) (c := .int .i64 0) (d := .slice none 0 0) ?_) ?_
    · rw [Below.heap_setCell _ _ _ _ (by simp), Below.heap_setCell _ _ _ _ (by simp)]; exact HB2.out
    · refine ⟨Below.setCell (Below.setCell (Below.setCell (Below.setCell (Below.setCell (Below.setCell HUW (Nat.le_refl _) _) (Nat.le_refl _) _) (Nat.le_succ _) _) (Nat.le_succ _) _) (Nat.le_succ _) _) (Nat.le_succ _) _, ⟨A2, c2, A5, c5⟩, rfl, ?_, ?_⟩
      · exact ((((((H2.out.far n1).far n1).far n2).far n2).far n2).far n2).base n3
      · exact ((((((H5.out.far n1).far n1).far n2).far n2).far n2).far n2).base n3
  case obl =>
    refine ⟨fun u hu hd => ?_, ?_⟩
    · go_simp
      exact ⟨Ext.refl _, rfl⟩
    refine ⟨fun u hu hd => ?_, ?_⟩
    · simp only [Act.put, List.setIfInBounds_toArray, List.set_cons_zero, List.set_cons_succ]
      have e0 : f 0 = (.pointer (some ⟨w.heap.size, 0, none⟩)) := hd 0 (by kernel_rfl)
      have q := ext_cell hu c0
      go_simp
      exact ⟨Ext.refl _, rfl⟩
    refine ⟨fun u hu hd => ?_, ?_⟩
    · simp only [Act.put, List.setIfInBounds_toArray, List.set_cons_zero, List.set_cons_succ]
      have e1 : f 1 = (.slice g.kA e.key.length g.kc) := hd 1 (by kernel_rfl)
      go_simp
      refine (clone_any _ lo hi e.key u (HM.out.k.below (Ext.trans HX.out (Ext.trans (Ext.drew w1) hu)) HHI.out) (Nat.le_trans HHI.out (Ext.trans HX.out (Ext.trans (Ext.drew w1) hu)).size) HK.out).mono ?_
      rintro x w9 ⟨v, rfl, hown, hb9⟩
      exact ⟨v, rfl, hb9, ownsRow_base hown (Ext.trans (Ext.drew w1) hu).size⟩
    refine ⟨fun u hu hd => ?_, ?_⟩
    · simp only [Act.put, List.setIfInBounds_toArray, List.set_cons_zero, List.set_cons_succ]
      go_simp
      exact ⟨Ext.refl _, rfl⟩
    refine ⟨fun u hu hd => ?_, ?_⟩
    · simp only [Act.put, List.setIfInBounds_toArray, List.set_cons_zero, List.set_cons_succ]
      have e3 : f 3 = (.pointer (some ⟨w.heap.size, 3, none⟩)) := hd 3 (by kernel_rfl)
      have q := ext_cell hu c3
      go_simp
      exact ⟨Ext.refl _, rfl⟩
    refine ⟨fun u hu hd => ?_, ?_⟩
    · simp only [Act.put, List.setIfInBounds_toArray, List.set_cons_zero, List.set_cons_succ]
      have e4 : f 4 = (.slice g.vA e.val.length g.vc) := hd 4 (by kernel_rfl)
      go_simp
      refine (clone_any _ lo hi e.val u (HM.out.v.below (Ext.trans HX.out (Ext.trans (Ext.drew w1) hu)) HHI.out) (Nat.le_trans HHI.out (Ext.trans HX.out (Ext.trans (Ext.drew w1) hu)).size) HV.out).mono ?_
      rintro x w9 ⟨v, rfl, hown, hb9⟩
      exact ⟨v, rfl, hb9, ownsRow_base hown (Ext.trans (Ext.drew w1) hu).size⟩
    refine ⟨fun u hu hd => ?_, ?_⟩
    · simp only [Act.put, List.setIfInBounds_toArray, List.set_cons_zero, List.set_cons_succ]
      go_simp
      exact ⟨Ext.refl _, rfl⟩
    trivial
end Go.Proofs.YtepaaffebhinlaaDoor

/- The law's entries: put and del, of texts. -/
namespace Go.Proofs.YtepaaffebhinlaaDoor
open Go.ChangeShapes Go.WideShapes Go.ChangeAt Go.RowKit

/-- '[]byte(s)'. -/
theorem conv_new (w : World) (l : List Nat) (hl : ∀ x ∈ l, x < 256) (hlen : l.length ≤ 1000) : ∃ A c w', (convert 9 25 (.string (tx l))).run Tryd.prog w = .ok (.slice A l.length c) w' ∧ Ext w w' ∧ Bs w' w.heap.size w'.heap.size (.slice A l.length c) l := by
  have hs : (tx l).size = l.length := by unfold tx; rw [strOfNums_size, List.length_map]
  have hb : ∀ (b : Nat), b < w.heap.size → (Lib.bytesWorld w 5 (tx l)).heap[b]? = w.heap[b]? := fun b hb => Lib.bytesWorld_at_old _ _ _ _ hb
  refine ⟨_, _, _, by rw [← hs]; exact Lib.run_convert_string_bytes w _ _ _ (tx l) Tryd.underlying9 Tryd.underlying25 Tryd.underlying5, ⟨?_, ?_, ?_, ?_, fun b h => hb b h⟩, ?_⟩
  · simp [Lib.bytesWorld, World.freeze, World.alloc, World.drew, -World.alloc_eq, -World.drew_eq]
  · simp [Lib.bytesWorld, World.freeze, World.alloc, World.drew, -World.alloc_eq, -World.drew_eq]
  · simp [Lib.bytesWorld, World.freeze, World.alloc, World.drew, -World.alloc_eq, -World.drew_eq]
  · rw [Lib.bytesWorld_size]; omega
  · refine ⟨_, _, rfl, by rw [← hs]; exact grownCap_ge _ _ _ _, by exact grownCap_le_maxLen _ _ _ _ (by rw [hs]; unfold maxLen; omega), (fun h => by cases h), .inr ⟨w.heap.size, 0, rfl, Nat.le_refl _, by rw [Lib.bytesWorld_size]; omega, fun i u hu => ?_⟩⟩
    have hi : i < l.length := by
      rcases Nat.lt_or_ge i l.length with h | h
      · exact h
      · rw [List.getElem?_eq_none (by rw [bv_length]; exact h)] at hu; cases hu
    rw [Nat.zero_add, Lib.bytesWorld_cell _ _ _ _ (by rw [hs]; exact hi), ← hu]
    have hx := hl l[i] (List.getElem_mem hi)
    unfold tx bv
    rw [strOfNums_data]
    simp [List.getD, List.getElem?_eq_getElem hi, Nat.mod_eq_of_lt hx]

/-- What put and del answer. -/
def LitAns (w : World) (e : Ent) (x : Ending) (w' : World) : Prop := Ext w w' ∧ ∃ g : Hd, x = .returned (e.at_ g) ∧ Em w' w.heap.size w'.heap.size e g

end Go.Proofs.YtepaaffebhinlaaDoor

/- Rows of entries in memory. -/
namespace Go.Proofs.YtepaaffebhinlaaDoor
open Go.ChangeShapes Go.WideShapes Go.ChangeAt Go.RowKit

/-- An entry's cells. -/
def ecells (p : Ent × Hd) : List Value := [.slice p.2.kA p.1.key.length p.2.kc, .int .i64 p.1.seq, .int .i64 p.1.kind, .slice p.2.vA p.1.val.length p.2.vc]
theorem ecells_length (p : Ent × Hd) : (ecells p).length = 4 := rfl
def erow (L : List (Ent × Hd)) : List Value := L.flatMap ecells
theorem erow_length (L : List (Ent × Hd)) : (erow L).length = L.length * 4 := by
  unfold erow
  induction L with
  | nil => rfl
  | cons a l ih => rw [List.flatMap_cons, List.length_append, ih, ecells_length, List.length_cons]; omega
theorem erow_append (L R : List (Ent × Hd)) : erow (L ++ R) = erow L ++ erow R := by simp [erow]
theorem erow_at (L : List (Ent × Hd)) {k j : Nat} (hk : k < L.length) (hj : j < 4) : (erow L)[k * 4 + j]? = (ecells L[k])[j]? := by
  unfold erow
  induction L generalizing k with
  | nil => simp at hk
  | cons a l ih =>
    rw [List.flatMap_cons]
    cases k with
    | zero => rw [List.getElem?_append_left (by rw [ecells_length]; omega)]; simp
    | succ k =>
      rw [List.getElem?_append_right (by rw [ecells_length]; omega), ecells_length, show (k + 1) * 4 + j - 4 = k * 4 + j by omega]
      simpa using ih (k := k) (by simpa using hk)
theorem erow_one (L : List (Ent × Hd)) : ∀ u ∈ erow L, u.oneCell' = true := by
  intro u hu
  unfold erow at hu
  obtain ⟨p, _, h⟩ := List.mem_flatMap.1 hu
  simp only [ecells, List.mem_cons, List.not_mem_nil, or_false] at h
  rcases h with rfl | rfl | rfl | rfl <;> rfl
/-- Entries in a row. -/
structure Es (w : World) (lo hi : Nat) (A : Option Addr) (L : List (Ent × Hd)) : Prop where
  outer : Sl w lo hi A (erow L)
  each : ∀ p ∈ L, Em w lo hi p.1 p.2
theorem Es.below {w w' : World} {lo hi B : Nat} {A : Option Addr} {L : List (Ent × Hd)} (h : Es w lo hi A L) (hb : Below B w w') (hB : hi ≤ B) : Es w' lo hi A L := ⟨h.outer.below hb hB, fun p hp => (h.each p hp).below hb hB⟩
theorem Es.wide {w : World} {lo hi lo' hi' : Nat} {A : Option Addr} {L : List (Ent × Hd)} (h : Es w lo hi A L) (h1 : lo' ≤ lo) (h2 : hi ≤ hi') : Es w lo' hi' A L := ⟨h.outer.wide h1 h2, fun p hp => (h.each p hp).wide h1 h2⟩
/-- Where the row begins, and the k-th entry's cells. -/
theorem Es.at_ {w : World} {lo hi : Nat} {A : Option Addr} {L : List (Ent × Hd)} (h : Es w lo hi A L) {k : Nat} (hk : k < L.length) :
    ∃ b o, A = some ⟨b, o, none⟩ ∧ b < hi ∧ w.cell? ⟨b, o + k * 4, none⟩ = some (.slice L[k].2.kA L[k].1.key.length L[k].2.kc) ∧ w.cell? ⟨b, o + k * 4 + 1, none⟩ = some (.int .i64 L[k].1.seq) ∧
      w.cell? ⟨b, o + k * 4 + 2, none⟩ = some (.int .i64 L[k].1.kind) ∧ w.cell? ⟨b, o + k * 4 + 3, none⟩ = some (.slice L[k].2.vA L[k].1.val.length L[k].2.vc) := by
  obtain ⟨b, o, rfl, _, hb, _⟩ := Sl.at_ h.outer (i := k * 4) (by rw [erow_length]; omega)
  have hc : ∀ j u, (erow L)[j]? = some u → w.cell? ⟨b, o + j, none⟩ = some u := by
    rcases h.outer with h0 | ⟨b', o', he, _, _, hc⟩
    · have := congrArg List.length h0
      rw [erow_length] at this
      simp at this; omega
    · injection he with he
      injection he with e1 e2
      subst e1 e2
      exact hc
  have hj := fun (j : Nat) (hj : j < 4) (u : Value) (hu : (ecells L[k])[j]? = some u) => hc (k * 4 + j) u ((erow_at L hk hj).trans hu)
  refine ⟨b, o, rfl, hb, hj 0 (by decide) _ rfl, ?_, ?_, ?_⟩
  · rw [Nat.add_assoc]; exact hj 1 (by decide) _ rfl
  · rw [Nat.add_assoc]; exact hj 2 (by decide) _ rfl
  · rw [Nat.add_assoc]; exact hj 3 (by decide) _ rfl

theorem Es.base {w : World} {lo hi : Nat} {A : Option Addr} {L : List (Ent × Hd)} (h : Es w lo hi A L) (h0 : 0 < L.length) : ∃ b o, A = some ⟨b, o, none⟩ := by
  obtain ⟨b, o, e, _⟩ := h.at_ h0
  exact ⟨b, o, e⟩
theorem Es.get {w : World} {lo hi b o : Nat} {L : List (Ent × Hd)} (h : Es w lo hi (some ⟨b, o, none⟩) L) {k : Nat} {p : Ent × Hd} (hk : L[k]? = some p) :
    w.cell? ⟨b, o + k * 4, none⟩ = some (.slice p.2.kA p.1.key.length p.2.kc) ∧ w.cell? ⟨b, o + k * 4 + 1, none⟩ = some (.int .i64 p.1.seq) ∧
      w.cell? ⟨b, o + k * 4 + 2, none⟩ = some (.int .i64 p.1.kind) ∧ w.cell? ⟨b, o + k * 4 + 3, none⟩ = some (.slice p.2.vA p.1.val.length p.2.vc) := by
  obtain ⟨hlt, rfl⟩ := List.getElem?_eq_some_iff.1 hk
  obtain ⟨_, _, he, _, c0, c1, c2, c3⟩ := h.at_ hlt
  injection he with he; injection he with e1 e2; subst e1 e2
  exact ⟨c0, c1, c2, c3⟩

/-- So many entries rise. -/
structure RiseAt (L : List Ent) (n : Nat) : Prop where
  le : n ≤ L.length
  rise : ∀ j a b, j + 1 < n → L[j]? = some a → L[j + 1]? = some b → cmpE a b < 0
  stop : n < L.length → ∃ j a b, n = j + 1 ∧ L[j]? = some a ∧ L[j + 1]? = some b ∧ ¬ cmpE a b < 0
end Go.Proofs.YtepaaffebhinlaaDoor
