/- IkeyBack: what is written is read back, and what is read is written so. -/
import Derived.Test.YtfalpagimmaipaaItakes
import Derived.Test.YtfalpagimmaipaaIknown
import Derived.Deep.DeepCutAuto
namespace Go.Proofs.Ytfalpagimmaipaa.ikeyBack
open Go.ChangeShapes Go.WideShapes Go.ChangeAt Go.RowKit

/-- The entries of some bytes, and the error's number. -/
def Dec (b : List Nat) (es : List Ent) (k : Int) : Prop := (IsL b es ∧ k = 0) ∨ ((∀ es, ¬ IsL b es) ∧ es = [] ∧ k = 4)
theorem Dec.same {b : List Nat} {es es' : List Ent} {k k' : Int} (h : Dec b es k) (h' : Dec b es' k') : es' = es ∧ k' = k := by
  rcases h with ⟨h1, rfl⟩ | ⟨h1, rfl, rfl⟩
  · rcases h' with ⟨h2, rfl⟩ | ⟨h2, _, _⟩
    · exact ⟨h2.unique h1, rfl⟩
    · exact absurd h1 (h2 _)
  · rcases h' with ⟨h2, _⟩ | ⟨h2, rfl, rfl⟩
    · exact absurd h2 (h1 _)
    · exact ⟨rfl, rfl⟩
theorem Dec.len {b : List Nat} {es : List Ent} {k : Int} (h : Dec b es k) : es.length ≤ 65536 := by
  rcases h with ⟨h, _⟩ | ⟨_, rfl, _⟩
  · exact h.1
  · simp
theorem Got.es {B : Nat} {A : Option Addr} {c : Nat} {R : List (Ent × Hd)} {w : World} (h : Got B (.slice A R.length c) R w) : Es w 0 w.heap.size A R := by
  refine ⟨?_, fun p hp => (h.each p hp).em⟩
  rcases h.row.2 with ⟨h1, h2⟩ | ⟨g, cap, cur, hv, hg, hh, r⟩
  · injection h1 with e1 e2 _
    have : R = [] := List.eq_nil_of_length_eq_zero e2
    subst this; exact Sl.nil _ _ _ _
  · injection hv with e1 _ _
    subst e1
    refine .inr ⟨g, 0, rfl, Nat.zero_le _, (Array.getElem?_eq_some_iff.1 hh).1, fun i u hu => ?_⟩
    have := h.row.cells (g := g) rfl i u hu
    rwa [addr_add] at this
theorem lists_dec {w : World} {b : List Nat} {x : Ending} {w' : World} (h : ListsAns w b x w') : Ext w w' ∧ ∃ (R : List (Ent × Hd)) (A : Option Addr) (c : Nat) (k : Int), Dec b (R.map Prod.fst) k ∧ x = .returned (.tuple #[.slice A R.length c, .int .i64 k]) ∧ Es w' 0 w'.heap.size A R := by
  obtain ⟨hx, (⟨R, v, h1, rfl, h3⟩ | ⟨h1, rfl⟩)⟩ := h
  · obtain ⟨A, c, rfl⟩ := h3.slice
    exact ⟨hx, R, A, c, 0, .inl ⟨h1, rfl⟩, rfl, Got.es h3⟩
  · exact ⟨hx, [], none, 0, 4, .inr ⟨h1, rfl, rfl⟩, rfl, ⟨Sl.nil _ _ _ _, fun p hp => by cases hp⟩⟩
theorem rlists_dec {w : World} {b : List Nat} {x : Ending} {w' : World} (h : RListsAns w b x w') : Ext w w' ∧ ∃ (R : List (Ent × Hd)) (A : Option Addr) (c : Nat) (k : Int), Dec b (R.map Prod.fst) k ∧ x = .returned (.tuple #[.slice A R.length c, .int .i64 k]) ∧ Es w' 0 w'.heap.size A R := by
  obtain ⟨hx, (⟨R, A, c, h1, rfl, h3⟩ | ⟨h1, rfl⟩)⟩ := h
  · exact ⟨hx, R, A, c, 0, .inl ⟨h1, rfl⟩, rfl, h3⟩
  · exact ⟨hx, [], none, 0, 4, .inr ⟨h1, rfl, rfl⟩, rfl, ⟨Sl.nil _ _ _ _, fun p hp => by cases hp⟩⟩
/-- May the list be? -/
def MayL (es : List Ent) : Prop := es.length ≤ 65536 ∧ ∀ e ∈ es, e.may = true
theorem list_one {w : World} {es : List Ent} {x : Ending} {w' : World} (h : ListAns w es x w') : Ext w w' ∧ ∃ (A : Option Addr) (n c : Nat) (k : Int), x = .returned (.tuple #[.slice A n c, .int .i64 k]) ∧
    ((MayL es ∧ k = 0 ∧ n = (lform es).length ∧ Own w.heap.size (lform es) (.slice A n c) w') ∨ (¬ MayL es ∧ A = none ∧ n = 0 ∧ c = 0 ∧ k = 2)) := by
  obtain ⟨hx, (⟨h1, h2, v, rfl, h3⟩ | ⟨h1, rfl⟩)⟩ := h
  · obtain ⟨A, c, rfl⟩ := h3.slice
    exact ⟨hx, A, _, c, 0, rfl, .inl ⟨⟨h1, h2⟩, rfl, rfl, h3⟩⟩
  · exact ⟨hx, none, 0, 0, 2, rfl, .inr ⟨h1, rfl, rfl, rfl, rfl⟩⟩

/-- What the reader gives: an entry and the error's number. -/
def Gets (b : List Nat) (e : Ent) (k : Int) : Prop := (IsE b e ∧ k = 0) ∨ ((∀ e, ¬ IsE b e) ∧ e = ⟨[], 0, 0, []⟩ ∧ k = 4)
theorem Gets.is {b : List Nat} {e e' : Ent} {k : Int} (h : IsE b e) (h' : Gets b e' k) : e' = e ∧ k = 0 := by
  rcases h' with ⟨h2, rfl⟩ | ⟨h2, _, _⟩
  · exact ⟨h2.unique h, rfl⟩
  · exact absurd h (h2 _)
theorem read_gets {w : World} {b : List Nat} {x : Ending} {w' : World} (hb : ∀ x ∈ b, x < 256) (h : ReadAns w b x w') : Ext w w' ∧ ∃ (e : Ent) (g : Hd) (k : Int), Gets b e k ∧ x = .returned (.tuple #[e.at_ g, .int .i64 k]) ∧ Em w' 0 w'.heap.size e g := by
  obtain ⟨hx, (⟨e, g, hi, rfl, h1, h2⟩ | ⟨hn, rfl⟩)⟩ := h
  · obtain ⟨a1, a2⟩ := ent_bytes hi hb
    obtain ⟨_, _, b1, b2, b3⟩ := mayN_iff.1 hi.1
    exact ⟨hx, e, g, 0, .inl ⟨hi, rfl⟩, rfl, h1.bs, h2.bs, a1, a2, by omega, by omega, by omega, by omega⟩
  · exact ⟨hx, ⟨[], 0, 0, []⟩, ⟨none, 0, none, 0⟩, 4, .inr ⟨hn, rfl, rfl⟩, rfl, Bs.nil _ _ _, Bs.nil _ _ _, by simp, by simp, by decide, by decide, by decide, by decide⟩
theorem lform_lt {es : List Ent} (h : ∀ e ∈ es, (∀ x ∈ e.key, x < 256) ∧ (∀ x ∈ e.val, x < 256)) : ∀ x ∈ lform es, x < 256 := by
  intro x hx
  unfold lform lf at hx
  rcases List.mem_append.1 hx with hx | hx
  · exact form_bytes _ x hx
  · obtain ⟨l, hl, hx⟩ := List.mem_flatten.1 hx
    obtain ⟨e, he, rfl⟩ := List.mem_map.1 hl
    unfold bytesForm at hx
    rcases List.mem_append.1 hx with hx | hx
    · exact form_bytes _ x hx
    · exact Ent.form_lt (h e he).1 (h e he).2 x hx

set_option maxRecDepth 100000 in
set_option maxHeartbeats 40000000 in
theorem walk (W : World) (A : Option Addr) (c : Nat) (L : List (Ent × Hd)) (_hlc : L.length ≤ c) (_hc : c ≤ maxLen) (hE : Es W 0 W.heap.size A L) (hln : ∀ p ∈ L, p.1.key.length ≤ 140737488351232 ∧ p.1.val.length ≤ 140737488351232) (hn : L.length ≤ 2199023255552)
    (v : Value) (b : List Nat) (hv : Bs W 0 W.heap.size v b) (hb : ∀ x ∈ b, x < 256) :
    Calls Try.prog 11 #[.slice A L.length c, v] W fun e w' => e = .returned (.bool true) ∧ Below W.heap.size W w' := by
  have HV := Lib.hid hv
  have HE := Lib.hid hE
  have HBY := Lib.hid hb
  have HLN := Lib.hid (And.intro hln hn)
  obtain ⟨B, d, rfl, _, q2, _, _⟩ := hv
  have hb63 : b.length ≤ 9223372036854775807 := by unfold maxLen at q2; omega
  have HES : Hid (∀ u, Ext W u → Es u 0 W.heap.size A L ∧ W.heap.size ≤ u.heap.size) := fun u hu => ⟨HE.out.below hu (Nat.le_refl _), hu.size⟩
  clear hE hln hn hb q2 _hlc _hc
  go_enter Try.func11, Try.ntmps11
  go_wp2_with fail
  refine (known_any W).mono ?_
  rintro x w1 ⟨rfl, hx1⟩
  have HX1 : Hid (Ext W w1) := hx1
  have HMU := Lib.hid (much_any (c := c) (HES.out w1 HX1.out).1 (HES.out w1 HX1.out).2 (by have := HLN.out.2; omega) HLN.out.1)
  clear hx1
  go_wp2_with fail
  refine HMU.out.mono ?_
  rintro x w2 ⟨z, hz, rfl, hx2⟩
  have HZ := Lib.hid hz
  have HX2 : Hid (Ext W w2) := Ext.trans HX1.out hx2
  clear hz hx2 HMU
  rcases z with _ | _
  rotate_left
  · have HXT := HX2
    by_cases hbig : 100000 < b.length
    · have hd : decide ((100000 : Int) < (b.length : Int)) = true := decide_eq_true (by omega)
      have hd2 : decide (100000 < b.length) = true := decide_eq_true hbig
      clear hbig hb63
      go_wp2_with fail
      go_ret
      exact ⟨rfl, HXT.out⟩
    have hd : decide ((100000 : Int) < (b.length : Int)) = false := decide_eq_false (by omega)
    have hd2 : decide (100000 < b.length) = false := decide_eq_false hbig
    have HBL : Hid (b.length ≤ 100000) := by unfold Hid; omega
    clear hbig
    have HRA := Lib.hid (read_any (HV.out.below HXT.out (Nat.le_refl _)) HXT.out.size HBY.out (by have := HBL.out; omega))
    go_wp2_with fail
    refine HRA.out.mono ?_
    intro x t1 hans
    obtain ⟨hx1, e, g, k, hgets, rfl, hem⟩ := read_gets HBY.out hans
    have HT1 : Hid (Ext W t1) := Ext.trans HXT.out hx1
    have HGE := Lib.hid hgets
    have HEM := Lib.hid hem
    clear hans hx1 hgets hem HRA
    unfold Ent.at_
    go_upto_region 18 with (fail)
    obtain ⟨t2, ht2⟩ : ∃ t2, t2 = t1.alloc (.cells #[.slice g.kA e.key.length g.kc, .int .i64 e.seq, .int .i64 e.kind, .slice g.vA e.val.length g.vc] 25) := ⟨_, rfl⟩
    rw [← ht2]
    have HX12 : Hid (Ext t1 t2) := by rw [ht2]; exact ext_alloc _ _
    have HB2 : Hid (t2.heap[t1.heap.size]? = some (.cells #[.slice g.kA e.key.length g.kc, .int .i64 e.seq, .int .i64 e.kind, .slice g.vA e.val.length g.vc] 25 (0, 0))) := by rw [ht2]; exact heap_at _ _ rfl
    have HBYT := Lib.hid (ebytes_any (HEM.out.below HX12.out (Nat.le_refl _)) HX12.out.size)
    unfold Ent.at_ at HBYT
    have e0 := cell_of HB2.out (k := 0) rfl
    have e1 := cell_of HB2.out (k := 1) rfl
    have e2 := cell_of HB2.out (k := 2) rfl
    have e3 := cell_of HB2.out (k := 3) rfl
    clear ht2
    go_wp2_with fail
    refine HBYT.out.mono ?_
    rintro x t3 ⟨hx3, hres⟩
    have HT3 : Hid (Ext W t3) := Ext.trans HT1.out (Ext.trans HX12.out hx3)
    clear hx3 e0 e1 e2 e3 HBYT
    rcases HGE.out with ⟨hi, hk⟩ | ⟨_, he, hk⟩
    · rcases hres with ⟨_, A8, c8, rfl, hown⟩ | ⟨hm, _⟩
      rotate_left
      · have h2 := hi.1; rw [h2] at hm; cases hm
      subst hk
      rw [hi.2] at hown ⊢
      have cv1 := cv_any hown.bs
      have cv2 := cv_any (HV.out.below HT3.out (Nat.le_refl _))
      have htt : ((tx b).toList == (tx b).toList) = true := by simp
      have htn : ((tx b).toList != (tx b).toList) = false := by simp
      clear hi hown
      go_wp2_with fail
      refine (errnum 0 _).mono ?_
      rintro x _ ⟨rfl, rfl⟩
      go_wp2_with fail
      refine (errnum 0 _).mono ?_
      rintro x _ ⟨rfl, rfl⟩
      go_upto_region 21 with (fail)
      clear cv1 cv2 htt htn
      go_wp2_with fail
      refine (elists_any (HV.out.below HT3.out (Nat.le_refl _)) HT3.out.size HBY.out (by have := HBL.out; omega)).mono ?_
      intro x t4 hans
      obtain ⟨hx4, R', A7', c7', k7', hdec, rfl, hes⟩ := lists_dec hans
      have HT4 : Hid (Ext W t4) := Ext.trans HT3.out hx4
      have HD := Lib.hid hdec
      have HLS' := Lib.hid (elist_any (c := c7') hes (Nat.le_refl _) (by have := hdec.len; rw [List.length_map] at this; omega))
      clear hans hx4 hdec hes
      go_wp2_with fail
      refine HLS'.out.mono ?_
      intro x t5 hans
      obtain ⟨hx5, A9, n9, c9, k9, rfl, hres9⟩ := list_one hans
      have HT5 : Hid (Ext W t5) := Ext.trans HT4.out hx5
      have HRES := Lib.hid hres9
      clear hans hx5 hres9 HLS'
      rcases HD.out with ⟨hl, hk7⟩ | ⟨_, _, hk7⟩
      · subst hk7
        obtain ⟨rfl, rfl, hown9⟩ : k9 = 0 ∧ n9 = (lform (R'.map Prod.fst)).length ∧ Own t4.heap.size (lform (R'.map Prod.fst)) (.slice A9 n9 c9) t5 := by
          rcases HRES.out with ⟨_, h⟩ | ⟨h, _⟩
          · exact h
          · exact absurd ⟨hl.1, hl.2.1⟩ h
        rw [hl.2.2] at hown9 ⊢
        have cv1 := cv_any hown9.bs
        have cv2 := cv_any (HV.out.below HT5.out (Nat.le_refl _))
        have htt : ((tx b).toList == (tx b).toList) = true := by simp
        clear hl hown9 HRES
        go_wp2_with fail
        refine (errnum 0 _).mono ?_
        rintro x _ ⟨rfl, rfl⟩
        go_wp2_with fail
        refine (errnum 0 _).mono ?_
        rintro x _ ⟨rfl, rfl⟩
        go_wp2_with fail
        go_ret
        exact ⟨rfl, HT5.out⟩
      · subst hk7
        go_wp2_with fail
        refine (errnum 4 _).mono ?_
        rintro x _ ⟨rfl, rfl⟩
        go_wp2_with fail
        go_ret
        exact ⟨rfl, HT5.out⟩
    · subst he hk
      rcases hres with ⟨hm, _⟩ | ⟨_, rfl⟩
      · exact absurd hm (by decide)
      go_wp2_with fail
      refine (errnum 4 _).mono ?_
      rintro x _ ⟨rfl, rfl⟩
      go_wp2_with fail
      refine (elists_any (HV.out.below HT3.out (Nat.le_refl _)) HT3.out.size HBY.out (by have := HBL.out; omega)).mono ?_
      intro x t4 hans
      obtain ⟨hx4, R', A7', c7', k7', hdec, rfl, hes⟩ := lists_dec hans
      have HT4 : Hid (Ext W t4) := Ext.trans HT3.out hx4
      have HD := Lib.hid hdec
      have HLS' := Lib.hid (elist_any (c := c7') hes (Nat.le_refl _) (by have := hdec.len; rw [List.length_map] at this; omega))
      clear hans hx4 hdec hes
      go_wp2_with fail
      refine HLS'.out.mono ?_
      intro x t5 hans
      obtain ⟨hx5, A9, n9, c9, k9, rfl, hres9⟩ := list_one hans
      have HT5 : Hid (Ext W t5) := Ext.trans HT4.out hx5
      have HRES := Lib.hid hres9
      clear hans hx5 hres9 HLS'
      rcases HD.out with ⟨hl, hk7⟩ | ⟨_, _, hk7⟩
      · subst hk7
        obtain ⟨rfl, rfl, hown9⟩ : k9 = 0 ∧ n9 = (lform (R'.map Prod.fst)).length ∧ Own t4.heap.size (lform (R'.map Prod.fst)) (.slice A9 n9 c9) t5 := by
          rcases HRES.out with ⟨_, h⟩ | ⟨h, _⟩
          · exact h
          · exact absurd ⟨hl.1, hl.2.1⟩ h
        rw [hl.2.2] at hown9 ⊢
        have cv1 := cv_any hown9.bs
        have cv2 := cv_any (HV.out.below HT5.out (Nat.le_refl _))
        have htt : ((tx b).toList == (tx b).toList) = true := by simp
        clear hl hown9 HRES
        go_wp2_with fail
        refine (errnum 0 _).mono ?_
        rintro x _ ⟨rfl, rfl⟩
        go_wp2_with fail
        refine (errnum 0 _).mono ?_
        rintro x _ ⟨rfl, rfl⟩
        go_wp2_with fail
        go_ret
        exact ⟨rfl, HT5.out⟩
      · subst hk7
        go_wp2_with fail
        refine (errnum 4 _).mono ?_
        rintro x _ ⟨rfl, rfl⟩
        go_wp2_with fail
        go_ret
        exact ⟨rfl, HT5.out⟩
  have hLL : L.length ≤ 100000 := (HZ.out rfl).1
  have HLL := Lib.hid hLL
  have HLI := Lib.hid (elist_any (c := c) (HES.out w2 HX2.out).1 (HES.out w2 HX2.out).2 (by omega))
  go_wp2_with fail
  refine HLI.out.mono ?_
  intro x w3 hans
  obtain ⟨hx3, A5, n5, c5, k5, rfl, hres⟩ := list_one hans
  have HX3 : Hid (Ext W w3) := Ext.trans HX2.out hx3
  clear hans hx3 HLI
  rcases hres with ⟨hmay, rfl, rfl, hown⟩ | ⟨hmay, rfl, rfl, rfl, rfl⟩
  · have HLS := Lib.hid (elists_any hown.bs (Nat.le_refl _) (lform_lt fun e he => by
      obtain ⟨p, hp, rfl⟩ := List.mem_map.1 he
      exact ⟨(HE.out.each p hp).bk, (HE.out.each p hp).bv⟩) (by
      have h1 := lpre_len hmay.2 (by have := hmay.1; omega) _ (Nat.le_refl _)
      rw [lpre_all] at h1; have := hmay.1; omega))
    have HMAY := Lib.hid hmay
    clear hmay hown
    go_wp2_with fail
    refine HLS.out.mono ?_
    intro x w4 hans
    obtain ⟨hx4, R, A7, c7, k7, hdec, rfl, hes⟩ := lists_dec hans
    have HX4 : Hid (Ext W w4) := Ext.trans HX3.out hx4
    obtain ⟨hR, rfl⟩ := Dec.same (.inl ⟨⟨HMAY.out.1, HMAY.out.2, rfl⟩, rfl⟩) hdec
    have hRL : R.length = L.length := by have := congrArg List.length hR; simpa using this
    have HSL : Hid (Calls Try.prog 33 #[.slice A7 R.length c7, .slice A L.length c] w4 fun x w' => x = .returned (.bool true) ∧ Ext w4 w') := by
      refine (rsamelist_any (c := c7) (c2 := c) hes (HES.out w4 HX4.out).1 (Nat.le_refl _) (HES.out w4 HX4.out).2 (by omega) (by omega)).mono ?_
      rintro x w' ⟨z, hz, rfl, hx⟩
      rw [hz.2 hR]
      exact ⟨rfl, hx⟩
    clear hans hx4 hdec hes hR hRL HLS
    go_wp2_with fail
    refine (errnum 0 _).mono ?_
    rintro x _ ⟨rfl, rfl⟩
    go_wp2_with fail
    refine (errnum 0 _).mono ?_
    rintro x _ ⟨rfl, rfl⟩
    go_wp2_with fail
    refine HSL.out.mono ?_
    rintro x wl ⟨rfl, hx5⟩
    have HXL : Hid (Ext W wl) := Ext.trans HX4.out hx5
    clear hx5
    go_wp2_with fail
    go_loopw [9, 10, 11, 12, 13] (fun i _ _ _ _ wr => ∃ j : Nat, i = .int .i64 (j : Int) ∧ j ≤ L.length ∧ j ≤ 100 ∧ Hid (Ext W wr)) (fun i _ _ _ _ _ => L.length - (intOf i).toNat)
    case atStart => exact ⟨0, rfl, by omega, by omega, HXL⟩
    case round =>
      obtain ⟨j, rfl, hj, hj2, HXT⟩ := hrel
      by_cases hlt : j < L.length
      · have d1 : decide ((j : Int) < (L.length : Int)) = true := decide_eq_true (by omega)
        have d1n : decide (j < L.length) = true := decide_eq_true hlt
        by_cases hl2 : j < 100
        · have d2 : decide ((j : Int) < 100) = true := decide_eq_true (by omega)
          have d2n : decide (j < 100) = true := decide_eq_true hl2
          obtain ⟨bb, oo, hA⟩ := HE.out.base (by omega)
          subst hA
          obtain ⟨p, hp⟩ : ∃ p, L[j]? = some p := ⟨_, List.getElem?_eq_getElem hlt⟩
          obtain ⟨c0, c1, c2, c3⟩ := (HES.out wr HXT.out).1.get hp
          have HP := Lib.hid hp
          have HEP : Hid (Em W 0 W.heap.size p.1 p.2) := HE.out.each p (List.mem_of_getElem? hp)
          have HBYT := Lib.hid (ebytes_any (HEP.out.below HXT.out (Nat.le_refl _)) HXT.out.size)
          unfold Ent.at_ at HBYT
          have n1 : (0 : Int) ≤ (j : Int) := by omega
          have n2 : (j : Int) < (L.length : Int) := by omega
          clear hp
          go_wp2_with fail
          refine HBYT.out.mono ?_
          rintro x w6 ⟨hx6, (⟨hm, A8, c8, rfl, hown⟩ | ⟨hm, rfl⟩)⟩
          · have HX6 : Hid (Ext W w6) := Ext.trans HXT.out hx6
            have HM := Lib.hid hm
            have hfl : ∀ x ∈ p.1.form, x < 256 := Ent.form_lt HEP.out.bk HEP.out.bv
            have HRD := Lib.hid (read_any hown.bs (Nat.le_refl _) hfl (by have := Ent.form_len hm; omega))
            have HFL := Lib.hid hfl
            clear hx6 hm hown hfl c0 c1 c2 c3 HBYT
            go_wp2_with fail
            refine HRD.out.mono ?_
            intro x w7 hans
            obtain ⟨hx7, e, g, k, hgets, rfl, hem⟩ := read_gets HFL.out hans
            obtain ⟨rfl, rfl⟩ := Gets.is ⟨HM.out, rfl⟩ hgets
            have HX7 : Hid (Ext W w7) := Ext.trans HX6.out hx7
            have HEM := Lib.hid hem
            clear hans hx7 hgets hem HRD
            unfold Ent.at_
            go_upto_region 13 with (fail)
            obtain ⟨w8, hw8⟩ : ∃ w8, w8 = w7.alloc (.cells #[.slice g.kA p.1.key.length g.kc, .int .i64 p.1.seq, .int .i64 p.1.kind, .slice g.vA p.1.val.length g.vc] 25) := ⟨_, rfl⟩
            rw [← hw8]
            have HX78 : Hid (Ext w7 w8) := by rw [hw8]; exact ext_alloc _ _
            have HX8 : Hid (Ext W w8) := Ext.trans HX7.out HX78.out
            have HB8 : Hid (w8.heap[w7.heap.size]? = some (.cells #[.slice g.kA p.1.key.length g.kc, .int .i64 p.1.seq, .int .i64 p.1.kind, .slice g.vA p.1.val.length g.vc] 25 (0, 0))) := by rw [hw8]; exact heap_at _ _ rfl
            have a0 := cell_of HB8.out (k := 0) rfl
            have a1 := cell_of HB8.out (k := 1) rfl
            have a2 := cell_of HB8.out (k := 2) rfl
            have a3 := cell_of HB8.out (k := 3) rfl
            obtain ⟨c0, c1, c2, c3⟩ := (HES.out w8 HX8.out).1.get HP.out
            have HWW : Hid (∀ u, Ext w8 u → Em u 0 w7.heap.size p.1 g ∧ Em u 0 W.heap.size p.1 p.2 ∧ w7.heap.size ≤ u.heap.size ∧ W.heap.size ≤ u.heap.size) := fun u hu => by
              have h7 := Ext.trans HX78.out hu
              have h0 := Ext.trans HX8.out hu
              exact ⟨HEM.out.below h7 (Nat.le_refl _), HEP.out.below h0 (Nat.le_refl _), h7.size, h0.size⟩
            obtain ⟨nf, hnf⟩ : ∃ nf, nf = p.1.form.length := ⟨_, rfl⟩
            rw [← hnf]
            have HNF : Hid ((if p.1.may then (p.1.form.length : Int) else 0) = (nf : Int)) := by rw [HM.out, hnf]; rfl
            clear hw8 hnf
            refine flow (by kernel_rfl) [Is (.int .i64 (0 : Int)), Is (.int .i64 (0 : Int)), Is (.bool true), Is (.bool true), Is (.int .i64 (0 : Int)), Is (.int .i64 (0 : Int)), Is (.bool false), Is (.bool false), Is (.agg #[.slice g.kA p.1.key.length g.kc, .int .i64 p.1.seq, .int .i64 p.1.kind, .slice g.vA p.1.val.length g.vc]), Is (.slice (some ⟨bb, oo, none⟩) L.length c), Is (.int .i64 (j : Int)), Is (.pointer (some ⟨bb, oo + j * 4, none⟩)), Is (.agg #[.slice p.2.kA p.1.key.length p.2.kc, .int .i64 p.1.seq, .int .i64 p.1.kind, .slice p.2.vA p.1.val.length p.2.vc]), Is (.bool true), Is (.bool false), Is (.bool false), Is (.bool false), Is (.slice (some ⟨bb, oo, none⟩) L.length c), Is (.int .i64 (j : Int)), Is (.pointer (some ⟨bb, oo + j * 4, none⟩)), Is (.agg #[.slice p.2.kA p.1.key.length p.2.kc, .int .i64 p.1.seq, .int .i64 p.1.kind, .slice p.2.vA p.1.val.length p.2.vc]), Is (.int .i64 (nf : Int)), Is (.slice A8 nf c8), Is (.int .i64 (nf : Int)), Is (.bool false), Is (.bool false), Is (.bool false)] (by kernel_rfl) (by kernel_rfl) ?mono (fun f1 => ?obl) ?fin
            case mono =>
              simp only [List.forall_mem_cons, List.not_mem_nil, false_imp_iff, implies_true, and_true]
              exact ⟨.is _, .is _, .is _, .is _, .is _, .is _, .is _, .is _, .is _, .is _, .is _, .is _, .is _, .is _, .is _, .is _, .is _, .is _, .is _, .is _, .is _, .is _, .is _, .is _, .is _, .is _, .is _⟩
            case fin =>
              intro g1 u hu hg
              simp only [puts, Act.put, List.setIfInBounds_toArray, List.set_cons_zero, List.set_cons_succ]
              have h26 : g1 26 = .bool false := hg 26 (by decide)
              rw [h26]
              have HXU : Hid (Ext W u) := Ext.trans HX8.out (Ext.trans (Ext.drew w8) hu)
              clear h26 hg hu a0 a1 a2 a3 c0 c1 c2 c3
              go_wp2_with fail
              go_roundw
              case rel => exact ⟨j + 1, by go_num, by omega, by omega, HXU⟩
              case measure => simp [intOf]; omega
            case obl =>
              refine ⟨fun u hu hd => ?_, ?_⟩
              · go_simp
                exact ⟨Ext.refl _, rfl⟩
              refine ⟨fun u hu hd => ?_, ?_⟩
              · simp only [Act.put, List.setIfInBounds_toArray, List.set_cons_zero, List.set_cons_succ]
                have e0 : f1 0 = .int .i64 (0 : Int) := hd 0 (by kernel_rfl)
                go_simp
                refine (errnum 0 u).mono ?_
                rintro x w9 ⟨rfl, rfl⟩
                exact ⟨_, rfl, Ext.refl _, rfl⟩
              refine ⟨fun u hu hd => ?_, ?_⟩
              · simp only [Act.put, List.setIfInBounds_toArray, List.set_cons_zero, List.set_cons_succ]
                have e1 : f1 1 = .int .i64 (0 : Int) := hd 1 (by kernel_rfl)
                go_simp
                exact ⟨Ext.refl _, rfl⟩
              refine ⟨fun u hu hd => ?_, ?_⟩
              · simp only [Act.put, List.setIfInBounds_toArray, List.set_cons_zero, List.set_cons_succ]
                have e2 : f1 2 = .bool true := hd 2 (by kernel_rfl)
                go_simp
                exact ⟨Ext.refl _, rfl⟩
              refine ⟨fun u hu hd => ?_, ?_⟩
              · simp only [Act.put, List.setIfInBounds_toArray, List.set_cons_zero, List.set_cons_succ]
                have e3 : f1 3 = .bool true := hd 3 (by kernel_rfl)
                go_simp
                exact ⟨Ext.refl _, rfl⟩
              refine ⟨fun u hu hd => ?_, ?_⟩
              · simp only [Act.put, List.setIfInBounds_toArray, List.set_cons_zero, List.set_cons_succ]
                have e3 : f1 3 = .bool true := hd 3 (by kernel_rfl)
                have e4 : f1 4 = .int .i64 (0 : Int) := hd 4 (by kernel_rfl)
                go_simp
                refine (errnum 0 u).mono ?_
                rintro x w9 ⟨rfl, rfl⟩
                exact ⟨_, rfl, Ext.refl _, rfl⟩
              refine ⟨fun u hu hd => ?_, ?_⟩
              · simp only [Act.put, List.setIfInBounds_toArray, List.set_cons_zero, List.set_cons_succ]
                have e3 : f1 3 = .bool true := hd 3 (by kernel_rfl)
                have e5 : f1 5 = .int .i64 (0 : Int) := hd 5 (by kernel_rfl)
                go_simp
                exact ⟨Ext.refl _, rfl⟩
              refine ⟨fun u hu hd => ?_, ?_⟩
              · simp only [Act.put, List.setIfInBounds_toArray, List.set_cons_zero, List.set_cons_succ]
                have e3 : f1 3 = .bool true := hd 3 (by kernel_rfl)
                have e6 : f1 6 = .bool false := hd 6 (by kernel_rfl)
                go_simp
                exact ⟨Ext.refl _, rfl⟩
              refine ⟨fun u hu hd => ?_, ?_⟩
              · simp only [Act.put, List.setIfInBounds_toArray, List.set_cons_zero, List.set_cons_succ]
                have e7 : f1 7 = .bool false := hd 7 (by kernel_rfl)
                have hu2 := Ext.trans (Ext.drew w8) hu
                have q0 := ext_cell hu2 a0
                have q1 := ext_cell hu2 a1
                have q2 := ext_cell hu2 a2
                have q3 := ext_cell hu2 a3
                go_simp
                exact ⟨Ext.refl _, rfl⟩
              refine ⟨fun u hu hd => ?_, ?_⟩
              · simp only [Act.put, List.setIfInBounds_toArray, List.set_cons_zero, List.set_cons_succ]
                have e7 : f1 7 = .bool false := hd 7 (by kernel_rfl)
                go_simp
                exact ⟨Ext.refl _, rfl⟩
              refine ⟨fun u hu hd => ?_, ?_⟩
              · simp only [Act.put, List.setIfInBounds_toArray, List.set_cons_zero, List.set_cons_succ]
                have e7 : f1 7 = .bool false := hd 7 (by kernel_rfl)
                go_simp
                exact ⟨Ext.refl _, rfl⟩
              refine ⟨fun u hu hd => ?_, ?_⟩
              · simp only [Act.put, List.setIfInBounds_toArray, List.set_cons_zero, List.set_cons_succ]
                have e7 : f1 7 = .bool false := hd 7 (by kernel_rfl)
                have e9 : f1 9 = .slice (some ⟨bb, oo, none⟩) L.length c := hd 9 (by kernel_rfl)
                have e10 : f1 10 = .int .i64 (j : Int) := hd 10 (by kernel_rfl)
                go_simp
                exact ⟨Ext.refl _, rfl⟩
              refine ⟨fun u hu hd => ?_, ?_⟩
              · simp only [Act.put, List.setIfInBounds_toArray, List.set_cons_zero, List.set_cons_succ]
                have e7 : f1 7 = .bool false := hd 7 (by kernel_rfl)
                have e11 : f1 11 = .pointer (some ⟨bb, oo + j * 4, none⟩) := hd 11 (by kernel_rfl)
                have hu2 := Ext.trans (Ext.drew w8) hu
                have q0 := ext_cell hu2 c0
                have q1 := ext_cell hu2 c1
                have q2 := ext_cell hu2 c2
                have q3 := ext_cell hu2 c3
                go_simp
                exact ⟨Ext.refl _, rfl⟩
              refine ⟨fun u hu hd => ?_, ?_⟩
              · simp only [Act.put, List.setIfInBounds_toArray, List.set_cons_zero, List.set_cons_succ]
                have e7 : f1 7 = .bool false := hd 7 (by kernel_rfl)
                have e8 : f1 8 = .agg #[.slice g.kA p.1.key.length g.kc, .int .i64 p.1.seq, .int .i64 p.1.kind, .slice g.vA p.1.val.length g.vc] := hd 8 (by kernel_rfl)
                have e12 : f1 12 = .agg #[.slice p.2.kA p.1.key.length p.2.kc, .int .i64 p.1.seq, .int .i64 p.1.kind, .slice p.2.vA p.1.val.length p.2.vc] := hd 12 (by kernel_rfl)
                have hu2 := Ext.trans (Ext.drew w8) hu
                obtain ⟨m1, m2, m3, m4⟩ := HWW.out u hu2
                go_simp
                refine (rsame_any m1 m2 m3 m4).mono ?_
                rintro x w9 ⟨z, hz, rfl, hx9⟩
                have hz1 : z = true := hz.2 (by trivial)
                subst hz1
                exact ⟨_, rfl, hx9, rfl⟩
              refine ⟨fun u hu hd => ?_, ?_⟩
              · simp only [Act.put, List.setIfInBounds_toArray, List.set_cons_zero, List.set_cons_succ]
                have e7 : f1 7 = .bool false := hd 7 (by kernel_rfl)
                have e13 : f1 13 = .bool true := hd 13 (by kernel_rfl)
                go_simp
                exact ⟨Ext.refl _, rfl⟩
              refine ⟨fun u hu hd => ?_, ?_⟩
              · simp only [Act.put, List.setIfInBounds_toArray, List.set_cons_zero, List.set_cons_succ]
                have e3 : f1 3 = .bool true := hd 3 (by kernel_rfl)
                have e7 : f1 7 = .bool false := hd 7 (by kernel_rfl)
                have e14 : f1 14 = .bool false := hd 14 (by kernel_rfl)
                go_simp
                exact ⟨Ext.refl _, rfl⟩
              refine ⟨fun u hu hd => ?_, ?_⟩
              · simp only [Act.put, List.setIfInBounds_toArray, List.set_cons_zero, List.set_cons_succ]
                have e3 : f1 3 = .bool true := hd 3 (by kernel_rfl)
                have e15 : f1 15 = .bool false := hd 15 (by kernel_rfl)
                go_simp
                exact ⟨Ext.refl _, rfl⟩
              refine ⟨fun u hu hd => ?_, ?_⟩
              · simp only [Act.put, List.setIfInBounds_toArray, List.set_cons_zero, List.set_cons_succ]
                have e16 : f1 16 = .bool false := hd 16 (by kernel_rfl)
                go_simp
                exact ⟨Ext.refl _, rfl⟩
              refine ⟨fun u hu hd => ?_, ?_⟩
              · simp only [Act.put, List.setIfInBounds_toArray, List.set_cons_zero, List.set_cons_succ]
                have e16 : f1 16 = .bool false := hd 16 (by kernel_rfl)
                go_simp
                exact ⟨Ext.refl _, rfl⟩
              refine ⟨fun u hu hd => ?_, ?_⟩
              · simp only [Act.put, List.setIfInBounds_toArray, List.set_cons_zero, List.set_cons_succ]
                have e16 : f1 16 = .bool false := hd 16 (by kernel_rfl)
                have e17 : f1 17 = .slice (some ⟨bb, oo, none⟩) L.length c := hd 17 (by kernel_rfl)
                have e18 : f1 18 = .int .i64 (j : Int) := hd 18 (by kernel_rfl)
                go_simp
                exact ⟨Ext.refl _, rfl⟩
              refine ⟨fun u hu hd => ?_, ?_⟩
              · simp only [Act.put, List.setIfInBounds_toArray, List.set_cons_zero, List.set_cons_succ]
                have e16 : f1 16 = .bool false := hd 16 (by kernel_rfl)
                have e19 : f1 19 = .pointer (some ⟨bb, oo + j * 4, none⟩) := hd 19 (by kernel_rfl)
                have hu2 := Ext.trans (Ext.drew w8) hu
                have q0 := ext_cell hu2 c0
                have q1 := ext_cell hu2 c1
                have q2 := ext_cell hu2 c2
                have q3 := ext_cell hu2 c3
                go_simp
                exact ⟨Ext.refl _, rfl⟩
              refine ⟨fun u hu hd => ?_, ?_⟩
              · simp only [Act.put, List.setIfInBounds_toArray, List.set_cons_zero, List.set_cons_succ]
                have e16 : f1 16 = .bool false := hd 16 (by kernel_rfl)
                have e20 : f1 20 = .agg #[.slice p.2.kA p.1.key.length p.2.kc, .int .i64 p.1.seq, .int .i64 p.1.kind, .slice p.2.vA p.1.val.length p.2.vc] := hd 20 (by kernel_rfl)
                have hu2 := Ext.trans (Ext.drew w8) hu
                obtain ⟨m1, m2, m3, m4⟩ := HWW.out u hu2
                go_simp
                refine (size_any m2 m4).mono ?_
                rintro x w9 ⟨rfl, hx9⟩
                exact ⟨_, rfl, hx9, by rw [HNF.out]; rfl⟩
              refine ⟨fun u hu hd => ?_, ?_⟩
              · simp only [Act.put, List.setIfInBounds_toArray, List.set_cons_zero, List.set_cons_succ]
                have e16 : f1 16 = .bool false := hd 16 (by kernel_rfl)
                go_simp
                exact ⟨Ext.refl _, rfl⟩
              refine ⟨fun u hu hd => ?_, ?_⟩
              · simp only [Act.put, List.setIfInBounds_toArray, List.set_cons_zero, List.set_cons_succ]
                have e16 : f1 16 = .bool false := hd 16 (by kernel_rfl)
                have e22 : f1 22 = .slice A8 nf c8 := hd 22 (by kernel_rfl)
                go_simp
                exact ⟨Ext.refl _, rfl⟩
              refine ⟨fun u hu hd => ?_, ?_⟩
              · simp only [Act.put, List.setIfInBounds_toArray, List.set_cons_zero, List.set_cons_succ]
                have e16 : f1 16 = .bool false := hd 16 (by kernel_rfl)
                have e21 : f1 21 = .int .i64 (nf : Int) := hd 21 (by kernel_rfl)
                have e23 : f1 23 = .int .i64 (nf : Int) := hd 23 (by kernel_rfl)
                go_simp
                exact ⟨Ext.refl _, rfl⟩
              refine ⟨fun u hu hd => ?_, ?_⟩
              · simp only [Act.put, List.setIfInBounds_toArray, List.set_cons_zero, List.set_cons_succ]
                have e3 : f1 3 = .bool true := hd 3 (by kernel_rfl)
                have e16 : f1 16 = .bool false := hd 16 (by kernel_rfl)
                have e24 : f1 24 = .bool false := hd 24 (by kernel_rfl)
                go_simp
                exact ⟨Ext.refl _, rfl⟩
              refine ⟨fun u hu hd => ?_, ?_⟩
              · simp only [Act.put, List.setIfInBounds_toArray, List.set_cons_zero, List.set_cons_succ]
                have e3 : f1 3 = .bool true := hd 3 (by kernel_rfl)
                have e25 : f1 25 = .bool false := hd 25 (by kernel_rfl)
                go_simp
                exact ⟨Ext.refl _, rfl⟩
              trivial
          · have HX6 : Hid (Ext W w6) := Ext.trans HXT.out hx6
            clear hx6 hm c0 c1 c2 c3 HBYT
            go_wp2_with fail
            refine (read_any (Bs.nil w6 0 w6.heap.size) (Nat.le_refl _) (by simp) (by simp)).mono ?_
            intro x w7 hans
            obtain ⟨hx7, e, g, k, hgets, rfl, hem⟩ := read_gets (by simp) hans
            have HX7 : Hid (Ext W w7) := Ext.trans HX6.out hx7
            clear hans hx7 hgets hem
            unfold Ent.at_
            go_upto_region 13 with (fail)
            obtain ⟨w8, hw8⟩ : ∃ w8, w8 = w7.alloc (.cells #[.slice g.kA e.key.length g.kc, .int .i64 e.seq, .int .i64 e.kind, .slice g.vA e.val.length g.vc] 25) := ⟨_, rfl⟩
            rw [← hw8]
            have HX8 : Hid (Ext W w8) := Ext.trans HX7.out (by rw [hw8]; exact ext_alloc _ _)
            clear hw8
            refine flow (by kernel_rfl) [Is (.int .i64 (2 : Int)), Is (.int .i64 (2 : Int)), Is (.bool false), Is (.bool false), Is undef, Is undef, Is undef, Is undef, Is undef, Is undef, Is undef, Is undef, Is undef, Is undef, Is undef, Is undef, Is undef, Is undef, Is undef, Is undef, Is undef, Is undef, Is undef, Is undef, Is undef, Is undef, Is (.bool false)] (by kernel_rfl) (by kernel_rfl) ?mono (fun f1 => ?obl) ?fin
            case mono =>
              simp only [List.forall_mem_cons, List.not_mem_nil, false_imp_iff, implies_true, and_true]
              exact ⟨.is _, .is _, .is _, .is _, .is _, .is _, .is _, .is _, .is _, .is _, .is _, .is _, .is _, .is _, .is _, .is _, .is _, .is _, .is _, .is _, .is _, .is _, .is _, .is _, .is _, .is _, .is _⟩
            case fin =>
              intro g1 u hu hg
              simp only [puts, Act.put, List.setIfInBounds_toArray, List.set_cons_zero, List.set_cons_succ]
              have h26 : g1 26 = .bool false := hg 26 (by decide)
              rw [h26]
              have HXU : Hid (Ext W u) := Ext.trans HX8.out (Ext.trans (Ext.drew w8) hu)
              clear h26 hg hu
              go_wp2_with fail
              go_roundw
              case rel => exact ⟨j + 1, by go_num, by omega, by omega, HXU⟩
              case measure => simp [intOf]; omega
            case obl =>
              refine ⟨fun u hu hd => ?_, ?_⟩
              · go_simp
                exact ⟨Ext.refl _, rfl⟩
              refine ⟨fun u hu hd => ?_, ?_⟩
              · simp only [Act.put, List.setIfInBounds_toArray, List.set_cons_zero, List.set_cons_succ]
                have e0 : f1 0 = .int .i64 (2 : Int) := hd 0 (by kernel_rfl)
                go_simp
                refine (errnum 2 u).mono ?_
                rintro x w9 ⟨rfl, rfl⟩
                exact ⟨_, rfl, Ext.refl _, rfl⟩
              refine ⟨fun u hu hd => ?_, ?_⟩
              · simp only [Act.put, List.setIfInBounds_toArray, List.set_cons_zero, List.set_cons_succ]
                have e1 : f1 1 = .int .i64 (2 : Int) := hd 1 (by kernel_rfl)
                go_simp
                exact ⟨Ext.refl _, rfl⟩
              refine ⟨fun u hu hd => ?_, ?_⟩
              · simp only [Act.put, List.setIfInBounds_toArray, List.set_cons_zero, List.set_cons_succ]
                have e2 : f1 2 = .bool false := hd 2 (by kernel_rfl)
                go_simp
                exact ⟨Ext.refl _, rfl⟩
              refine ⟨fun u hu hd => ?_, ?_⟩
              · simp only [Act.put, List.setIfInBounds_toArray, List.set_cons_zero, List.set_cons_succ]
                have e3 : f1 3 = .bool false := hd 3 (by kernel_rfl)
                go_simp
                rfl
              refine ⟨fun u hu hd => ?_, ?_⟩
              · simp only [Act.put, List.setIfInBounds_toArray, List.set_cons_zero, List.set_cons_succ]
                have e3 : f1 3 = .bool false := hd 3 (by kernel_rfl)
                go_simp
                rfl
              refine ⟨fun u hu hd => ?_, ?_⟩
              · simp only [Act.put, List.setIfInBounds_toArray, List.set_cons_zero, List.set_cons_succ]
                have e3 : f1 3 = .bool false := hd 3 (by kernel_rfl)
                go_simp
                rfl
              refine ⟨fun u hu hd => ?_, ?_⟩
              · simp only [Act.put, List.setIfInBounds_toArray, List.set_cons_zero, List.set_cons_succ]
                have e3 : f1 3 = .bool false := hd 3 (by kernel_rfl)
                go_simp
                rfl
              refine ⟨fun u hu hd => ?_, ?_⟩
              · simp only [Act.put, List.setIfInBounds_toArray, List.set_cons_zero, List.set_cons_succ]
                have e7 : f1 7 = undef := hd 7 (by kernel_rfl)
                go_simp
                rfl
              refine ⟨fun u hu hd => ?_, ?_⟩
              · simp only [Act.put, List.setIfInBounds_toArray, List.set_cons_zero, List.set_cons_succ]
                have e7 : f1 7 = undef := hd 7 (by kernel_rfl)
                go_simp
                rfl
              refine ⟨fun u hu hd => ?_, ?_⟩
              · simp only [Act.put, List.setIfInBounds_toArray, List.set_cons_zero, List.set_cons_succ]
                have e7 : f1 7 = undef := hd 7 (by kernel_rfl)
                go_simp
                rfl
              refine ⟨fun u hu hd => ?_, ?_⟩
              · simp only [Act.put, List.setIfInBounds_toArray, List.set_cons_zero, List.set_cons_succ]
                have e7 : f1 7 = undef := hd 7 (by kernel_rfl)
                go_simp
                rfl
              refine ⟨fun u hu hd => ?_, ?_⟩
              · simp only [Act.put, List.setIfInBounds_toArray, List.set_cons_zero, List.set_cons_succ]
                have e7 : f1 7 = undef := hd 7 (by kernel_rfl)
                go_simp
                rfl
              refine ⟨fun u hu hd => ?_, ?_⟩
              · simp only [Act.put, List.setIfInBounds_toArray, List.set_cons_zero, List.set_cons_succ]
                have e7 : f1 7 = undef := hd 7 (by kernel_rfl)
                go_simp
                rfl
              refine ⟨fun u hu hd => ?_, ?_⟩
              · simp only [Act.put, List.setIfInBounds_toArray, List.set_cons_zero, List.set_cons_succ]
                have e7 : f1 7 = undef := hd 7 (by kernel_rfl)
                go_simp
                rfl
              refine ⟨fun u hu hd => ?_, ?_⟩
              · simp only [Act.put, List.setIfInBounds_toArray, List.set_cons_zero, List.set_cons_succ]
                have e3 : f1 3 = .bool false := hd 3 (by kernel_rfl)
                go_simp
                rfl
              refine ⟨fun u hu hd => ?_, ?_⟩
              · simp only [Act.put, List.setIfInBounds_toArray, List.set_cons_zero, List.set_cons_succ]
                have e3 : f1 3 = .bool false := hd 3 (by kernel_rfl)
                go_simp
                rfl
              refine ⟨fun u hu hd => ?_, ?_⟩
              · simp only [Act.put, List.setIfInBounds_toArray, List.set_cons_zero, List.set_cons_succ]
                have e16 : f1 16 = undef := hd 16 (by kernel_rfl)
                go_simp
                rfl
              refine ⟨fun u hu hd => ?_, ?_⟩
              · simp only [Act.put, List.setIfInBounds_toArray, List.set_cons_zero, List.set_cons_succ]
                have e16 : f1 16 = undef := hd 16 (by kernel_rfl)
                go_simp
                rfl
              refine ⟨fun u hu hd => ?_, ?_⟩
              · simp only [Act.put, List.setIfInBounds_toArray, List.set_cons_zero, List.set_cons_succ]
                have e16 : f1 16 = undef := hd 16 (by kernel_rfl)
                go_simp
                rfl
              refine ⟨fun u hu hd => ?_, ?_⟩
              · simp only [Act.put, List.setIfInBounds_toArray, List.set_cons_zero, List.set_cons_succ]
                have e16 : f1 16 = undef := hd 16 (by kernel_rfl)
                go_simp
                rfl
              refine ⟨fun u hu hd => ?_, ?_⟩
              · simp only [Act.put, List.setIfInBounds_toArray, List.set_cons_zero, List.set_cons_succ]
                have e16 : f1 16 = undef := hd 16 (by kernel_rfl)
                go_simp
                rfl
              refine ⟨fun u hu hd => ?_, ?_⟩
              · simp only [Act.put, List.setIfInBounds_toArray, List.set_cons_zero, List.set_cons_succ]
                have e16 : f1 16 = undef := hd 16 (by kernel_rfl)
                go_simp
                rfl
              refine ⟨fun u hu hd => ?_, ?_⟩
              · simp only [Act.put, List.setIfInBounds_toArray, List.set_cons_zero, List.set_cons_succ]
                have e16 : f1 16 = undef := hd 16 (by kernel_rfl)
                go_simp
                rfl
              refine ⟨fun u hu hd => ?_, ?_⟩
              · simp only [Act.put, List.setIfInBounds_toArray, List.set_cons_zero, List.set_cons_succ]
                have e16 : f1 16 = undef := hd 16 (by kernel_rfl)
                go_simp
                rfl
              refine ⟨fun u hu hd => ?_, ?_⟩
              · simp only [Act.put, List.setIfInBounds_toArray, List.set_cons_zero, List.set_cons_succ]
                have e3 : f1 3 = .bool false := hd 3 (by kernel_rfl)
                go_simp
                rfl
              refine ⟨fun u hu hd => ?_, ?_⟩
              · simp only [Act.put, List.setIfInBounds_toArray, List.set_cons_zero, List.set_cons_succ]
                have e3 : f1 3 = .bool false := hd 3 (by kernel_rfl)
                go_simp
                exact ⟨Ext.refl _, rfl⟩
              trivial
        · have d2 : decide ((j : Int) < 100) = false := decide_eq_false (by omega)
          have d2n : decide (j < 100) = false := decide_eq_false hl2
          clear hlt hl2 hj hj2
          by_cases hbig : 100000 < b.length
          · have hd : decide ((100000 : Int) < (b.length : Int)) = true := decide_eq_true (by omega)
            have hd2 : decide (100000 < b.length) = true := decide_eq_true hbig
            clear hbig hb63
            go_wp2_with fail
            go_ret
            exact ⟨rfl, HXT.out⟩
          have hd : decide ((100000 : Int) < (b.length : Int)) = false := decide_eq_false (by omega)
          have hd2 : decide (100000 < b.length) = false := decide_eq_false hbig
          have HBL : Hid (b.length ≤ 100000) := by unfold Hid; omega
          clear hbig
          have HRA := Lib.hid (read_any (HV.out.below HXT.out (Nat.le_refl _)) HXT.out.size HBY.out (by have := HBL.out; omega))
          go_wp2_with fail
          refine HRA.out.mono ?_
          intro x t1 hans
          obtain ⟨hx1, e, g, k, hgets, rfl, hem⟩ := read_gets HBY.out hans
          have HT1 : Hid (Ext W t1) := Ext.trans HXT.out hx1
          have HGE := Lib.hid hgets
          have HEM := Lib.hid hem
          clear hans hx1 hgets hem HRA
          unfold Ent.at_
          go_upto_region 18 with (fail)
          obtain ⟨t2, ht2⟩ : ∃ t2, t2 = t1.alloc (.cells #[.slice g.kA e.key.length g.kc, .int .i64 e.seq, .int .i64 e.kind, .slice g.vA e.val.length g.vc] 25) := ⟨_, rfl⟩
          rw [← ht2]
          have HX12 : Hid (Ext t1 t2) := by rw [ht2]; exact ext_alloc _ _
          have HB2 : Hid (t2.heap[t1.heap.size]? = some (.cells #[.slice g.kA e.key.length g.kc, .int .i64 e.seq, .int .i64 e.kind, .slice g.vA e.val.length g.vc] 25 (0, 0))) := by rw [ht2]; exact heap_at _ _ rfl
          have HBYT := Lib.hid (ebytes_any (HEM.out.below HX12.out (Nat.le_refl _)) HX12.out.size)
          unfold Ent.at_ at HBYT
          have e0 := cell_of HB2.out (k := 0) rfl
          have e1 := cell_of HB2.out (k := 1) rfl
          have e2 := cell_of HB2.out (k := 2) rfl
          have e3 := cell_of HB2.out (k := 3) rfl
          clear ht2
          go_wp2_with fail
          refine HBYT.out.mono ?_
          rintro x t3 ⟨hx3, hres⟩
          have HT3 : Hid (Ext W t3) := Ext.trans HT1.out (Ext.trans HX12.out hx3)
          clear hx3 e0 e1 e2 e3 HBYT
          rcases HGE.out with ⟨hi, hk⟩ | ⟨_, he, hk⟩
          · rcases hres with ⟨_, A8, c8, rfl, hown⟩ | ⟨hm, _⟩
            rotate_left
            · have h2 := hi.1; rw [h2] at hm; cases hm
            subst hk
            rw [hi.2] at hown ⊢
            have cv1 := cv_any hown.bs
            have cv2 := cv_any (HV.out.below HT3.out (Nat.le_refl _))
            have htt : ((tx b).toList == (tx b).toList) = true := by simp
            have htn : ((tx b).toList != (tx b).toList) = false := by simp
            clear hi hown
            go_wp2_with fail
            refine (errnum 0 _).mono ?_
            rintro x _ ⟨rfl, rfl⟩
            go_wp2_with fail
            refine (errnum 0 _).mono ?_
            rintro x _ ⟨rfl, rfl⟩
            go_upto_region 21 with (fail)
            clear cv1 cv2 htt htn
            go_wp2_with fail
            refine (elists_any (HV.out.below HT3.out (Nat.le_refl _)) HT3.out.size HBY.out (by have := HBL.out; omega)).mono ?_
            intro x t4 hans
            obtain ⟨hx4, R', A7', c7', k7', hdec, rfl, hes⟩ := lists_dec hans
            have HT4 : Hid (Ext W t4) := Ext.trans HT3.out hx4
            have HD := Lib.hid hdec
            have HLS' := Lib.hid (elist_any (c := c7') hes (Nat.le_refl _) (by have := hdec.len; rw [List.length_map] at this; omega))
            clear hans hx4 hdec hes
            go_wp2_with fail
            refine HLS'.out.mono ?_
            intro x t5 hans
            obtain ⟨hx5, A9, n9, c9, k9, rfl, hres9⟩ := list_one hans
            have HT5 : Hid (Ext W t5) := Ext.trans HT4.out hx5
            have HRES := Lib.hid hres9
            clear hans hx5 hres9 HLS'
            rcases HD.out with ⟨hl, hk7⟩ | ⟨_, _, hk7⟩
            · subst hk7
              obtain ⟨rfl, rfl, hown9⟩ : k9 = 0 ∧ n9 = (lform (R'.map Prod.fst)).length ∧ Own t4.heap.size (lform (R'.map Prod.fst)) (.slice A9 n9 c9) t5 := by
                rcases HRES.out with ⟨_, h⟩ | ⟨h, _⟩
                · exact h
                · exact absurd ⟨hl.1, hl.2.1⟩ h
              rw [hl.2.2] at hown9 ⊢
              have cv1 := cv_any hown9.bs
              have cv2 := cv_any (HV.out.below HT5.out (Nat.le_refl _))
              have htt : ((tx b).toList == (tx b).toList) = true := by simp
              clear hl hown9 HRES
              go_wp2_with fail
              refine (errnum 0 _).mono ?_
              rintro x _ ⟨rfl, rfl⟩
              go_wp2_with fail
              refine (errnum 0 _).mono ?_
              rintro x _ ⟨rfl, rfl⟩
              go_wp2_with fail
              go_ret
              exact ⟨rfl, HT5.out⟩
            · subst hk7
              go_wp2_with fail
              refine (errnum 4 _).mono ?_
              rintro x _ ⟨rfl, rfl⟩
              go_wp2_with fail
              go_ret
              exact ⟨rfl, HT5.out⟩
          · subst he hk
            rcases hres with ⟨hm, _⟩ | ⟨_, rfl⟩
            · exact absurd hm (by decide)
            go_wp2_with fail
            refine (errnum 4 _).mono ?_
            rintro x _ ⟨rfl, rfl⟩
            go_wp2_with fail
            refine (elists_any (HV.out.below HT3.out (Nat.le_refl _)) HT3.out.size HBY.out (by have := HBL.out; omega)).mono ?_
            intro x t4 hans
            obtain ⟨hx4, R', A7', c7', k7', hdec, rfl, hes⟩ := lists_dec hans
            have HT4 : Hid (Ext W t4) := Ext.trans HT3.out hx4
            have HD := Lib.hid hdec
            have HLS' := Lib.hid (elist_any (c := c7') hes (Nat.le_refl _) (by have := hdec.len; rw [List.length_map] at this; omega))
            clear hans hx4 hdec hes
            go_wp2_with fail
            refine HLS'.out.mono ?_
            intro x t5 hans
            obtain ⟨hx5, A9, n9, c9, k9, rfl, hres9⟩ := list_one hans
            have HT5 : Hid (Ext W t5) := Ext.trans HT4.out hx5
            have HRES := Lib.hid hres9
            clear hans hx5 hres9 HLS'
            rcases HD.out with ⟨hl, hk7⟩ | ⟨_, _, hk7⟩
            · subst hk7
              obtain ⟨rfl, rfl, hown9⟩ : k9 = 0 ∧ n9 = (lform (R'.map Prod.fst)).length ∧ Own t4.heap.size (lform (R'.map Prod.fst)) (.slice A9 n9 c9) t5 := by
                rcases HRES.out with ⟨_, h⟩ | ⟨h, _⟩
                · exact h
                · exact absurd ⟨hl.1, hl.2.1⟩ h
              rw [hl.2.2] at hown9 ⊢
              have cv1 := cv_any hown9.bs
              have cv2 := cv_any (HV.out.below HT5.out (Nat.le_refl _))
              have htt : ((tx b).toList == (tx b).toList) = true := by simp
              clear hl hown9 HRES
              go_wp2_with fail
              refine (errnum 0 _).mono ?_
              rintro x _ ⟨rfl, rfl⟩
              go_wp2_with fail
              refine (errnum 0 _).mono ?_
              rintro x _ ⟨rfl, rfl⟩
              go_wp2_with fail
              go_ret
              exact ⟨rfl, HT5.out⟩
            · subst hk7
              go_wp2_with fail
              refine (errnum 4 _).mono ?_
              rintro x _ ⟨rfl, rfl⟩
              go_wp2_with fail
              go_ret
              exact ⟨rfl, HT5.out⟩
      · have d1 : decide ((j : Int) < (L.length : Int)) = false := decide_eq_false (by omega)
        have d1n : decide (j < L.length) = false := decide_eq_false hlt
        clear hlt hj hj2
        by_cases hbig : 100000 < b.length
        · have hd : decide ((100000 : Int) < (b.length : Int)) = true := decide_eq_true (by omega)
          have hd2 : decide (100000 < b.length) = true := decide_eq_true hbig
          clear hbig hb63
          go_wp2_with fail
          go_ret
          exact ⟨rfl, HXT.out⟩
        have hd : decide ((100000 : Int) < (b.length : Int)) = false := decide_eq_false (by omega)
        have hd2 : decide (100000 < b.length) = false := decide_eq_false hbig
        have HBL : Hid (b.length ≤ 100000) := by unfold Hid; omega
        clear hbig
        have HRA := Lib.hid (read_any (HV.out.below HXT.out (Nat.le_refl _)) HXT.out.size HBY.out (by have := HBL.out; omega))
        go_wp2_with fail
        refine HRA.out.mono ?_
        intro x t1 hans
        obtain ⟨hx1, e, g, k, hgets, rfl, hem⟩ := read_gets HBY.out hans
        have HT1 : Hid (Ext W t1) := Ext.trans HXT.out hx1
        have HGE := Lib.hid hgets
        have HEM := Lib.hid hem
        clear hans hx1 hgets hem HRA
        unfold Ent.at_
        go_upto_region 18 with (fail)
        obtain ⟨t2, ht2⟩ : ∃ t2, t2 = t1.alloc (.cells #[.slice g.kA e.key.length g.kc, .int .i64 e.seq, .int .i64 e.kind, .slice g.vA e.val.length g.vc] 25) := ⟨_, rfl⟩
        rw [← ht2]
        have HX12 : Hid (Ext t1 t2) := by rw [ht2]; exact ext_alloc _ _
        have HB2 : Hid (t2.heap[t1.heap.size]? = some (.cells #[.slice g.kA e.key.length g.kc, .int .i64 e.seq, .int .i64 e.kind, .slice g.vA e.val.length g.vc] 25 (0, 0))) := by rw [ht2]; exact heap_at _ _ rfl
        have HBYT := Lib.hid (ebytes_any (HEM.out.below HX12.out (Nat.le_refl _)) HX12.out.size)
        unfold Ent.at_ at HBYT
        have e0 := cell_of HB2.out (k := 0) rfl
        have e1 := cell_of HB2.out (k := 1) rfl
        have e2 := cell_of HB2.out (k := 2) rfl
        have e3 := cell_of HB2.out (k := 3) rfl
        clear ht2
        go_wp2_with fail
        refine HBYT.out.mono ?_
        rintro x t3 ⟨hx3, hres⟩
        have HT3 : Hid (Ext W t3) := Ext.trans HT1.out (Ext.trans HX12.out hx3)
        clear hx3 e0 e1 e2 e3 HBYT
        rcases HGE.out with ⟨hi, hk⟩ | ⟨_, he, hk⟩
        · rcases hres with ⟨_, A8, c8, rfl, hown⟩ | ⟨hm, _⟩
          rotate_left
          · have h2 := hi.1; rw [h2] at hm; cases hm
          subst hk
          rw [hi.2] at hown ⊢
          have cv1 := cv_any hown.bs
          have cv2 := cv_any (HV.out.below HT3.out (Nat.le_refl _))
          have htt : ((tx b).toList == (tx b).toList) = true := by simp
          have htn : ((tx b).toList != (tx b).toList) = false := by simp
          clear hi hown
          go_wp2_with fail
          refine (errnum 0 _).mono ?_
          rintro x _ ⟨rfl, rfl⟩
          go_wp2_with fail
          refine (errnum 0 _).mono ?_
          rintro x _ ⟨rfl, rfl⟩
          go_upto_region 21 with (fail)
          clear cv1 cv2 htt htn
          go_wp2_with fail
          refine (elists_any (HV.out.below HT3.out (Nat.le_refl _)) HT3.out.size HBY.out (by have := HBL.out; omega)).mono ?_
          intro x t4 hans
          obtain ⟨hx4, R', A7', c7', k7', hdec, rfl, hes⟩ := lists_dec hans
          have HT4 : Hid (Ext W t4) := Ext.trans HT3.out hx4
          have HD := Lib.hid hdec
          have HLS' := Lib.hid (elist_any (c := c7') hes (Nat.le_refl _) (by have := hdec.len; rw [List.length_map] at this; omega))
          clear hans hx4 hdec hes
          go_wp2_with fail
          refine HLS'.out.mono ?_
          intro x t5 hans
          obtain ⟨hx5, A9, n9, c9, k9, rfl, hres9⟩ := list_one hans
          have HT5 : Hid (Ext W t5) := Ext.trans HT4.out hx5
          have HRES := Lib.hid hres9
          clear hans hx5 hres9 HLS'
          rcases HD.out with ⟨hl, hk7⟩ | ⟨_, _, hk7⟩
          · subst hk7
            obtain ⟨rfl, rfl, hown9⟩ : k9 = 0 ∧ n9 = (lform (R'.map Prod.fst)).length ∧ Own t4.heap.size (lform (R'.map Prod.fst)) (.slice A9 n9 c9) t5 := by
              rcases HRES.out with ⟨_, h⟩ | ⟨h, _⟩
              · exact h
              · exact absurd ⟨hl.1, hl.2.1⟩ h
            rw [hl.2.2] at hown9 ⊢
            have cv1 := cv_any hown9.bs
            have cv2 := cv_any (HV.out.below HT5.out (Nat.le_refl _))
            have htt : ((tx b).toList == (tx b).toList) = true := by simp
            clear hl hown9 HRES
            go_wp2_with fail
            refine (errnum 0 _).mono ?_
            rintro x _ ⟨rfl, rfl⟩
            go_wp2_with fail
            refine (errnum 0 _).mono ?_
            rintro x _ ⟨rfl, rfl⟩
            go_wp2_with fail
            go_ret
            exact ⟨rfl, HT5.out⟩
          · subst hk7
            go_wp2_with fail
            refine (errnum 4 _).mono ?_
            rintro x _ ⟨rfl, rfl⟩
            go_wp2_with fail
            go_ret
            exact ⟨rfl, HT5.out⟩
        · subst he hk
          rcases hres with ⟨hm, _⟩ | ⟨_, rfl⟩
          · exact absurd hm (by decide)
          go_wp2_with fail
          refine (errnum 4 _).mono ?_
          rintro x _ ⟨rfl, rfl⟩
          go_wp2_with fail
          refine (elists_any (HV.out.below HT3.out (Nat.le_refl _)) HT3.out.size HBY.out (by have := HBL.out; omega)).mono ?_
          intro x t4 hans
          obtain ⟨hx4, R', A7', c7', k7', hdec, rfl, hes⟩ := lists_dec hans
          have HT4 : Hid (Ext W t4) := Ext.trans HT3.out hx4
          have HD := Lib.hid hdec
          have HLS' := Lib.hid (elist_any (c := c7') hes (Nat.le_refl _) (by have := hdec.len; rw [List.length_map] at this; omega))
          clear hans hx4 hdec hes
          go_wp2_with fail
          refine HLS'.out.mono ?_
          intro x t5 hans
          obtain ⟨hx5, A9, n9, c9, k9, rfl, hres9⟩ := list_one hans
          have HT5 : Hid (Ext W t5) := Ext.trans HT4.out hx5
          have HRES := Lib.hid hres9
          clear hans hx5 hres9 HLS'
          rcases HD.out with ⟨hl, hk7⟩ | ⟨_, _, hk7⟩
          · subst hk7
            obtain ⟨rfl, rfl, hown9⟩ : k9 = 0 ∧ n9 = (lform (R'.map Prod.fst)).length ∧ Own t4.heap.size (lform (R'.map Prod.fst)) (.slice A9 n9 c9) t5 := by
              rcases HRES.out with ⟨_, h⟩ | ⟨h, _⟩
              · exact h
              · exact absurd ⟨hl.1, hl.2.1⟩ h
            rw [hl.2.2] at hown9 ⊢
            have cv1 := cv_any hown9.bs
            have cv2 := cv_any (HV.out.below HT5.out (Nat.le_refl _))
            have htt : ((tx b).toList == (tx b).toList) = true := by simp
            clear hl hown9 HRES
            go_wp2_with fail
            refine (errnum 0 _).mono ?_
            rintro x _ ⟨rfl, rfl⟩
            go_wp2_with fail
            refine (errnum 0 _).mono ?_
            rintro x _ ⟨rfl, rfl⟩
            go_wp2_with fail
            go_ret
            exact ⟨rfl, HT5.out⟩
          · subst hk7
            go_wp2_with fail
            refine (errnum 4 _).mono ?_
            rintro x _ ⟨rfl, rfl⟩
            go_wp2_with fail
            go_ret
            exact ⟨rfl, HT5.out⟩
  · clear hmay
    go_wp2_with fail
    refine (elists_any (Bs.nil w3 0 w3.heap.size) (Nat.le_refl _) (by simp) (by simp)).mono ?_
    intro x wl hans
    obtain ⟨hx4, R, A7, c7, k7, hdec, rfl, hes⟩ := lists_dec hans
    have HXL : Hid (Ext W wl) := Ext.trans HX3.out hx4
    clear hans hx4 hdec hes
    go_wp2_with fail
    refine (errnum 2 _).mono ?_
    rintro x _ ⟨rfl, rfl⟩
    go_wp2_with fail
    go_loopw [9, 10, 11, 12, 13] (fun i _ _ _ _ wr => ∃ j : Nat, i = .int .i64 (j : Int) ∧ j ≤ L.length ∧ j ≤ 100 ∧ Hid (Ext W wr)) (fun i _ _ _ _ _ => L.length - (intOf i).toNat)
    case atStart => exact ⟨0, rfl, by omega, by omega, HXL⟩
    case round =>
      obtain ⟨j, rfl, hj, hj2, HXT⟩ := hrel
      by_cases hlt : j < L.length
      · have d1 : decide ((j : Int) < (L.length : Int)) = true := decide_eq_true (by omega)
        have d1n : decide (j < L.length) = true := decide_eq_true hlt
        by_cases hl2 : j < 100
        · have d2 : decide ((j : Int) < 100) = true := decide_eq_true (by omega)
          have d2n : decide (j < 100) = true := decide_eq_true hl2
          obtain ⟨bb, oo, hA⟩ := HE.out.base (by omega)
          subst hA
          obtain ⟨p, hp⟩ : ∃ p, L[j]? = some p := ⟨_, List.getElem?_eq_getElem hlt⟩
          obtain ⟨c0, c1, c2, c3⟩ := (HES.out wr HXT.out).1.get hp
          have HP := Lib.hid hp
          have HEP : Hid (Em W 0 W.heap.size p.1 p.2) := HE.out.each p (List.mem_of_getElem? hp)
          have HBYT := Lib.hid (ebytes_any (HEP.out.below HXT.out (Nat.le_refl _)) HXT.out.size)
          unfold Ent.at_ at HBYT
          have n1 : (0 : Int) ≤ (j : Int) := by omega
          have n2 : (j : Int) < (L.length : Int) := by omega
          clear hp
          go_wp2_with fail
          refine HBYT.out.mono ?_
          rintro x w6 ⟨hx6, (⟨hm, A8, c8, rfl, hown⟩ | ⟨hm, rfl⟩)⟩
          · have HX6 : Hid (Ext W w6) := Ext.trans HXT.out hx6
            have HM := Lib.hid hm
            have hfl : ∀ x ∈ p.1.form, x < 256 := Ent.form_lt HEP.out.bk HEP.out.bv
            have HRD := Lib.hid (read_any hown.bs (Nat.le_refl _) hfl (by have := Ent.form_len hm; omega))
            have HFL := Lib.hid hfl
            clear hx6 hm hown hfl c0 c1 c2 c3 HBYT
            go_wp2_with fail
            refine HRD.out.mono ?_
            intro x w7 hans
            obtain ⟨hx7, e, g, k, hgets, rfl, hem⟩ := read_gets HFL.out hans
            obtain ⟨rfl, rfl⟩ := Gets.is ⟨HM.out, rfl⟩ hgets
            have HX7 : Hid (Ext W w7) := Ext.trans HX6.out hx7
            have HEM := Lib.hid hem
            clear hans hx7 hgets hem HRD
            unfold Ent.at_
            go_upto_region 13 with (fail)
            obtain ⟨w8, hw8⟩ : ∃ w8, w8 = w7.alloc (.cells #[.slice g.kA p.1.key.length g.kc, .int .i64 p.1.seq, .int .i64 p.1.kind, .slice g.vA p.1.val.length g.vc] 25) := ⟨_, rfl⟩
            rw [← hw8]
            have HX78 : Hid (Ext w7 w8) := by rw [hw8]; exact ext_alloc _ _
            have HX8 : Hid (Ext W w8) := Ext.trans HX7.out HX78.out
            have HB8 : Hid (w8.heap[w7.heap.size]? = some (.cells #[.slice g.kA p.1.key.length g.kc, .int .i64 p.1.seq, .int .i64 p.1.kind, .slice g.vA p.1.val.length g.vc] 25 (0, 0))) := by rw [hw8]; exact heap_at _ _ rfl
            have a0 := cell_of HB8.out (k := 0) rfl
            have a1 := cell_of HB8.out (k := 1) rfl
            have a2 := cell_of HB8.out (k := 2) rfl
            have a3 := cell_of HB8.out (k := 3) rfl
            obtain ⟨c0, c1, c2, c3⟩ := (HES.out w8 HX8.out).1.get HP.out
            have HWW : Hid (∀ u, Ext w8 u → Em u 0 w7.heap.size p.1 g ∧ Em u 0 W.heap.size p.1 p.2 ∧ w7.heap.size ≤ u.heap.size ∧ W.heap.size ≤ u.heap.size) := fun u hu => by
              have h7 := Ext.trans HX78.out hu
              have h0 := Ext.trans HX8.out hu
              exact ⟨HEM.out.below h7 (Nat.le_refl _), HEP.out.below h0 (Nat.le_refl _), h7.size, h0.size⟩
            obtain ⟨nf, hnf⟩ : ∃ nf, nf = p.1.form.length := ⟨_, rfl⟩
            rw [← hnf]
            have HNF : Hid ((if p.1.may then (p.1.form.length : Int) else 0) = (nf : Int)) := by rw [HM.out, hnf]; rfl
            clear hw8 hnf
            refine flow (by kernel_rfl) [Is (.int .i64 (0 : Int)), Is (.int .i64 (0 : Int)), Is (.bool true), Is (.bool true), Is (.int .i64 (0 : Int)), Is (.int .i64 (0 : Int)), Is (.bool false), Is (.bool false), Is (.agg #[.slice g.kA p.1.key.length g.kc, .int .i64 p.1.seq, .int .i64 p.1.kind, .slice g.vA p.1.val.length g.vc]), Is (.slice (some ⟨bb, oo, none⟩) L.length c), Is (.int .i64 (j : Int)), Is (.pointer (some ⟨bb, oo + j * 4, none⟩)), Is (.agg #[.slice p.2.kA p.1.key.length p.2.kc, .int .i64 p.1.seq, .int .i64 p.1.kind, .slice p.2.vA p.1.val.length p.2.vc]), Is (.bool true), Is (.bool false), Is (.bool false), Is (.bool false), Is (.slice (some ⟨bb, oo, none⟩) L.length c), Is (.int .i64 (j : Int)), Is (.pointer (some ⟨bb, oo + j * 4, none⟩)), Is (.agg #[.slice p.2.kA p.1.key.length p.2.kc, .int .i64 p.1.seq, .int .i64 p.1.kind, .slice p.2.vA p.1.val.length p.2.vc]), Is (.int .i64 (nf : Int)), Is (.slice A8 nf c8), Is (.int .i64 (nf : Int)), Is (.bool false), Is (.bool false), Is (.bool false)] (by kernel_rfl) (by kernel_rfl) ?mono (fun f1 => ?obl) ?fin
            case mono =>
              simp only [List.forall_mem_cons, List.not_mem_nil, false_imp_iff, implies_true, and_true]
              exact ⟨.is _, .is _, .is _, .is _, .is _, .is _, .is _, .is _, .is _, .is _, .is _, .is _, .is _, .is _, .is _, .is _, .is _, .is _, .is _, .is _, .is _, .is _, .is _, .is _, .is _, .is _, .is _⟩
            case fin =>
              intro g1 u hu hg
              simp only [puts, Act.put, List.setIfInBounds_toArray, List.set_cons_zero, List.set_cons_succ]
              have h26 : g1 26 = .bool false := hg 26 (by decide)
              rw [h26]
              have HXU : Hid (Ext W u) := Ext.trans HX8.out (Ext.trans (Ext.drew w8) hu)
              clear h26 hg hu a0 a1 a2 a3 c0 c1 c2 c3
              go_wp2_with fail
              go_roundw
              case rel => exact ⟨j + 1, by go_num, by omega, by omega, HXU⟩
              case measure => simp [intOf]; omega
            case obl =>
              refine ⟨fun u hu hd => ?_, ?_⟩
              · go_simp
                exact ⟨Ext.refl _, rfl⟩
              refine ⟨fun u hu hd => ?_, ?_⟩
              · simp only [Act.put, List.setIfInBounds_toArray, List.set_cons_zero, List.set_cons_succ]
                have e0 : f1 0 = .int .i64 (0 : Int) := hd 0 (by kernel_rfl)
                go_simp
                refine (errnum 0 u).mono ?_
                rintro x w9 ⟨rfl, rfl⟩
                exact ⟨_, rfl, Ext.refl _, rfl⟩
              refine ⟨fun u hu hd => ?_, ?_⟩
              · simp only [Act.put, List.setIfInBounds_toArray, List.set_cons_zero, List.set_cons_succ]
                have e1 : f1 1 = .int .i64 (0 : Int) := hd 1 (by kernel_rfl)
                go_simp
                exact ⟨Ext.refl _, rfl⟩
              refine ⟨fun u hu hd => ?_, ?_⟩
              · simp only [Act.put, List.setIfInBounds_toArray, List.set_cons_zero, List.set_cons_succ]
                have e2 : f1 2 = .bool true := hd 2 (by kernel_rfl)
                go_simp
                exact ⟨Ext.refl _, rfl⟩
              refine ⟨fun u hu hd => ?_, ?_⟩
              · simp only [Act.put, List.setIfInBounds_toArray, List.set_cons_zero, List.set_cons_succ]
                have e3 : f1 3 = .bool true := hd 3 (by kernel_rfl)
                go_simp
                exact ⟨Ext.refl _, rfl⟩
              refine ⟨fun u hu hd => ?_, ?_⟩
              · simp only [Act.put, List.setIfInBounds_toArray, List.set_cons_zero, List.set_cons_succ]
                have e3 : f1 3 = .bool true := hd 3 (by kernel_rfl)
                have e4 : f1 4 = .int .i64 (0 : Int) := hd 4 (by kernel_rfl)
                go_simp
                refine (errnum 0 u).mono ?_
                rintro x w9 ⟨rfl, rfl⟩
                exact ⟨_, rfl, Ext.refl _, rfl⟩
              refine ⟨fun u hu hd => ?_, ?_⟩
              · simp only [Act.put, List.setIfInBounds_toArray, List.set_cons_zero, List.set_cons_succ]
                have e3 : f1 3 = .bool true := hd 3 (by kernel_rfl)
                have e5 : f1 5 = .int .i64 (0 : Int) := hd 5 (by kernel_rfl)
                go_simp
                exact ⟨Ext.refl _, rfl⟩
              refine ⟨fun u hu hd => ?_, ?_⟩
              · simp only [Act.put, List.setIfInBounds_toArray, List.set_cons_zero, List.set_cons_succ]
                have e3 : f1 3 = .bool true := hd 3 (by kernel_rfl)
                have e6 : f1 6 = .bool false := hd 6 (by kernel_rfl)
                go_simp
                exact ⟨Ext.refl _, rfl⟩
              refine ⟨fun u hu hd => ?_, ?_⟩
              · simp only [Act.put, List.setIfInBounds_toArray, List.set_cons_zero, List.set_cons_succ]
                have e7 : f1 7 = .bool false := hd 7 (by kernel_rfl)
                have hu2 := Ext.trans (Ext.drew w8) hu
                have q0 := ext_cell hu2 a0
                have q1 := ext_cell hu2 a1
                have q2 := ext_cell hu2 a2
                have q3 := ext_cell hu2 a3
                go_simp
                exact ⟨Ext.refl _, rfl⟩
              refine ⟨fun u hu hd => ?_, ?_⟩
              · simp only [Act.put, List.setIfInBounds_toArray, List.set_cons_zero, List.set_cons_succ]
                have e7 : f1 7 = .bool false := hd 7 (by kernel_rfl)
                go_simp
                exact ⟨Ext.refl _, rfl⟩
              refine ⟨fun u hu hd => ?_, ?_⟩
              · simp only [Act.put, List.setIfInBounds_toArray, List.set_cons_zero, List.set_cons_succ]
                have e7 : f1 7 = .bool false := hd 7 (by kernel_rfl)
                go_simp
                exact ⟨Ext.refl _, rfl⟩
              refine ⟨fun u hu hd => ?_, ?_⟩
              · simp only [Act.put, List.setIfInBounds_toArray, List.set_cons_zero, List.set_cons_succ]
                have e7 : f1 7 = .bool false := hd 7 (by kernel_rfl)
                have e9 : f1 9 = .slice (some ⟨bb, oo, none⟩) L.length c := hd 9 (by kernel_rfl)
                have e10 : f1 10 = .int .i64 (j : Int) := hd 10 (by kernel_rfl)
                go_simp
                exact ⟨Ext.refl _, rfl⟩
              refine ⟨fun u hu hd => ?_, ?_⟩
              · simp only [Act.put, List.setIfInBounds_toArray, List.set_cons_zero, List.set_cons_succ]
                have e7 : f1 7 = .bool false := hd 7 (by kernel_rfl)
                have e11 : f1 11 = .pointer (some ⟨bb, oo + j * 4, none⟩) := hd 11 (by kernel_rfl)
                have hu2 := Ext.trans (Ext.drew w8) hu
                have q0 := ext_cell hu2 c0
                have q1 := ext_cell hu2 c1
                have q2 := ext_cell hu2 c2
                have q3 := ext_cell hu2 c3
                go_simp
                exact ⟨Ext.refl _, rfl⟩
              refine ⟨fun u hu hd => ?_, ?_⟩
              · simp only [Act.put, List.setIfInBounds_toArray, List.set_cons_zero, List.set_cons_succ]
                have e7 : f1 7 = .bool false := hd 7 (by kernel_rfl)
                have e8 : f1 8 = .agg #[.slice g.kA p.1.key.length g.kc, .int .i64 p.1.seq, .int .i64 p.1.kind, .slice g.vA p.1.val.length g.vc] := hd 8 (by kernel_rfl)
                have e12 : f1 12 = .agg #[.slice p.2.kA p.1.key.length p.2.kc, .int .i64 p.1.seq, .int .i64 p.1.kind, .slice p.2.vA p.1.val.length p.2.vc] := hd 12 (by kernel_rfl)
                have hu2 := Ext.trans (Ext.drew w8) hu
                obtain ⟨m1, m2, m3, m4⟩ := HWW.out u hu2
                go_simp
                refine (rsame_any m1 m2 m3 m4).mono ?_
                rintro x w9 ⟨z, hz, rfl, hx9⟩
                have hz1 : z = true := hz.2 (by trivial)
                subst hz1
                exact ⟨_, rfl, hx9, rfl⟩
              refine ⟨fun u hu hd => ?_, ?_⟩
              · simp only [Act.put, List.setIfInBounds_toArray, List.set_cons_zero, List.set_cons_succ]
                have e7 : f1 7 = .bool false := hd 7 (by kernel_rfl)
                have e13 : f1 13 = .bool true := hd 13 (by kernel_rfl)
                go_simp
                exact ⟨Ext.refl _, rfl⟩
              refine ⟨fun u hu hd => ?_, ?_⟩
              · simp only [Act.put, List.setIfInBounds_toArray, List.set_cons_zero, List.set_cons_succ]
                have e3 : f1 3 = .bool true := hd 3 (by kernel_rfl)
                have e7 : f1 7 = .bool false := hd 7 (by kernel_rfl)
                have e14 : f1 14 = .bool false := hd 14 (by kernel_rfl)
                go_simp
                exact ⟨Ext.refl _, rfl⟩
              refine ⟨fun u hu hd => ?_, ?_⟩
              · simp only [Act.put, List.setIfInBounds_toArray, List.set_cons_zero, List.set_cons_succ]
                have e3 : f1 3 = .bool true := hd 3 (by kernel_rfl)
                have e15 : f1 15 = .bool false := hd 15 (by kernel_rfl)
                go_simp
                exact ⟨Ext.refl _, rfl⟩
              refine ⟨fun u hu hd => ?_, ?_⟩
              · simp only [Act.put, List.setIfInBounds_toArray, List.set_cons_zero, List.set_cons_succ]
                have e16 : f1 16 = .bool false := hd 16 (by kernel_rfl)
                go_simp
                exact ⟨Ext.refl _, rfl⟩
              refine ⟨fun u hu hd => ?_, ?_⟩
              · simp only [Act.put, List.setIfInBounds_toArray, List.set_cons_zero, List.set_cons_succ]
                have e16 : f1 16 = .bool false := hd 16 (by kernel_rfl)
                go_simp
                exact ⟨Ext.refl _, rfl⟩
              refine ⟨fun u hu hd => ?_, ?_⟩
              · simp only [Act.put, List.setIfInBounds_toArray, List.set_cons_zero, List.set_cons_succ]
                have e16 : f1 16 = .bool false := hd 16 (by kernel_rfl)
                have e17 : f1 17 = .slice (some ⟨bb, oo, none⟩) L.length c := hd 17 (by kernel_rfl)
                have e18 : f1 18 = .int .i64 (j : Int) := hd 18 (by kernel_rfl)
                go_simp
                exact ⟨Ext.refl _, rfl⟩
              refine ⟨fun u hu hd => ?_, ?_⟩
              · simp only [Act.put, List.setIfInBounds_toArray, List.set_cons_zero, List.set_cons_succ]
                have e16 : f1 16 = .bool false := hd 16 (by kernel_rfl)
                have e19 : f1 19 = .pointer (some ⟨bb, oo + j * 4, none⟩) := hd 19 (by kernel_rfl)
                have hu2 := Ext.trans (Ext.drew w8) hu
                have q0 := ext_cell hu2 c0
                have q1 := ext_cell hu2 c1
                have q2 := ext_cell hu2 c2
                have q3 := ext_cell hu2 c3
                go_simp
                exact ⟨Ext.refl _, rfl⟩
              refine ⟨fun u hu hd => ?_, ?_⟩
              · simp only [Act.put, List.setIfInBounds_toArray, List.set_cons_zero, List.set_cons_succ]
                have e16 : f1 16 = .bool false := hd 16 (by kernel_rfl)
                have e20 : f1 20 = .agg #[.slice p.2.kA p.1.key.length p.2.kc, .int .i64 p.1.seq, .int .i64 p.1.kind, .slice p.2.vA p.1.val.length p.2.vc] := hd 20 (by kernel_rfl)
                have hu2 := Ext.trans (Ext.drew w8) hu
                obtain ⟨m1, m2, m3, m4⟩ := HWW.out u hu2
                go_simp
                refine (size_any m2 m4).mono ?_
                rintro x w9 ⟨rfl, hx9⟩
                exact ⟨_, rfl, hx9, by rw [HNF.out]; rfl⟩
              refine ⟨fun u hu hd => ?_, ?_⟩
              · simp only [Act.put, List.setIfInBounds_toArray, List.set_cons_zero, List.set_cons_succ]
                have e16 : f1 16 = .bool false := hd 16 (by kernel_rfl)
                go_simp
                exact ⟨Ext.refl _, rfl⟩
              refine ⟨fun u hu hd => ?_, ?_⟩
              · simp only [Act.put, List.setIfInBounds_toArray, List.set_cons_zero, List.set_cons_succ]
                have e16 : f1 16 = .bool false := hd 16 (by kernel_rfl)
                have e22 : f1 22 = .slice A8 nf c8 := hd 22 (by kernel_rfl)
                go_simp
                exact ⟨Ext.refl _, rfl⟩
              refine ⟨fun u hu hd => ?_, ?_⟩
              · simp only [Act.put, List.setIfInBounds_toArray, List.set_cons_zero, List.set_cons_succ]
                have e16 : f1 16 = .bool false := hd 16 (by kernel_rfl)
                have e21 : f1 21 = .int .i64 (nf : Int) := hd 21 (by kernel_rfl)
                have e23 : f1 23 = .int .i64 (nf : Int) := hd 23 (by kernel_rfl)
                go_simp
                exact ⟨Ext.refl _, rfl⟩
              refine ⟨fun u hu hd => ?_, ?_⟩
              · simp only [Act.put, List.setIfInBounds_toArray, List.set_cons_zero, List.set_cons_succ]
                have e3 : f1 3 = .bool true := hd 3 (by kernel_rfl)
                have e16 : f1 16 = .bool false := hd 16 (by kernel_rfl)
                have e24 : f1 24 = .bool false := hd 24 (by kernel_rfl)
                go_simp
                exact ⟨Ext.refl _, rfl⟩
              refine ⟨fun u hu hd => ?_, ?_⟩
              · simp only [Act.put, List.setIfInBounds_toArray, List.set_cons_zero, List.set_cons_succ]
                have e3 : f1 3 = .bool true := hd 3 (by kernel_rfl)
                have e25 : f1 25 = .bool false := hd 25 (by kernel_rfl)
                go_simp
                exact ⟨Ext.refl _, rfl⟩
              trivial
          · have HX6 : Hid (Ext W w6) := Ext.trans HXT.out hx6
            clear hx6 hm c0 c1 c2 c3 HBYT
            go_wp2_with fail
            refine (read_any (Bs.nil w6 0 w6.heap.size) (Nat.le_refl _) (by simp) (by simp)).mono ?_
            intro x w7 hans
            obtain ⟨hx7, e, g, k, hgets, rfl, hem⟩ := read_gets (by simp) hans
            have HX7 : Hid (Ext W w7) := Ext.trans HX6.out hx7
            clear hans hx7 hgets hem
            unfold Ent.at_
            go_upto_region 13 with (fail)
            obtain ⟨w8, hw8⟩ : ∃ w8, w8 = w7.alloc (.cells #[.slice g.kA e.key.length g.kc, .int .i64 e.seq, .int .i64 e.kind, .slice g.vA e.val.length g.vc] 25) := ⟨_, rfl⟩
            rw [← hw8]
            have HX8 : Hid (Ext W w8) := Ext.trans HX7.out (by rw [hw8]; exact ext_alloc _ _)
            clear hw8
            refine flow (by kernel_rfl) [Is (.int .i64 (2 : Int)), Is (.int .i64 (2 : Int)), Is (.bool false), Is (.bool false), Is undef, Is undef, Is undef, Is undef, Is undef, Is undef, Is undef, Is undef, Is undef, Is undef, Is undef, Is undef, Is undef, Is undef, Is undef, Is undef, Is undef, Is undef, Is undef, Is undef, Is undef, Is undef, Is (.bool false)] (by kernel_rfl) (by kernel_rfl) ?mono (fun f1 => ?obl) ?fin
            case mono =>
              simp only [List.forall_mem_cons, List.not_mem_nil, false_imp_iff, implies_true, and_true]
              exact ⟨.is _, .is _, .is _, .is _, .is _, .is _, .is _, .is _, .is _, .is _, .is _, .is _, .is _, .is _, .is _, .is _, .is _, .is _, .is _, .is _, .is _, .is _, .is _, .is _, .is _, .is _, .is _⟩
            case fin =>
              intro g1 u hu hg
              simp only [puts, Act.put, List.setIfInBounds_toArray, List.set_cons_zero, List.set_cons_succ]
              have h26 : g1 26 = .bool false := hg 26 (by decide)
              rw [h26]
              have HXU : Hid (Ext W u) := Ext.trans HX8.out (Ext.trans (Ext.drew w8) hu)
              clear h26 hg hu
              go_wp2_with fail
              go_roundw
              case rel => exact ⟨j + 1, by go_num, by omega, by omega, HXU⟩
              case measure => simp [intOf]; omega
            case obl =>
              refine ⟨fun u hu hd => ?_, ?_⟩
              · go_simp
                exact ⟨Ext.refl _, rfl⟩
              refine ⟨fun u hu hd => ?_, ?_⟩
              · simp only [Act.put, List.setIfInBounds_toArray, List.set_cons_zero, List.set_cons_succ]
                have e0 : f1 0 = .int .i64 (2 : Int) := hd 0 (by kernel_rfl)
                go_simp
                refine (errnum 2 u).mono ?_
                rintro x w9 ⟨rfl, rfl⟩
                exact ⟨_, rfl, Ext.refl _, rfl⟩
              refine ⟨fun u hu hd => ?_, ?_⟩
              · simp only [Act.put, List.setIfInBounds_toArray, List.set_cons_zero, List.set_cons_succ]
                have e1 : f1 1 = .int .i64 (2 : Int) := hd 1 (by kernel_rfl)
                go_simp
                exact ⟨Ext.refl _, rfl⟩
              refine ⟨fun u hu hd => ?_, ?_⟩
              · simp only [Act.put, List.setIfInBounds_toArray, List.set_cons_zero, List.set_cons_succ]
                have e2 : f1 2 = .bool false := hd 2 (by kernel_rfl)
                go_simp
                exact ⟨Ext.refl _, rfl⟩
              refine ⟨fun u hu hd => ?_, ?_⟩
              · simp only [Act.put, List.setIfInBounds_toArray, List.set_cons_zero, List.set_cons_succ]
                have e3 : f1 3 = .bool false := hd 3 (by kernel_rfl)
                go_simp
                rfl
              refine ⟨fun u hu hd => ?_, ?_⟩
              · simp only [Act.put, List.setIfInBounds_toArray, List.set_cons_zero, List.set_cons_succ]
                have e3 : f1 3 = .bool false := hd 3 (by kernel_rfl)
                go_simp
                rfl
              refine ⟨fun u hu hd => ?_, ?_⟩
              · simp only [Act.put, List.setIfInBounds_toArray, List.set_cons_zero, List.set_cons_succ]
                have e3 : f1 3 = .bool false := hd 3 (by kernel_rfl)
                go_simp
                rfl
              refine ⟨fun u hu hd => ?_, ?_⟩
              · simp only [Act.put, List.setIfInBounds_toArray, List.set_cons_zero, List.set_cons_succ]
                have e3 : f1 3 = .bool false := hd 3 (by kernel_rfl)
                go_simp
                rfl
              refine ⟨fun u hu hd => ?_, ?_⟩
              · simp only [Act.put, List.setIfInBounds_toArray, List.set_cons_zero, List.set_cons_succ]
                have e7 : f1 7 = undef := hd 7 (by kernel_rfl)
                go_simp
                rfl
              refine ⟨fun u hu hd => ?_, ?_⟩
              · simp only [Act.put, List.setIfInBounds_toArray, List.set_cons_zero, List.set_cons_succ]
                have e7 : f1 7 = undef := hd 7 (by kernel_rfl)
                go_simp
                rfl
              refine ⟨fun u hu hd => ?_, ?_⟩
              · simp only [Act.put, List.setIfInBounds_toArray, List.set_cons_zero, List.set_cons_succ]
                have e7 : f1 7 = undef := hd 7 (by kernel_rfl)
                go_simp
                rfl
              refine ⟨fun u hu hd => ?_, ?_⟩
              · simp only [Act.put, List.setIfInBounds_toArray, List.set_cons_zero, List.set_cons_succ]
                have e7 : f1 7 = undef := hd 7 (by kernel_rfl)
                go_simp
                rfl
              refine ⟨fun u hu hd => ?_, ?_⟩
              · simp only [Act.put, List.setIfInBounds_toArray, List.set_cons_zero, List.set_cons_succ]
                have e7 : f1 7 = undef := hd 7 (by kernel_rfl)
                go_simp
                rfl
              refine ⟨fun u hu hd => ?_, ?_⟩
              · simp only [Act.put, List.setIfInBounds_toArray, List.set_cons_zero, List.set_cons_succ]
                have e7 : f1 7 = undef := hd 7 (by kernel_rfl)
                go_simp
                rfl
              refine ⟨fun u hu hd => ?_, ?_⟩
              · simp only [Act.put, List.setIfInBounds_toArray, List.set_cons_zero, List.set_cons_succ]
                have e7 : f1 7 = undef := hd 7 (by kernel_rfl)
                go_simp
                rfl
              refine ⟨fun u hu hd => ?_, ?_⟩
              · simp only [Act.put, List.setIfInBounds_toArray, List.set_cons_zero, List.set_cons_succ]
                have e3 : f1 3 = .bool false := hd 3 (by kernel_rfl)
                go_simp
                rfl
              refine ⟨fun u hu hd => ?_, ?_⟩
              · simp only [Act.put, List.setIfInBounds_toArray, List.set_cons_zero, List.set_cons_succ]
                have e3 : f1 3 = .bool false := hd 3 (by kernel_rfl)
                go_simp
                rfl
              refine ⟨fun u hu hd => ?_, ?_⟩
              · simp only [Act.put, List.setIfInBounds_toArray, List.set_cons_zero, List.set_cons_succ]
                have e16 : f1 16 = undef := hd 16 (by kernel_rfl)
                go_simp
                rfl
              refine ⟨fun u hu hd => ?_, ?_⟩
              · simp only [Act.put, List.setIfInBounds_toArray, List.set_cons_zero, List.set_cons_succ]
                have e16 : f1 16 = undef := hd 16 (by kernel_rfl)
                go_simp
                rfl
              refine ⟨fun u hu hd => ?_, ?_⟩
              · simp only [Act.put, List.setIfInBounds_toArray, List.set_cons_zero, List.set_cons_succ]
                have e16 : f1 16 = undef := hd 16 (by kernel_rfl)
                go_simp
                rfl
              refine ⟨fun u hu hd => ?_, ?_⟩
              · simp only [Act.put, List.setIfInBounds_toArray, List.set_cons_zero, List.set_cons_succ]
                have e16 : f1 16 = undef := hd 16 (by kernel_rfl)
                go_simp
                rfl
              refine ⟨fun u hu hd => ?_, ?_⟩
              · simp only [Act.put, List.setIfInBounds_toArray, List.set_cons_zero, List.set_cons_succ]
                have e16 : f1 16 = undef := hd 16 (by kernel_rfl)
                go_simp
                rfl
              refine ⟨fun u hu hd => ?_, ?_⟩
              · simp only [Act.put, List.setIfInBounds_toArray, List.set_cons_zero, List.set_cons_succ]
                have e16 : f1 16 = undef := hd 16 (by kernel_rfl)
                go_simp
                rfl
              refine ⟨fun u hu hd => ?_, ?_⟩
              · simp only [Act.put, List.setIfInBounds_toArray, List.set_cons_zero, List.set_cons_succ]
                have e16 : f1 16 = undef := hd 16 (by kernel_rfl)
                go_simp
                rfl
              refine ⟨fun u hu hd => ?_, ?_⟩
              · simp only [Act.put, List.setIfInBounds_toArray, List.set_cons_zero, List.set_cons_succ]
                have e16 : f1 16 = undef := hd 16 (by kernel_rfl)
                go_simp
                rfl
              refine ⟨fun u hu hd => ?_, ?_⟩
              · simp only [Act.put, List.setIfInBounds_toArray, List.set_cons_zero, List.set_cons_succ]
                have e3 : f1 3 = .bool false := hd 3 (by kernel_rfl)
                go_simp
                rfl
              refine ⟨fun u hu hd => ?_, ?_⟩
              · simp only [Act.put, List.setIfInBounds_toArray, List.set_cons_zero, List.set_cons_succ]
                have e3 : f1 3 = .bool false := hd 3 (by kernel_rfl)
                go_simp
                exact ⟨Ext.refl _, rfl⟩
              trivial
        · have d2 : decide ((j : Int) < 100) = false := decide_eq_false (by omega)
          have d2n : decide (j < 100) = false := decide_eq_false hl2
          clear hlt hl2 hj hj2
          by_cases hbig : 100000 < b.length
          · have hd : decide ((100000 : Int) < (b.length : Int)) = true := decide_eq_true (by omega)
            have hd2 : decide (100000 < b.length) = true := decide_eq_true hbig
            clear hbig hb63
            go_wp2_with fail
            go_ret
            exact ⟨rfl, HXT.out⟩
          have hd : decide ((100000 : Int) < (b.length : Int)) = false := decide_eq_false (by omega)
          have hd2 : decide (100000 < b.length) = false := decide_eq_false hbig
          have HBL : Hid (b.length ≤ 100000) := by unfold Hid; omega
          clear hbig
          have HRA := Lib.hid (read_any (HV.out.below HXT.out (Nat.le_refl _)) HXT.out.size HBY.out (by have := HBL.out; omega))
          go_wp2_with fail
          refine HRA.out.mono ?_
          intro x t1 hans
          obtain ⟨hx1, e, g, k, hgets, rfl, hem⟩ := read_gets HBY.out hans
          have HT1 : Hid (Ext W t1) := Ext.trans HXT.out hx1
          have HGE := Lib.hid hgets
          have HEM := Lib.hid hem
          clear hans hx1 hgets hem HRA
          unfold Ent.at_
          go_upto_region 18 with (fail)
          obtain ⟨t2, ht2⟩ : ∃ t2, t2 = t1.alloc (.cells #[.slice g.kA e.key.length g.kc, .int .i64 e.seq, .int .i64 e.kind, .slice g.vA e.val.length g.vc] 25) := ⟨_, rfl⟩
          rw [← ht2]
          have HX12 : Hid (Ext t1 t2) := by rw [ht2]; exact ext_alloc _ _
          have HB2 : Hid (t2.heap[t1.heap.size]? = some (.cells #[.slice g.kA e.key.length g.kc, .int .i64 e.seq, .int .i64 e.kind, .slice g.vA e.val.length g.vc] 25 (0, 0))) := by rw [ht2]; exact heap_at _ _ rfl
          have HBYT := Lib.hid (ebytes_any (HEM.out.below HX12.out (Nat.le_refl _)) HX12.out.size)
          unfold Ent.at_ at HBYT
          have e0 := cell_of HB2.out (k := 0) rfl
          have e1 := cell_of HB2.out (k := 1) rfl
          have e2 := cell_of HB2.out (k := 2) rfl
          have e3 := cell_of HB2.out (k := 3) rfl
          clear ht2
          go_wp2_with fail
          refine HBYT.out.mono ?_
          rintro x t3 ⟨hx3, hres⟩
          have HT3 : Hid (Ext W t3) := Ext.trans HT1.out (Ext.trans HX12.out hx3)
          clear hx3 e0 e1 e2 e3 HBYT
          rcases HGE.out with ⟨hi, hk⟩ | ⟨_, he, hk⟩
          · rcases hres with ⟨_, A8, c8, rfl, hown⟩ | ⟨hm, _⟩
            rotate_left
            · have h2 := hi.1; rw [h2] at hm; cases hm
            subst hk
            rw [hi.2] at hown ⊢
            have cv1 := cv_any hown.bs
            have cv2 := cv_any (HV.out.below HT3.out (Nat.le_refl _))
            have htt : ((tx b).toList == (tx b).toList) = true := by simp
            have htn : ((tx b).toList != (tx b).toList) = false := by simp
            clear hi hown
            go_wp2_with fail
            refine (errnum 0 _).mono ?_
            rintro x _ ⟨rfl, rfl⟩
            go_wp2_with fail
            refine (errnum 0 _).mono ?_
            rintro x _ ⟨rfl, rfl⟩
            go_upto_region 21 with (fail)
            clear cv1 cv2 htt htn
            go_wp2_with fail
            refine (elists_any (HV.out.below HT3.out (Nat.le_refl _)) HT3.out.size HBY.out (by have := HBL.out; omega)).mono ?_
            intro x t4 hans
            obtain ⟨hx4, R', A7', c7', k7', hdec, rfl, hes⟩ := lists_dec hans
            have HT4 : Hid (Ext W t4) := Ext.trans HT3.out hx4
            have HD := Lib.hid hdec
            have HLS' := Lib.hid (elist_any (c := c7') hes (Nat.le_refl _) (by have := hdec.len; rw [List.length_map] at this; omega))
            clear hans hx4 hdec hes
            go_wp2_with fail
            refine HLS'.out.mono ?_
            intro x t5 hans
            obtain ⟨hx5, A9, n9, c9, k9, rfl, hres9⟩ := list_one hans
            have HT5 : Hid (Ext W t5) := Ext.trans HT4.out hx5
            have HRES := Lib.hid hres9
            clear hans hx5 hres9 HLS'
            rcases HD.out with ⟨hl, hk7⟩ | ⟨_, _, hk7⟩
            · subst hk7
              obtain ⟨rfl, rfl, hown9⟩ : k9 = 0 ∧ n9 = (lform (R'.map Prod.fst)).length ∧ Own t4.heap.size (lform (R'.map Prod.fst)) (.slice A9 n9 c9) t5 := by
                rcases HRES.out with ⟨_, h⟩ | ⟨h, _⟩
                · exact h
                · exact absurd ⟨hl.1, hl.2.1⟩ h
              rw [hl.2.2] at hown9 ⊢
              have cv1 := cv_any hown9.bs
              have cv2 := cv_any (HV.out.below HT5.out (Nat.le_refl _))
              have htt : ((tx b).toList == (tx b).toList) = true := by simp
              clear hl hown9 HRES
              go_wp2_with fail
              refine (errnum 0 _).mono ?_
              rintro x _ ⟨rfl, rfl⟩
              go_wp2_with fail
              refine (errnum 0 _).mono ?_
              rintro x _ ⟨rfl, rfl⟩
              go_wp2_with fail
              go_ret
              exact ⟨rfl, HT5.out⟩
            · subst hk7
              go_wp2_with fail
              refine (errnum 4 _).mono ?_
              rintro x _ ⟨rfl, rfl⟩
              go_wp2_with fail
              go_ret
              exact ⟨rfl, HT5.out⟩
          · subst he hk
            rcases hres with ⟨hm, _⟩ | ⟨_, rfl⟩
            · exact absurd hm (by decide)
            go_wp2_with fail
            refine (errnum 4 _).mono ?_
            rintro x _ ⟨rfl, rfl⟩
            go_wp2_with fail
            refine (elists_any (HV.out.below HT3.out (Nat.le_refl _)) HT3.out.size HBY.out (by have := HBL.out; omega)).mono ?_
            intro x t4 hans
            obtain ⟨hx4, R', A7', c7', k7', hdec, rfl, hes⟩ := lists_dec hans
            have HT4 : Hid (Ext W t4) := Ext.trans HT3.out hx4
            have HD := Lib.hid hdec
            have HLS' := Lib.hid (elist_any (c := c7') hes (Nat.le_refl _) (by have := hdec.len; rw [List.length_map] at this; omega))
            clear hans hx4 hdec hes
            go_wp2_with fail
            refine HLS'.out.mono ?_
            intro x t5 hans
            obtain ⟨hx5, A9, n9, c9, k9, rfl, hres9⟩ := list_one hans
            have HT5 : Hid (Ext W t5) := Ext.trans HT4.out hx5
            have HRES := Lib.hid hres9
            clear hans hx5 hres9 HLS'
            rcases HD.out with ⟨hl, hk7⟩ | ⟨_, _, hk7⟩
            · subst hk7
              obtain ⟨rfl, rfl, hown9⟩ : k9 = 0 ∧ n9 = (lform (R'.map Prod.fst)).length ∧ Own t4.heap.size (lform (R'.map Prod.fst)) (.slice A9 n9 c9) t5 := by
                rcases HRES.out with ⟨_, h⟩ | ⟨h, _⟩
                · exact h
                · exact absurd ⟨hl.1, hl.2.1⟩ h
              rw [hl.2.2] at hown9 ⊢
              have cv1 := cv_any hown9.bs
              have cv2 := cv_any (HV.out.below HT5.out (Nat.le_refl _))
              have htt : ((tx b).toList == (tx b).toList) = true := by simp
              clear hl hown9 HRES
              go_wp2_with fail
              refine (errnum 0 _).mono ?_
              rintro x _ ⟨rfl, rfl⟩
              go_wp2_with fail
              refine (errnum 0 _).mono ?_
              rintro x _ ⟨rfl, rfl⟩
              go_wp2_with fail
              go_ret
              exact ⟨rfl, HT5.out⟩
            · subst hk7
              go_wp2_with fail
              refine (errnum 4 _).mono ?_
              rintro x _ ⟨rfl, rfl⟩
              go_wp2_with fail
              go_ret
              exact ⟨rfl, HT5.out⟩
      · have d1 : decide ((j : Int) < (L.length : Int)) = false := decide_eq_false (by omega)
        have d1n : decide (j < L.length) = false := decide_eq_false hlt
        clear hlt hj hj2
        by_cases hbig : 100000 < b.length
        · have hd : decide ((100000 : Int) < (b.length : Int)) = true := decide_eq_true (by omega)
          have hd2 : decide (100000 < b.length) = true := decide_eq_true hbig
          clear hbig hb63
          go_wp2_with fail
          go_ret
          exact ⟨rfl, HXT.out⟩
        have hd : decide ((100000 : Int) < (b.length : Int)) = false := decide_eq_false (by omega)
        have hd2 : decide (100000 < b.length) = false := decide_eq_false hbig
        have HBL : Hid (b.length ≤ 100000) := by unfold Hid; omega
        clear hbig
        have HRA := Lib.hid (read_any (HV.out.below HXT.out (Nat.le_refl _)) HXT.out.size HBY.out (by have := HBL.out; omega))
        go_wp2_with fail
        refine HRA.out.mono ?_
        intro x t1 hans
        obtain ⟨hx1, e, g, k, hgets, rfl, hem⟩ := read_gets HBY.out hans
        have HT1 : Hid (Ext W t1) := Ext.trans HXT.out hx1
        have HGE := Lib.hid hgets
        have HEM := Lib.hid hem
        clear hans hx1 hgets hem HRA
        unfold Ent.at_
        go_upto_region 18 with (fail)
        obtain ⟨t2, ht2⟩ : ∃ t2, t2 = t1.alloc (.cells #[.slice g.kA e.key.length g.kc, .int .i64 e.seq, .int .i64 e.kind, .slice g.vA e.val.length g.vc] 25) := ⟨_, rfl⟩
        rw [← ht2]
        have HX12 : Hid (Ext t1 t2) := by rw [ht2]; exact ext_alloc _ _
        have HB2 : Hid (t2.heap[t1.heap.size]? = some (.cells #[.slice g.kA e.key.length g.kc, .int .i64 e.seq, .int .i64 e.kind, .slice g.vA e.val.length g.vc] 25 (0, 0))) := by rw [ht2]; exact heap_at _ _ rfl
        have HBYT := Lib.hid (ebytes_any (HEM.out.below HX12.out (Nat.le_refl _)) HX12.out.size)
        unfold Ent.at_ at HBYT
        have e0 := cell_of HB2.out (k := 0) rfl
        have e1 := cell_of HB2.out (k := 1) rfl
        have e2 := cell_of HB2.out (k := 2) rfl
        have e3 := cell_of HB2.out (k := 3) rfl
        clear ht2
        go_wp2_with fail
        refine HBYT.out.mono ?_
        rintro x t3 ⟨hx3, hres⟩
        have HT3 : Hid (Ext W t3) := Ext.trans HT1.out (Ext.trans HX12.out hx3)
        clear hx3 e0 e1 e2 e3 HBYT
        rcases HGE.out with ⟨hi, hk⟩ | ⟨_, he, hk⟩
        · rcases hres with ⟨_, A8, c8, rfl, hown⟩ | ⟨hm, _⟩
          rotate_left
          · have h2 := hi.1; rw [h2] at hm; cases hm
          subst hk
          rw [hi.2] at hown ⊢
          have cv1 := cv_any hown.bs
          have cv2 := cv_any (HV.out.below HT3.out (Nat.le_refl _))
          have htt : ((tx b).toList == (tx b).toList) = true := by simp
          have htn : ((tx b).toList != (tx b).toList) = false := by simp
          clear hi hown
          go_wp2_with fail
          refine (errnum 0 _).mono ?_
          rintro x _ ⟨rfl, rfl⟩
          go_wp2_with fail
          refine (errnum 0 _).mono ?_
          rintro x _ ⟨rfl, rfl⟩
          go_upto_region 21 with (fail)
          clear cv1 cv2 htt htn
          go_wp2_with fail
          refine (elists_any (HV.out.below HT3.out (Nat.le_refl _)) HT3.out.size HBY.out (by have := HBL.out; omega)).mono ?_
          intro x t4 hans
          obtain ⟨hx4, R', A7', c7', k7', hdec, rfl, hes⟩ := lists_dec hans
          have HT4 : Hid (Ext W t4) := Ext.trans HT3.out hx4
          have HD := Lib.hid hdec
          have HLS' := Lib.hid (elist_any (c := c7') hes (Nat.le_refl _) (by have := hdec.len; rw [List.length_map] at this; omega))
          clear hans hx4 hdec hes
          go_wp2_with fail
          refine HLS'.out.mono ?_
          intro x t5 hans
          obtain ⟨hx5, A9, n9, c9, k9, rfl, hres9⟩ := list_one hans
          have HT5 : Hid (Ext W t5) := Ext.trans HT4.out hx5
          have HRES := Lib.hid hres9
          clear hans hx5 hres9 HLS'
          rcases HD.out with ⟨hl, hk7⟩ | ⟨_, _, hk7⟩
          · subst hk7
            obtain ⟨rfl, rfl, hown9⟩ : k9 = 0 ∧ n9 = (lform (R'.map Prod.fst)).length ∧ Own t4.heap.size (lform (R'.map Prod.fst)) (.slice A9 n9 c9) t5 := by
              rcases HRES.out with ⟨_, h⟩ | ⟨h, _⟩
              · exact h
              · exact absurd ⟨hl.1, hl.2.1⟩ h
            rw [hl.2.2] at hown9 ⊢
            have cv1 := cv_any hown9.bs
            have cv2 := cv_any (HV.out.below HT5.out (Nat.le_refl _))
            have htt : ((tx b).toList == (tx b).toList) = true := by simp
            clear hl hown9 HRES
            go_wp2_with fail
            refine (errnum 0 _).mono ?_
            rintro x _ ⟨rfl, rfl⟩
            go_wp2_with fail
            refine (errnum 0 _).mono ?_
            rintro x _ ⟨rfl, rfl⟩
            go_wp2_with fail
            go_ret
            exact ⟨rfl, HT5.out⟩
          · subst hk7
            go_wp2_with fail
            refine (errnum 4 _).mono ?_
            rintro x _ ⟨rfl, rfl⟩
            go_wp2_with fail
            go_ret
            exact ⟨rfl, HT5.out⟩
        · subst he hk
          rcases hres with ⟨hm, _⟩ | ⟨_, rfl⟩
          · exact absurd hm (by decide)
          go_wp2_with fail
          refine (errnum 4 _).mono ?_
          rintro x _ ⟨rfl, rfl⟩
          go_wp2_with fail
          refine (elists_any (HV.out.below HT3.out (Nat.le_refl _)) HT3.out.size HBY.out (by have := HBL.out; omega)).mono ?_
          intro x t4 hans
          obtain ⟨hx4, R', A7', c7', k7', hdec, rfl, hes⟩ := lists_dec hans
          have HT4 : Hid (Ext W t4) := Ext.trans HT3.out hx4
          have HD := Lib.hid hdec
          have HLS' := Lib.hid (elist_any (c := c7') hes (Nat.le_refl _) (by have := hdec.len; rw [List.length_map] at this; omega))
          clear hans hx4 hdec hes
          go_wp2_with fail
          refine HLS'.out.mono ?_
          intro x t5 hans
          obtain ⟨hx5, A9, n9, c9, k9, rfl, hres9⟩ := list_one hans
          have HT5 : Hid (Ext W t5) := Ext.trans HT4.out hx5
          have HRES := Lib.hid hres9
          clear hans hx5 hres9 HLS'
          rcases HD.out with ⟨hl, hk7⟩ | ⟨_, _, hk7⟩
          · subst hk7
            obtain ⟨rfl, rfl, hown9⟩ : k9 = 0 ∧ n9 = (lform (R'.map Prod.fst)).length ∧ Own t4.heap.size (lform (R'.map Prod.fst)) (.slice A9 n9 c9) t5 := by
              rcases HRES.out with ⟨_, h⟩ | ⟨h, _⟩
              · exact h
              · exact absurd ⟨hl.1, hl.2.1⟩ h
            rw [hl.2.2] at hown9 ⊢
            have cv1 := cv_any hown9.bs
            have cv2 := cv_any (HV.out.below HT5.out (Nat.le_refl _))
            have htt : ((tx b).toList == (tx b).toList) = true := by simp
            clear hl hown9 HRES
            go_wp2_with fail
            refine (errnum 0 _).mono ?_
            rintro x _ ⟨rfl, rfl⟩
            go_wp2_with fail
            refine (errnum 0 _).mono ?_
            rintro x _ ⟨rfl, rfl⟩
            go_wp2_with fail
            go_ret
            exact ⟨rfl, HT5.out⟩
          · subst hk7
            go_wp2_with fail
            refine (errnum 4 _).mono ?_
            rintro x _ ⟨rfl, rfl⟩
            go_wp2_with fail
            go_ret
            exact ⟨rfl, HT5.out⟩
end Go.Proofs.Ytfalpagimmaipaa.ikeyBack
