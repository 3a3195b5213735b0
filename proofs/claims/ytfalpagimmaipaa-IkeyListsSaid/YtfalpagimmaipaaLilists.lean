/- IkeyLists: every list has the bytes that the chapter writes, or is refused; any bytes are the one list that they are, or none. -/
import Derived.Test.YtfalpagimmaipaaItakes
import Derived.Test.YtfalpagimmaipaaIknown
import Derived.Deep.DeepCutAuto
namespace Go.Proofs.Ytfalpagimmaipaa.ikeyLists
open Go.ChangeShapes Go.WideShapes Go.ChangeAt Go.RowKit

/-- The entries of some bytes, and the error's number. -/
def Dec (b : List Nat) (es : List Ent) (k : Int) : Prop := (IsL b es ∧ k = 0) ∨ ((∀ es, ¬ IsL b es) ∧ es = [] ∧ k = 4)
theorem Dec.same {b : List Nat} {es es' : List Ent} {k k' : Int} (h : Dec b es k) (h' : Dec b es' k') : es' = es ∧ k' = k := by
  rcases h with ⟨h1, rfl⟩ | ⟨h1, rfl, rfl⟩
  · rcases h' with ⟨h2, rfl⟩ | ⟨h2, _, _⟩
    · exact ⟨h2.unique h1, rfl⟩
    · exact absurd h1 (h2 _)
  · rcases h' with ⟨h2, _⟩ | ⟨h2, rfl, rfl⟩
    · exact absurd h2 (h1 _)
    · exact ⟨rfl, rfl⟩
theorem Dec.len {b : List Nat} {es : List Ent} {k : Int} (h : Dec b es k) : es.length ≤ 65536 := by
  rcases h with ⟨h, _⟩ | ⟨_, rfl, _⟩
  · exact h.1
  · simp
theorem Got.es {B : Nat} {A : Option Addr} {c : Nat} {R : List (Ent × Hd)} {w : World} (h : Got B (.slice A R.length c) R w) : Es w 0 w.heap.size A R := by
  refine ⟨?_, fun p hp => (h.each p hp).em⟩
  rcases h.row.2 with ⟨h1, h2⟩ | ⟨g, cap, cur, hv, hg, hh, r⟩
  · injection h1 with e1 e2 _
    have : R = [] := List.eq_nil_of_length_eq_zero e2
    subst this; exact Sl.nil _ _ _ _
  · injection hv with e1 _ _
    subst e1
    refine .inr ⟨g, 0, rfl, Nat.zero_le _, (Array.getElem?_eq_some_iff.1 hh).1, fun i u hu => ?_⟩
    have := h.row.cells (g := g) rfl i u hu
    rwa [addr_add] at this
theorem lists_dec {w : World} {b : List Nat} {x : Ending} {w' : World} (h : ListsAns w b x w') : Ext w w' ∧ ∃ (R : List (Ent × Hd)) (A : Option Addr) (c : Nat) (k : Int), Dec b (R.map Prod.fst) k ∧ x = .returned (.tuple #[.slice A R.length c, .int .i64 k]) ∧ Es w' 0 w'.heap.size A R := by
  obtain ⟨hx, (⟨R, v, h1, rfl, h3⟩ | ⟨h1, rfl⟩)⟩ := h
  · obtain ⟨A, c, rfl⟩ := h3.slice
    exact ⟨hx, R, A, c, 0, .inl ⟨h1, rfl⟩, rfl, Got.es h3⟩
  · exact ⟨hx, [], none, 0, 4, .inr ⟨h1, rfl, rfl⟩, rfl, ⟨Sl.nil _ _ _ _, fun p hp => by cases hp⟩⟩
theorem rlists_dec {w : World} {b : List Nat} {x : Ending} {w' : World} (h : RListsAns w b x w') : Ext w w' ∧ ∃ (R : List (Ent × Hd)) (A : Option Addr) (c : Nat) (k : Int), Dec b (R.map Prod.fst) k ∧ x = .returned (.tuple #[.slice A R.length c, .int .i64 k]) ∧ Es w' 0 w'.heap.size A R := by
  obtain ⟨hx, (⟨R, A, c, h1, rfl, h3⟩ | ⟨h1, rfl⟩)⟩ := h
  · exact ⟨hx, R, A, c, 0, .inl ⟨h1, rfl⟩, rfl, h3⟩
  · exact ⟨hx, [], none, 0, 4, .inr ⟨h1, rfl, rfl⟩, rfl, ⟨Sl.nil _ _ _ _, fun p hp => by cases hp⟩⟩
/-- May the list be? -/
def MayL (es : List Ent) : Prop := es.length ≤ 65536 ∧ ∀ e ∈ es, e.may = true
theorem list_one {w : World} {es : List Ent} {x : Ending} {w' : World} (h : ListAns w es x w') : Ext w w' ∧ ∃ (A : Option Addr) (n c : Nat) (k : Int), x = .returned (.tuple #[.slice A n c, .int .i64 k]) ∧
    ((MayL es ∧ k = 0 ∧ n = (lform es).length ∧ Own w.heap.size (lform es) (.slice A n c) w') ∨ (¬ MayL es ∧ A = none ∧ n = 0 ∧ c = 0 ∧ k = 2)) := by
  obtain ⟨hx, (⟨h1, h2, v, rfl, h3⟩ | ⟨h1, rfl⟩)⟩ := h
  · obtain ⟨A, c, rfl⟩ := h3.slice
    exact ⟨hx, A, _, c, 0, rfl, .inl ⟨⟨h1, h2⟩, rfl, rfl, h3⟩⟩
  · exact ⟨hx, none, 0, 0, 2, rfl, .inr ⟨h1, rfl, rfl, rfl, rfl⟩⟩

set_option maxRecDepth 100000 in
set_option maxHeartbeats 8000000 in
theorem walk (W : World) (A : Option Addr) (c : Nat) (L : List (Ent × Hd)) (_hlc : L.length ≤ c) (_hc : c ≤ maxLen) (hE : Es W 0 W.heap.size A L) (hln : ∀ p ∈ L, p.1.key.length ≤ 140737488351232 ∧ p.1.val.length ≤ 140737488351232) (hn : L.length ≤ 2199023255552)
    (v : Value) (b : List Nat) (hv : Bs W 0 W.heap.size v b) (hb : ∀ x ∈ b, x < 256) :
    Calls Try.prog 8 #[.slice A L.length c, v] W fun e w' => e = .returned (.bool true) ∧ Below W.heap.size W w' := by
  have HV := Lib.hid hv
  have HE := Lib.hid hE
  have HBY := Lib.hid hb
  have HMU := Lib.hid (much_any (c := c) hE (Nat.le_refl _) (by omega) hln)
  obtain ⟨B, d, rfl, _, q2, _, _⟩ := hv
  have hb63 : b.length ≤ 9223372036854775807 := by unfold maxLen at q2; omega
  clear hE hln hn hb q2 _hlc _hc
  go_enter Try.func8, Try.ntmps8
  go_wp2_with fail
  refine HMU.out.mono ?_
  rintro x w2 ⟨z, hz, rfl, hx2⟩
  have HZ := Lib.hid hz
  have HX2 : Hid (Ext W w2) := hx2
  clear hz hx2
  rcases z with _ | _
  rotate_left
  · go_wp2_with fail
    refine (known_any w2).mono ?_
    rintro x w3 ⟨rfl, hx3⟩
    have HX3 := Lib.hid (Ext.trans HX2.out hx3)
    clear hx3
    go_wp2_with fail
    go_ret
    exact ⟨rfl, HX3.out⟩
  by_cases hbig : 100000 < b.length
  · have hd : decide ((100000 : Int) < (b.length : Int)) = true := decide_eq_true (by omega)
    have hd2 : decide (100000 < b.length) = true := decide_eq_true hbig
    clear hbig hb63
    go_wp2_with fail
    refine (known_any w2).mono ?_
    rintro x w3 ⟨rfl, hx3⟩
    have HX3 := Lib.hid (Ext.trans HX2.out hx3)
    clear hx3
    go_wp2_with fail
    go_ret
    exact ⟨rfl, HX3.out⟩
  have hd : decide ((100000 : Int) < (b.length : Int)) = false := decide_eq_false (by omega)
  have hd2 : decide (100000 < b.length) = false := decide_eq_false hbig
  have HBL : Hid (b.length ≤ 100000) := by unfold Hid; omega
  have hLL : L.length ≤ 100000 := (HZ.out rfl).1
  have HLL := Lib.hid hLL
  have HES : Hid (∀ u, Ext W u → Es u 0 W.heap.size A L ∧ W.heap.size ≤ u.heap.size) := fun u hu => ⟨HE.out.below hu (Nat.le_refl _), hu.size⟩
  have HLI := Lib.hid (elist_any (c := c) (HES.out w2 HX2.out).1 (HES.out w2 HX2.out).2 (by omega))
  clear hbig hb63 HMU
  go_wp2_with fail
  refine HLI.out.mono ?_
  intro x w3 hans
  obtain ⟨hx3, A5, n5, c5, k5, rfl, hres⟩ := list_one hans
  have HX3 : Hid (Ext W w3) := Ext.trans HX2.out hx3
  have HRES := Lib.hid hres
  clear hans hx3 hres HLI
  go_wp2_with fail
  refine (elists_any (HV.out.below HX3.out (Nat.le_refl _)) HX3.out.size HBY.out (by have := HBL.out; omega)).mono ?_
  intro x w4 hans
  obtain ⟨hx4, R, A7, c7, k7, hdec, rfl, hes⟩ := lists_dec hans
  have HX34 : Hid (Ext w3 w4) := hx4
  have HX4 : Hid (Ext W w4) := Ext.trans HX3.out hx4
  have HD7 := Lib.hid hdec
  have HE7 := Lib.hid hes
  clear hans hx4 hdec hes
  go_wp2_with fail
  refine (rlists_any (HV.out.below HX4.out (Nat.le_refl _)) HX4.out.size HBY.out (by have := HBL.out; omega)).mono ?_
  intro x w5 hans
  obtain ⟨hx5, R9, A9, c9, k9, hdec, rfl, hes⟩ := rlists_dec hans
  have HX45 : Hid (Ext w4 w5) := hx5
  have HX5 : Hid (Ext W w5) := Ext.trans HX4.out hx5
  obtain ⟨hsame, rfl⟩ := HD7.out.same hdec
  have HSAME := Lib.hid hsame
  have HE9 := Lib.hid hes
  have HL7 : Hid (R.length ≤ 65536 ∧ R9.length ≤ 65536) := by
    have h1 := HD7.out.len; have h2 := hdec.len
    rw [List.length_map] at h1 h2
    exact ⟨h1, h2⟩
  have HSL : Hid (∀ u, Ext w5 u → Calls Try.prog 33 #[.slice A7 R.length c7, .slice A9 R9.length c9] u fun x w' => x = .returned (.bool true) ∧ Ext u w') := fun u hu => by
    refine (rsamelist_any (c := c7) (c2 := c9) (HE7.out.below (Ext.trans HX45.out hu) (Nat.le_refl _)) (HE9.out.below hu (Nat.le_refl _)) (Ext.trans HX45.out hu).size hu.size (by have := HL7.out; omega) (by have := HL7.out; omega)).mono ?_
    rintro x w' ⟨z, hz, rfl, hx⟩
    rw [hz.2 HSAME.out.symm]
    exact ⟨rfl, hx⟩
  clear hans hx5 hdec hes hsame HD7 HE7 HE9 HSAME
  have kk : (k9 != k9) = false := by simp
  obtain ⟨m0, hm0⟩ : ∃ m0, m0 = decide (L.length ≤ 65536) := ⟨_, rfl⟩
  have dm : decide ((L.length : Int) ≤ 65536) = m0 := by rw [hm0]; exact decide_eq_decide.2 (by omega)
  have dmn : decide (L.length ≤ 65536) = m0 := hm0.symm
  have HM0 := Lib.hid hm0
  clear hm0
  go_upto_region 8 with (fail)
  go_loopw [11, 12] (fun a i wr => ∃ (m : Bool) (j : Nat), a = .bool m ∧ i = .int .i64 (j : Int) ∧ j ≤ L.length ∧ Hid (m = true → L.length ≤ 65536 ∧ (L.take j).all (fun p => p.1.may) = true) ∧ Hid (m = false → ¬ MayL (L.map Prod.fst)) ∧ Hid (Ext w5 wr)) (fun _ i _ => L.length - (intOf i).toNat)
  case atStart => exact ⟨m0, 0, rfl, rfl, by omega, Lib.hid (fun h => ⟨of_decide_eq_true (HM0.out.symm.trans h), by simp⟩), Lib.hid (fun h hl => absurd (by have := hl.1; rwa [List.length_map] at this) (of_decide_eq_false (HM0.out.symm.trans h))), Lib.hid (Ext.refl _)⟩
  case round =>
    clear dm dmn HM0
    obtain ⟨m, j, rfl, rfl, hj, HT, HF, HXR⟩ := hrel
    by_cases hlt : j < L.length
    · have d1 : decide ((j : Int) < (L.length : Int)) = true := decide_eq_true (by omega)
      have d1n : decide (j < L.length) = true := decide_eq_true hlt
      cases m with
      | false =>
        have HNM := Lib.hid (HF.out rfl)
        clear HT HF hlt hj
        go_wp2_with fail
        refine (HSL.out wr HXR.out).mono ?_
        rintro x w6 ⟨rfl, hx6⟩
        have HX6 : Hid (Ext w5 w6) := Ext.trans HXR.out hx6
        clear hx6
        go_wp2_with fail
        refine (errnum k9 _).mono ?_
        rintro x _ ⟨rfl, rfl⟩
        obtain ⟨rfl, rfl, rfl, rfl⟩ : A5 = none ∧ n5 = 0 ∧ c5 = 0 ∧ k5 = 2 := by
          rcases HRES.out with ⟨h, _⟩ | ⟨_, h⟩
          · exact absurd h HNM.out
          · exact h
        go_wp2_with fail
        refine (errnum 2 _).mono ?_
        rintro x _ ⟨rfl, rfl⟩
        go_wp2_with fail
        refine (known_any w6).mono ?_
        rintro x w7 ⟨rfl, hx7⟩
        have HX7 := Lib.hid (Ext.trans HX5.out (Ext.trans HX6.out hx7))
        clear hx7
        go_wp2_with fail
        go_ret
        exact ⟨rfl, HX7.out⟩
      | true =>
        obtain ⟨bb, oo, hA⟩ := HE.out.base (by omega)
        subst hA
        obtain ⟨p, hp⟩ : ∃ p, L[j]? = some p := ⟨_, List.getElem?_eq_getElem hlt⟩
        obtain ⟨c0, c1, c2, c3⟩ := (HES.out wr (Ext.trans HX5.out HXR.out)).1.get hp
        have HP := Lib.hid hp
        have n1 : (0 : Int) ≤ (j : Int) := by omega
        have n2 : (j : Int) < (L.length : Int) := by omega
        clear hp
        go_wp2_with fail
        refine (rmay_any _ _ _ _ _ _ _ _ wr).mono ?_
        rintro x w6 ⟨rfl, hx6⟩
        have HX6 : Hid (Ext w5 w6) := Ext.trans HXR.out hx6
        clear hx6 c0 c1 c2 c3
        obtain ⟨z, hz⟩ : ∃ z, z = mayN p.1.key.length p.1.seq p.1.kind p.1.val.length := ⟨_, rfl⟩
        rw [← hz]
        have HZM := Lib.hid hz
        clear hz
        go_wp2_with fail
        go_roundw
        case rel => exact ⟨z, j + 1, rfl, by go_num, by omega, Lib.hid (fun h => ⟨(HT.out (by trivial)).1, all_next (f := fun p : Ent × Hd => p.1.may) (HT.out (by trivial)).2 HP.out (HZM.out.symm.trans h)⟩), Lib.hid (fun h hl => by
          have h1 := hl.2 p.1 (List.mem_map_of_mem (List.mem_of_getElem? HP.out))
          have h2 : p.1.may = false := HZM.out.symm.trans h
          rw [h1] at h2; cases h2), HX6⟩
        case measure => simp [intOf]; omega
    · have d1 : decide ((j : Int) < (L.length : Int)) = false := decide_eq_false (by omega)
      have d1n : decide (j < L.length) = false := decide_eq_false hlt
      cases m with
      | false =>
        have HNM := Lib.hid (HF.out rfl)
        clear HT HF hlt hj
        go_wp2_with fail
        refine (HSL.out wr HXR.out).mono ?_
        rintro x w6 ⟨rfl, hx6⟩
        have HX6 : Hid (Ext w5 w6) := Ext.trans HXR.out hx6
        clear hx6
        go_wp2_with fail
        refine (errnum k9 _).mono ?_
        rintro x _ ⟨rfl, rfl⟩
        obtain ⟨rfl, rfl, rfl, rfl⟩ : A5 = none ∧ n5 = 0 ∧ c5 = 0 ∧ k5 = 2 := by
          rcases HRES.out with ⟨h, _⟩ | ⟨_, h⟩
          · exact absurd h HNM.out
          · exact h
        go_wp2_with fail
        refine (errnum 2 _).mono ?_
        rintro x _ ⟨rfl, rfl⟩
        go_wp2_with fail
        refine (known_any w6).mono ?_
        rintro x w7 ⟨rfl, hx7⟩
        have HX7 := Lib.hid (Ext.trans HX5.out (Ext.trans HX6.out hx7))
        clear hx7
        go_wp2_with fail
        go_ret
        exact ⟨rfl, HX7.out⟩
      | true =>
        have HYM : Hid (MayL (L.map Prod.fst)) := by
          obtain ⟨h1, h2⟩ := HT.out rfl
          rw [List.take_of_length_le (by omega), List.all_eq_true] at h2
          exact ⟨by rw [List.length_map]; exact h1, fun e he => by obtain ⟨p, hp, rfl⟩ := List.mem_map.1 he; exact h2 p hp⟩
        clear HT HF hlt hj
        go_wp2_with fail
        refine (HSL.out wr HXR.out).mono ?_
        rintro x w6 ⟨rfl, hx6⟩
        have HX6 : Hid (Ext w5 w6) := Ext.trans HXR.out hx6
        clear hx6
        go_wp2_with fail
        refine (errnum k9 _).mono ?_
        rintro x _ ⟨rfl, rfl⟩
        obtain ⟨rfl, rfl, hown⟩ : k5 = 0 ∧ n5 = (lform (L.map Prod.fst)).length ∧ Own w2.heap.size (lform (L.map Prod.fst)) (.slice A5 n5 c5) w3 := by
          rcases HRES.out with ⟨_, h⟩ | ⟨h, _⟩
          · exact h
          · exact absurd HYM.out h
        have HO := Lib.hid (hown.below (Ext.trans HX34.out (Ext.trans HX45.out HX6.out)))
        have HXW6 : Hid (Ext W w6) := Ext.trans HX5.out HX6.out
        have HCV : Hid (∀ u, Ext w6 u → (convert 22 9 (.slice A5 (lform (L.map Prod.fst)).length c5)).run Try.prog u = .ok (.string (tx (lform (L.map Prod.fst)))) u) := fun u hu => cv_any ((HO.out.below hu).bs)
        clear hown HRES
        obtain ⟨F, hF⟩ : ∃ F, F = lform (L.map Prod.fst) := ⟨_, rfl⟩
        have HRL : Hid (∀ u, Ext w6 u → Calls Try.prog 34 #[.slice A L.length c] u fun x w' => ∃ v, x = .returned v ∧ Own u.heap.size F v w' ∧ Ext u w') := fun u hu => by
          rw [hF]
          exact rlist_any (c := c) (HES.out u (Ext.trans HXW6.out hu)).1 (HES.out u (Ext.trans HXW6.out hu)).2 (by have := HLL.out; omega) HYM.out.2
        rw [← hF] at HCV HO ⊢
        have htt : ((tx F).toList == (tx F).toList) = true := by simp
        clear hF
        go_upto_region 15 with (fail)
        refine flow (by kernel_rfl) [Is (.slice A5 F.length c5), Is (.string (tx F)), Is (.slice A L.length c), Own w6.heap.size F, Is (.string (tx F)), Is (.bool true), Is (.bool true), Is (.int .i64 (0 : Int)), Is (.int .i64 0), Is (.bool true), Is (.bool true), Is (.bool true), Is (.bool true), Is (.bool true), Is (.bool true)] (by kernel_rfl) (by kernel_rfl) ?mono (fun f1 => ?obl) ?fin
        case mono =>
          simp only [List.forall_mem_cons, List.not_mem_nil, false_imp_iff, implies_true, and_true]
          exact ⟨.is _, .is _, .is _, .own _ _, .is _, .is _, .is _, .is _, .is _, .is _, .is _, .is _, .is _, .is _, .is _⟩
        case fin =>
          intro g1 u hu hg
          simp only [puts, Act.put, List.setIfInBounds_toArray, List.set_cons_zero, List.set_cons_succ]
          have h14 : g1 14 = .bool true := hg 14 (by decide)
          rw [h14]
          have HU := Lib.hid (Ext.trans HXW6.out (Ext.trans (Ext.drew w6) hu))
          clear h14 hg hu
          go_wp2_with fail
          go_ret
          exact ⟨rfl, HU.out⟩
        case obl =>
          refine ⟨fun u hu hd => ?_, ?_⟩
          · go_simp
            exact ⟨Ext.refl _, rfl⟩
          refine ⟨fun u hu hd => ?_, ?_⟩
          · simp only [Act.put, List.setIfInBounds_toArray, List.set_cons_zero, List.set_cons_succ]
            have e0 : f1 0 = .slice A5 F.length c5 := hd 0 (by kernel_rfl)
            have hu2 := Ext.trans (Ext.drew w6) hu
            have cv := HCV.out u hu2
            go_simp
            exact ⟨Ext.refl _, rfl⟩
          refine ⟨fun u hu hd => ?_, ?_⟩
          · simp only [Act.put, List.setIfInBounds_toArray, List.set_cons_zero, List.set_cons_succ]
            go_simp
            exact ⟨Ext.refl _, rfl⟩
          refine ⟨fun u hu hd => ?_, ?_⟩
          · simp only [Act.put, List.setIfInBounds_toArray, List.set_cons_zero, List.set_cons_succ]
            have e2 : f1 2 = .slice A L.length c := hd 2 (by kernel_rfl)
            have hu2 := Ext.trans (Ext.drew w6) hu
            go_simp
            refine (HRL.out u hu2).mono ?_
            rintro x w9 ⟨v9, rfl, hown, hx9⟩
            exact ⟨_, rfl, hx9, hown.base hu2.size⟩
          refine ⟨fun u hu hd => ?_, ?_⟩
          · simp only [Act.put, List.setIfInBounds_toArray, List.set_cons_zero, List.set_cons_succ]
            have h3 : Own w6.heap.size F (f1 3) u := hd 3 (by kernel_rfl)
            obtain ⟨X, dd, e3⟩ := h3.slice
            rw [e3] at h3
            have cv := cv_any h3.bs
            have H3 := Lib.hid h3
            clear h3
            go_simp
            exact ⟨Ext.refl _, rfl⟩
          refine ⟨fun u hu hd => ?_, ?_⟩
          · simp only [Act.put, List.setIfInBounds_toArray, List.set_cons_zero, List.set_cons_succ]
            have e1 : f1 1 = .string (tx F) := hd 1 (by kernel_rfl)
            have e4 : f1 4 = .string (tx F) := hd 4 (by kernel_rfl)
            go_simp
            exact ⟨Ext.refl _, rfl⟩
          refine ⟨fun u hu hd => ?_, ?_⟩
          · simp only [Act.put, List.setIfInBounds_toArray, List.set_cons_zero, List.set_cons_succ]
            have e5 : f1 5 = .bool true := hd 5 (by kernel_rfl)
            go_simp
            exact ⟨Ext.refl _, rfl⟩
          refine ⟨fun u hu hd => ?_, ?_⟩
          · simp only [Act.put, List.setIfInBounds_toArray, List.set_cons_zero, List.set_cons_succ]
            have e6 : f1 6 = .bool true := hd 6 (by kernel_rfl)
            go_simp
            exact ⟨Ext.refl _, rfl⟩
          refine ⟨fun u hu hd => ?_, ?_⟩
          · simp only [Act.put, List.setIfInBounds_toArray, List.set_cons_zero, List.set_cons_succ]
            have e6 : f1 6 = .bool true := hd 6 (by kernel_rfl)
            have e7 : f1 7 = .int .i64 (0 : Int) := hd 7 (by kernel_rfl)
            go_simp
            refine (errnum 0 u).mono ?_
            rintro x w9 ⟨rfl, rfl⟩
            exact ⟨_, rfl, Ext.refl _, rfl⟩
          refine ⟨fun u hu hd => ?_, ?_⟩
          · simp only [Act.put, List.setIfInBounds_toArray, List.set_cons_zero, List.set_cons_succ]
            have e6 : f1 6 = .bool true := hd 6 (by kernel_rfl)
            have e8 : f1 8 = .int .i64 0 := hd 8 (by kernel_rfl)
            go_simp
            exact ⟨Ext.refl _, rfl⟩
          refine ⟨fun u hu hd => ?_, ?_⟩
          · simp only [Act.put, List.setIfInBounds_toArray, List.set_cons_zero, List.set_cons_succ]
            have e6 : f1 6 = .bool true := hd 6 (by kernel_rfl)
            have e9 : f1 9 = .bool true := hd 9 (by kernel_rfl)
            go_simp
            exact ⟨Ext.refl _, rfl⟩
          refine ⟨fun u hu hd => ?_, ?_⟩
          · simp only [Act.put, List.setIfInBounds_toArray, List.set_cons_zero, List.set_cons_succ]
            have e10 : f1 10 = .bool true := hd 10 (by kernel_rfl)
            go_simp
            exact ⟨Ext.refl _, rfl⟩
          refine ⟨fun u hu hd => ?_, ?_⟩
          · simp only [Act.put, List.setIfInBounds_toArray, List.set_cons_zero, List.set_cons_succ]
            have e11 : f1 11 = .bool true := hd 11 (by kernel_rfl)
            go_simp
            refine (known_any u).mono ?_
            rintro x w9 ⟨rfl, hx9⟩
            exact ⟨_, rfl, hx9, rfl⟩
          refine ⟨fun u hu hd => ?_, ?_⟩
          · simp only [Act.put, List.setIfInBounds_toArray, List.set_cons_zero, List.set_cons_succ]
            have e11 : f1 11 = .bool true := hd 11 (by kernel_rfl)
            have e12 : f1 12 = .bool true := hd 12 (by kernel_rfl)
            go_simp
            exact ⟨Ext.refl _, rfl⟩
          refine ⟨fun u hu hd => ?_, ?_⟩
          · simp only [Act.put, List.setIfInBounds_toArray, List.set_cons_zero, List.set_cons_succ]
            have e13 : f1 13 = .bool true := hd 13 (by kernel_rfl)
            go_simp
            exact ⟨Ext.refl _, rfl⟩
          trivial
end Go.Proofs.Ytfalpagimmaipaa.ikeyLists
