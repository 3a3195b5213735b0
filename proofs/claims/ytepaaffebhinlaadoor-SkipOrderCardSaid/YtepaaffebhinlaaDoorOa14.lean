/- Ssame Lsorder, joined. -/
import Derived.Test.YtepaaffebhinlaaDoorOa13
import Derived.Test.YtepaaffebhinlaaDoorOa7
import Derived.Test.YtepaaffebhinlaaDoorOa11
import Derived.Test.YtepaaffebhinlaaDoorOa9

/- skip's Same. -/
namespace Go.Proofs.YtepaaffebhinlaaDoor
open Go.ChangeShapes Go.WideShapes Go.ChangeAt Go.RowKit

theorem Sk.tow {w : World} {D : Nat → Prop} {lb hb : Nat} {T : List Tw} (h : Sk w D lb hb T) {i : Nat} {t : Tw} (hi : T[i]? = some t) : ∃ (g : Hd) (born : Int), w.heap[t.b]? = some (.cells (tcells t g born (T.drop (i + 1))) 63 (0, 0)) ∧ Em w 0 w.heap.size t.e g := by
  obtain ⟨g, born, h1, _, _, h4⟩ := Tm.em (h.chain (i + 1) t (by simpa using hi)) (h.ins t (List.mem_of_getElem? hi))
  exact ⟨g, born, by simpa using h1, h4⟩
theorem Sk.tall {w : World} {D : Nat → Prop} {lb hb : Nat} {T : List Tw} (h : Sk w D lb hb T) : ∀ t ∈ T, 1 ≤ t.h := fun t ht => by
  have h1 := h.hts t ht
  have h2 := hgt_le t.e.key t.e.seq
  omega
theorem Sk.nx {w : World} {D : Nat → Prop} {lb hb : Nat} {T : List Tw} (h : Sk w D lb hb T) (i : Nat) : nxt 0 (T.drop i) = (T[i]?).map Tw.b := by
  rw [nxt_first (fun t ht => h.tall t (List.mem_of_mem_drop ht)), List.head?_drop]
theorem Sk.first {w : World} {D : Nat → Prop} {lb hb : Nat} {T : List Tw} (h : Sk w D lb hb T) : w.cell? ⟨hb, 5, none⟩ = some (optp (nxt 0 T)) := by
  obtain ⟨_, g, born, h1, _⟩ := h.chain 0 (headT hb) rfl
  exact cell_of h1 (k := 5) rfl
theorem tow_next {t : Tw} (h : 1 ≤ t.h) (R : List Tw) : nextOf t R 0 = optp (nxt 0 R) := by unfold nextOf; rw [if_pos (by omega)]
theorem take_same {T T' : List Tw} {i : Nat} {t t' : Tw} (h : (T.take i).map Tw.e = (T'.take i).map Tw.e) (ht : T[i]? = some t) (ht' : T'[i]? = some t') : ((T.take (i + 1)).map Tw.e = (T'.take (i + 1)).map Tw.e ↔ t.e = t'.e) := by
  rw [List.take_add_one, List.take_add_one, ht, ht', List.map_append, List.map_append, h]
  simp
theorem not_same {T T' : List Tw} {i : Nat} {t t' : Tw} (ht : T[i]? = some t) (ht' : T'[i]? = some t') (hne : t.e ≠ t'.e) : T.map Tw.e ≠ T'.map Tw.e := fun h => by
  have h1 := congrArg (fun l : List Ent => l[i]?) h
  simp [ht, ht'] at h1
  exact hne h1

set_option maxRecDepth 100000 in
set_option maxHeartbeats 16000000 in
theorem ssame_any {w : World} {D D' : Nat → Prop} {lb hb lb' hb' : Nat} {T T' : List Tw} (h : Sk w D lb hb T) (h' : Sk w D' lb' hb' T') :
    Calls Tryd.prog 12 #[.pointer (some ⟨lb, 0, none⟩), .pointer (some ⟨lb', 0, none⟩)] w fun e w' => ∃ z : Bool, (z = true ↔ T.map Tw.e = T'.map Tw.e) ∧ e = .returned (.bool z) ∧ Ext w w' := by
  have HA := Lib.hid h
  have HB := Lib.hid h'
  have HN1 := Lib.hid (none_no h.list)
  have HN2 := Lib.hid (none_no h'.list)
  have l0 := cell_of (v := .pointer (some ⟨hb, 0, none⟩)) h.list (k := 0) rfl
  have m0 := cell_of (v := .pointer (some ⟨hb', 0, none⟩)) h'.list (k := 0) rfl
  have l5 := h.first
  have m5 := h'.first
  obtain ⟨xa, hxa⟩ : ∃ xa, xa = optp (nxt 0 T) := ⟨_, rfl⟩
  obtain ⟨xb, hxb⟩ : ∃ xb, xb = optp (nxt 0 T') := ⟨_, rfl⟩
  have HXA := Lib.hid hxa
  have HXB := Lib.hid hxb
  rw [← hxa] at l5
  rw [← hxb] at m5
  clear h h' hxa hxb
  go_enter Tryd.func12, Tryd.ntmps12
  go_wp2_with fail
  refine Calls.mono HN1.out ?_
  rintro e w' ⟨rfl, hw'⟩
  have hw' := hw'.symm
  subst hw'
  go_wp2_with fail
  refine Calls.mono HN2.out ?_
  rintro e w' ⟨rfl, hw'⟩
  have hw' := hw'.symm
  subst hw'
  go_upto_region 3 with (fail)
  refine flow (by kernel_rfl) [Is (.pointer (some ⟨lb, 0, none⟩)), Is (.pointer (some ⟨lb, 0, none⟩)), Is (.pointer (some ⟨lb, 0, none⟩)), Is (.pointer (some ⟨hb, 0, none⟩)), Is (.pointer (some ⟨hb, 0, none⟩)), Is (.pointer (some ⟨hb, 5, none⟩)), Is (.pointer (some ⟨hb, 5 + 0, none⟩)), Is (xa), Is (.pointer (some ⟨lb', 0, none⟩)), Is (.pointer (some ⟨lb', 0, none⟩)), Is (.pointer (some ⟨lb', 0, none⟩)), Is (.pointer (some ⟨hb', 0, none⟩)), Is (.pointer (some ⟨hb', 0, none⟩)), Is (.pointer (some ⟨hb', 5, none⟩)), Is (.pointer (some ⟨hb', 5 + 0, none⟩)), Is (xb), Is (xa), Is (xb)] (by kernel_rfl) (by kernel_rfl) ?mono (fun f1 => ?obl) ?fin
  case mono =>
    simp only [List.forall_mem_cons, List.not_mem_nil, false_imp_iff, implies_true, and_true]
    exact ⟨.is _, .is _, .is _, .is _, .is _, .is _, .is _, .is _, .is _, .is _, .is _, .is _, .is _, .is _, .is _, .is _, .is _, .is _⟩
  case fin =>
    intro g1 w1 hu hg
    simp only [puts, Act.put, List.setIfInBounds_toArray, List.set_cons_zero, List.set_cons_succ]
    have h16 : g1 16 = xa := hg 16 (by decide)
    have h17 : g1 17 = xb := hg 17 (by decide)
    rw [h16, h17]
    have HX1 : Hid (Ext w w1) := Ext.trans (Ext.drew w) hu
    clear h16 h17 hg hu l0 m0 l5 m5
    go_wp2_with fail
    go_loopg [5, 6] (T.length + 1) (fun k a b wr => ∃ i : Nat, i ≤ T.length ∧ i ≤ T'.length ∧ k + i = T.length + 1 ∧ a = optp (nxt 0 (T.drop i)) ∧ b = optp (nxt 0 (T'.drop i)) ∧ Hid ((T.take i).map Tw.e = (T'.take i).map Tw.e) ∧ Hid (Ext w wr))
    case atStart => exact ⟨0, Nat.zero_le _, Nat.zero_le _, rfl, HXA.out, HXB.out, Lib.hid rfl, HX1⟩
    case round =>
      obtain ⟨i, hi, hi', hki, rfl, rfl, HT, HX⟩ := hrel
      rw [HA.out.nx, HB.out.nx]
      have HKI := Lib.hid hki
      cases ht : T[i]? with
      | none =>
        have HTL : Hid (T.length = i) := by have := List.getElem?_eq_none_iff.1 ht; unfold Hid; omega
        cases ht' : T'[i]? with
        | none =>
          have HTL' : Hid (T'.length = i) := by have := List.getElem?_eq_none_iff.1 ht'; unfold Hid; omega
          clear ht ht' hi hi' hki
          dsimp only [Option.map, optp]
          go_upto_region 4 with (fail)
          refine flow (by kernel_rfl) [Is (.pointer none), Is (.bool false), Is (.bool false), Is undef, Is undef, Is (.bool false), Is (.bool false), Is undef, Is undef, Is undef, Is undef, Is undef, Is undef, Is undef, Is undef, Is undef, Is (.bool false)] (by kernel_rfl) (by kernel_rfl) ?monoN (fun f1 => ?oblN) ?finN
          case monoN =>
            simp only [List.forall_mem_cons, List.not_mem_nil, false_imp_iff, implies_true, and_true]
            exact ⟨.is _, .is _, .is _, .is _, .is _, .is _, .is _, .is _, .is _, .is _, .is _, .is _, .is _, .is _, .is _, .is _, .is _⟩
          case finN =>
            intro g2 w5 hu hg
            simp only [puts, Act.put, List.setIfInBounds_toArray, List.set_cons_zero, List.set_cons_succ]
            have h16 : g2 16 = .bool false := hg 16 (by decide)
            rw [h16]
            have HX5 : Hid (Ext w w5) := Ext.trans HX.out (Ext.trans (Ext.drew wr) hu)
            clear h16 hg hu
            go_wp2_with fail
            go_ret
            exact ⟨true, ⟨fun _ => by have h1 := HT.out; rwa [List.take_of_length_le (Nat.le_of_eq HTL.out), List.take_of_length_le (Nat.le_of_eq HTL'.out)] at h1, fun _ => rfl⟩, rfl, HX5.out⟩
          case oblN =>
            refine ⟨fun u hu hd => ?_, ?_⟩
            · go_simp
              exact ⟨Ext.refl _, rfl⟩
            refine ⟨fun u hu hd => ?_, ?_⟩
            · simp only [Act.put, List.setIfInBounds_toArray, List.set_cons_zero, List.set_cons_succ]
              have e0 : f1 0 = .pointer none := hd 0 (by kernel_rfl)
              go_simp
              exact ⟨Ext.refl _, rfl⟩
            refine ⟨fun u hu hd => ?_, ?_⟩
            · simp only [Act.put, List.setIfInBounds_toArray, List.set_cons_zero, List.set_cons_succ]
              have e1 : f1 1 = .bool false := hd 1 (by kernel_rfl)
              go_simp
              exact ⟨Ext.refl _, rfl⟩
            refine ⟨fun u hu hd => ?_, ?_⟩
            · simp only [Act.put, List.setIfInBounds_toArray, List.set_cons_zero, List.set_cons_succ]
              have e2 : f1 2 = .bool false := hd 2 (by kernel_rfl)
              go_simp
              rfl
            refine ⟨fun u hu hd => ?_, ?_⟩
            · simp only [Act.put, List.setIfInBounds_toArray, List.set_cons_zero, List.set_cons_succ]
              have e2 : f1 2 = .bool false := hd 2 (by kernel_rfl)
              go_simp
              rfl
            refine ⟨fun u hu hd => ?_, ?_⟩
            · simp only [Act.put, List.setIfInBounds_toArray, List.set_cons_zero, List.set_cons_succ]
              have e2 : f1 2 = .bool false := hd 2 (by kernel_rfl)
              go_simp
              exact ⟨Ext.refl _, rfl⟩
            refine ⟨fun u hu hd => ?_, ?_⟩
            · simp only [Act.put, List.setIfInBounds_toArray, List.set_cons_zero, List.set_cons_succ]
              have e5 : f1 5 = .bool false := hd 5 (by kernel_rfl)
              go_simp
              exact ⟨Ext.refl _, rfl⟩
            refine ⟨fun u hu hd => ?_, ?_⟩
            · simp only [Act.put, List.setIfInBounds_toArray, List.set_cons_zero, List.set_cons_succ]
              have e6 : f1 6 = .bool false := hd 6 (by kernel_rfl)
              go_simp
              rfl
            refine ⟨fun u hu hd => ?_, ?_⟩
            · simp only [Act.put, List.setIfInBounds_toArray, List.set_cons_zero, List.set_cons_succ]
              have e6 : f1 6 = .bool false := hd 6 (by kernel_rfl)
              go_simp
              rfl
            refine ⟨fun u hu hd => ?_, ?_⟩
            · simp only [Act.put, List.setIfInBounds_toArray, List.set_cons_zero, List.set_cons_succ]
              have e6 : f1 6 = .bool false := hd 6 (by kernel_rfl)
              go_simp
              rfl
            refine ⟨fun u hu hd => ?_, ?_⟩
            · simp only [Act.put, List.setIfInBounds_toArray, List.set_cons_zero, List.set_cons_succ]
              have e6 : f1 6 = .bool false := hd 6 (by kernel_rfl)
              go_simp
              rfl
            refine ⟨fun u hu hd => ?_, ?_⟩
            · simp only [Act.put, List.setIfInBounds_toArray, List.set_cons_zero, List.set_cons_succ]
              have e6 : f1 6 = .bool false := hd 6 (by kernel_rfl)
              go_simp
              rfl
            refine ⟨fun u hu hd => ?_, ?_⟩
            · simp only [Act.put, List.setIfInBounds_toArray, List.set_cons_zero, List.set_cons_succ]
              have e6 : f1 6 = .bool false := hd 6 (by kernel_rfl)
              go_simp
              rfl
            refine ⟨fun u hu hd => ?_, ?_⟩
            · simp only [Act.put, List.setIfInBounds_toArray, List.set_cons_zero, List.set_cons_succ]
              have e6 : f1 6 = .bool false := hd 6 (by kernel_rfl)
              go_simp
              rfl
            refine ⟨fun u hu hd => ?_, ?_⟩
            · simp only [Act.put, List.setIfInBounds_toArray, List.set_cons_zero, List.set_cons_succ]
              have e6 : f1 6 = .bool false := hd 6 (by kernel_rfl)
              go_simp
              rfl
            refine ⟨fun u hu hd => ?_, ?_⟩
            · simp only [Act.put, List.setIfInBounds_toArray, List.set_cons_zero, List.set_cons_succ]
              have e6 : f1 6 = .bool false := hd 6 (by kernel_rfl)
              go_simp
              rfl
            refine ⟨fun u hu hd => ?_, ?_⟩
            · simp only [Act.put, List.setIfInBounds_toArray, List.set_cons_zero, List.set_cons_succ]
              have e6 : f1 6 = .bool false := hd 6 (by kernel_rfl)
              go_simp
              exact ⟨Ext.refl _, rfl⟩
            trivial
        | some t' =>
          have HT' := Lib.hid ht'
          clear ht ht' hi hi' hki
          dsimp only [Option.map, optp]
          go_upto_region 4 with (fail)
          refine flow (by kernel_rfl) [Is (.pointer none), Is (.bool false), Is (.bool false), Is undef, Is undef, Is (.bool false), Is (.bool false), Is undef, Is undef, Is undef, Is undef, Is undef, Is undef, Is undef, Is undef, Is undef, Is (.bool false)] (by kernel_rfl) (by kernel_rfl) ?monoM (fun f1 => ?oblM) ?finM
          case monoM =>
            simp only [List.forall_mem_cons, List.not_mem_nil, false_imp_iff, implies_true, and_true]
            exact ⟨.is _, .is _, .is _, .is _, .is _, .is _, .is _, .is _, .is _, .is _, .is _, .is _, .is _, .is _, .is _, .is _, .is _⟩
          case finM =>
            intro g2 w5 hu hg
            simp only [puts, Act.put, List.setIfInBounds_toArray, List.set_cons_zero, List.set_cons_succ]
            have h16 : g2 16 = .bool false := hg 16 (by decide)
            rw [h16]
            have HX5 : Hid (Ext w w5) := Ext.trans HX.out (Ext.trans (Ext.drew wr) hu)
            clear h16 hg hu
            go_wp2_with fail
            go_ret
            exact ⟨false, ⟨fun h => (by cases h), fun h => (by have h1 := congrArg List.length h; have h2 := (List.getElem?_eq_some_iff.1 HT'.out).1; have h3 := HTL.out; simp only [List.length_map] at h1; omega)⟩, rfl, HX5.out⟩
          case oblM =>
            refine ⟨fun u hu hd => ?_, ?_⟩
            · go_simp
              exact ⟨Ext.refl _, rfl⟩
            refine ⟨fun u hu hd => ?_, ?_⟩
            · simp only [Act.put, List.setIfInBounds_toArray, List.set_cons_zero, List.set_cons_succ]
              have e0 : f1 0 = .pointer none := hd 0 (by kernel_rfl)
              go_simp
              exact ⟨Ext.refl _, rfl⟩
            refine ⟨fun u hu hd => ?_, ?_⟩
            · simp only [Act.put, List.setIfInBounds_toArray, List.set_cons_zero, List.set_cons_succ]
              have e1 : f1 1 = .bool false := hd 1 (by kernel_rfl)
              go_simp
              exact ⟨Ext.refl _, rfl⟩
            refine ⟨fun u hu hd => ?_, ?_⟩
            · simp only [Act.put, List.setIfInBounds_toArray, List.set_cons_zero, List.set_cons_succ]
              have e2 : f1 2 = .bool false := hd 2 (by kernel_rfl)
              go_simp
              rfl
            refine ⟨fun u hu hd => ?_, ?_⟩
            · simp only [Act.put, List.setIfInBounds_toArray, List.set_cons_zero, List.set_cons_succ]
              have e2 : f1 2 = .bool false := hd 2 (by kernel_rfl)
              go_simp
              rfl
            refine ⟨fun u hu hd => ?_, ?_⟩
            · simp only [Act.put, List.setIfInBounds_toArray, List.set_cons_zero, List.set_cons_succ]
              have e2 : f1 2 = .bool false := hd 2 (by kernel_rfl)
              go_simp
              exact ⟨Ext.refl _, rfl⟩
            refine ⟨fun u hu hd => ?_, ?_⟩
            · simp only [Act.put, List.setIfInBounds_toArray, List.set_cons_zero, List.set_cons_succ]
              have e5 : f1 5 = .bool false := hd 5 (by kernel_rfl)
              go_simp
              exact ⟨Ext.refl _, rfl⟩
            refine ⟨fun u hu hd => ?_, ?_⟩
            · simp only [Act.put, List.setIfInBounds_toArray, List.set_cons_zero, List.set_cons_succ]
              have e6 : f1 6 = .bool false := hd 6 (by kernel_rfl)
              go_simp
              rfl
            refine ⟨fun u hu hd => ?_, ?_⟩
            · simp only [Act.put, List.setIfInBounds_toArray, List.set_cons_zero, List.set_cons_succ]
              have e6 : f1 6 = .bool false := hd 6 (by kernel_rfl)
              go_simp
              rfl
            refine ⟨fun u hu hd => ?_, ?_⟩
            · simp only [Act.put, List.setIfInBounds_toArray, List.set_cons_zero, List.set_cons_succ]
              have e6 : f1 6 = .bool false := hd 6 (by kernel_rfl)
              go_simp
              rfl
            refine ⟨fun u hu hd => ?_, ?_⟩
            · simp only [Act.put, List.setIfInBounds_toArray, List.set_cons_zero, List.set_cons_succ]
              have e6 : f1 6 = .bool false := hd 6 (by kernel_rfl)
              go_simp
              rfl
            refine ⟨fun u hu hd => ?_, ?_⟩
            · simp only [Act.put, List.setIfInBounds_toArray, List.set_cons_zero, List.set_cons_succ]
              have e6 : f1 6 = .bool false := hd 6 (by kernel_rfl)
              go_simp
              rfl
            refine ⟨fun u hu hd => ?_, ?_⟩
            · simp only [Act.put, List.setIfInBounds_toArray, List.set_cons_zero, List.set_cons_succ]
              have e6 : f1 6 = .bool false := hd 6 (by kernel_rfl)
              go_simp
              rfl
            refine ⟨fun u hu hd => ?_, ?_⟩
            · simp only [Act.put, List.setIfInBounds_toArray, List.set_cons_zero, List.set_cons_succ]
              have e6 : f1 6 = .bool false := hd 6 (by kernel_rfl)
              go_simp
              rfl
            refine ⟨fun u hu hd => ?_, ?_⟩
            · simp only [Act.put, List.setIfInBounds_toArray, List.set_cons_zero, List.set_cons_succ]
              have e6 : f1 6 = .bool false := hd 6 (by kernel_rfl)
              go_simp
              rfl
            refine ⟨fun u hu hd => ?_, ?_⟩
            · simp only [Act.put, List.setIfInBounds_toArray, List.set_cons_zero, List.set_cons_succ]
              have e6 : f1 6 = .bool false := hd 6 (by kernel_rfl)
              go_simp
              rfl
            refine ⟨fun u hu hd => ?_, ?_⟩
            · simp only [Act.put, List.setIfInBounds_toArray, List.set_cons_zero, List.set_cons_succ]
              have e6 : f1 6 = .bool false := hd 6 (by kernel_rfl)
              go_simp
              exact ⟨Ext.refl _, rfl⟩
            trivial
      | some t =>
        have HTS := Lib.hid ht
        cases ht' : T'[i]? with
        | none =>
          have HTL' : Hid (T'.length = i) := by have := List.getElem?_eq_none_iff.1 ht'; unfold Hid; omega
          clear ht ht' hi hi' hki
          dsimp only [Option.map, optp]
          go_upto_region 4 with (fail)
          refine flow (by kernel_rfl) [Is (.pointer (some ⟨t.b, 0, none⟩)), Is (.bool true), Is (.bool true), Is (.pointer none), Is (.bool false), Is (.bool false), Is (.bool false), Is undef, Is undef, Is undef, Is undef, Is undef, Is undef, Is undef, Is undef, Is undef, Is (.bool false)] (by kernel_rfl) (by kernel_rfl) ?monoS (fun f1 => ?oblS) ?finS
          case monoS =>
            simp only [List.forall_mem_cons, List.not_mem_nil, false_imp_iff, implies_true, and_true]
            exact ⟨.is _, .is _, .is _, .is _, .is _, .is _, .is _, .is _, .is _, .is _, .is _, .is _, .is _, .is _, .is _, .is _, .is _⟩
          case finS =>
            intro g2 w5 hu hg
            simp only [puts, Act.put, List.setIfInBounds_toArray, List.set_cons_zero, List.set_cons_succ]
            have h16 : g2 16 = .bool false := hg 16 (by decide)
            rw [h16]
            have HX5 : Hid (Ext w w5) := Ext.trans HX.out (Ext.trans (Ext.drew wr) hu)
            clear h16 hg hu
            go_wp2_with fail
            go_ret
            exact ⟨false, ⟨fun h => (by cases h), fun h => (by have h1 := congrArg List.length h; have h2 := (List.getElem?_eq_some_iff.1 HTS.out).1; have h3 := HTL'.out; simp only [List.length_map] at h1; omega)⟩, rfl, HX5.out⟩
          case oblS =>
            refine ⟨fun u hu hd => ?_, ?_⟩
            · go_simp
              exact ⟨Ext.refl _, rfl⟩
            refine ⟨fun u hu hd => ?_, ?_⟩
            · simp only [Act.put, List.setIfInBounds_toArray, List.set_cons_zero, List.set_cons_succ]
              have e0 : f1 0 = .pointer (some ⟨t.b, 0, none⟩) := hd 0 (by kernel_rfl)
              go_simp
              exact ⟨Ext.refl _, rfl⟩
            refine ⟨fun u hu hd => ?_, ?_⟩
            · simp only [Act.put, List.setIfInBounds_toArray, List.set_cons_zero, List.set_cons_succ]
              have e1 : f1 1 = .bool true := hd 1 (by kernel_rfl)
              go_simp
              exact ⟨Ext.refl _, rfl⟩
            refine ⟨fun u hu hd => ?_, ?_⟩
            · simp only [Act.put, List.setIfInBounds_toArray, List.set_cons_zero, List.set_cons_succ]
              have e2 : f1 2 = .bool true := hd 2 (by kernel_rfl)
              go_simp
              exact ⟨Ext.refl _, rfl⟩
            refine ⟨fun u hu hd => ?_, ?_⟩
            · simp only [Act.put, List.setIfInBounds_toArray, List.set_cons_zero, List.set_cons_succ]
              have e2 : f1 2 = .bool true := hd 2 (by kernel_rfl)
              have e3 : f1 3 = .pointer none := hd 3 (by kernel_rfl)
              go_simp
              exact ⟨Ext.refl _, rfl⟩
            refine ⟨fun u hu hd => ?_, ?_⟩
            · simp only [Act.put, List.setIfInBounds_toArray, List.set_cons_zero, List.set_cons_succ]
              have e2 : f1 2 = .bool true := hd 2 (by kernel_rfl)
              have e4 : f1 4 = .bool false := hd 4 (by kernel_rfl)
              go_simp
              exact ⟨Ext.refl _, rfl⟩
            refine ⟨fun u hu hd => ?_, ?_⟩
            · simp only [Act.put, List.setIfInBounds_toArray, List.set_cons_zero, List.set_cons_succ]
              have e5 : f1 5 = .bool false := hd 5 (by kernel_rfl)
              go_simp
              exact ⟨Ext.refl _, rfl⟩
            refine ⟨fun u hu hd => ?_, ?_⟩
            · simp only [Act.put, List.setIfInBounds_toArray, List.set_cons_zero, List.set_cons_succ]
              have e6 : f1 6 = .bool false := hd 6 (by kernel_rfl)
              go_simp
              rfl
            refine ⟨fun u hu hd => ?_, ?_⟩
            · simp only [Act.put, List.setIfInBounds_toArray, List.set_cons_zero, List.set_cons_succ]
              have e6 : f1 6 = .bool false := hd 6 (by kernel_rfl)
              go_simp
              rfl
            refine ⟨fun u hu hd => ?_, ?_⟩
            · simp only [Act.put, List.setIfInBounds_toArray, List.set_cons_zero, List.set_cons_succ]
              have e6 : f1 6 = .bool false := hd 6 (by kernel_rfl)
              go_simp
              rfl
            refine ⟨fun u hu hd => ?_, ?_⟩
            · simp only [Act.put, List.setIfInBounds_toArray, List.set_cons_zero, List.set_cons_succ]
              have e6 : f1 6 = .bool false := hd 6 (by kernel_rfl)
              go_simp
              rfl
            refine ⟨fun u hu hd => ?_, ?_⟩
            · simp only [Act.put, List.setIfInBounds_toArray, List.set_cons_zero, List.set_cons_succ]
              have e6 : f1 6 = .bool false := hd 6 (by kernel_rfl)
              go_simp
              rfl
            refine ⟨fun u hu hd => ?_, ?_⟩
            · simp only [Act.put, List.setIfInBounds_toArray, List.set_cons_zero, List.set_cons_succ]
              have e6 : f1 6 = .bool false := hd 6 (by kernel_rfl)
              go_simp
              rfl
            refine ⟨fun u hu hd => ?_, ?_⟩
            · simp only [Act.put, List.setIfInBounds_toArray, List.set_cons_zero, List.set_cons_succ]
              have e6 : f1 6 = .bool false := hd 6 (by kernel_rfl)
              go_simp
              rfl
            refine ⟨fun u hu hd => ?_, ?_⟩
            · simp only [Act.put, List.setIfInBounds_toArray, List.set_cons_zero, List.set_cons_succ]
              have e6 : f1 6 = .bool false := hd 6 (by kernel_rfl)
              go_simp
              rfl
            refine ⟨fun u hu hd => ?_, ?_⟩
            · simp only [Act.put, List.setIfInBounds_toArray, List.set_cons_zero, List.set_cons_succ]
              have e6 : f1 6 = .bool false := hd 6 (by kernel_rfl)
              go_simp
              rfl
            refine ⟨fun u hu hd => ?_, ?_⟩
            · simp only [Act.put, List.setIfInBounds_toArray, List.set_cons_zero, List.set_cons_succ]
              have e6 : f1 6 = .bool false := hd 6 (by kernel_rfl)
              go_simp
              exact ⟨Ext.refl _, rfl⟩
            trivial
        | some t' =>
          have HTS' := Lib.hid ht'
          have HLT : Hid (i < T.length ∧ i < T'.length) := ⟨(List.getElem?_eq_some_iff.1 ht).1, (List.getElem?_eq_some_iff.1 ht').1⟩
          obtain ⟨g, born, hb1, hm1⟩ := (HA.out.ext HX.out).tow ht
          obtain ⟨g', born', hb2, hm2⟩ := (HB.out.ext HX.out).tow ht'
          have HM : Hid (∀ u, Ext wr u → Em u 0 wr.heap.size t.e g ∧ Em u 0 wr.heap.size t'.e g' ∧ wr.heap.size ≤ u.heap.size) := fun u hu => ⟨hm1.below hu (Nat.le_refl _), hm2.below hu (Nat.le_refl _), hu.size⟩
          have c0 := cell_of (v := .slice g.kA t.e.key.length g.kc) hb1 (k := 0) rfl
          have c1 := cell_of (v := .int .i64 t.e.seq) hb1 (k := 1) rfl
          have c2 := cell_of (v := .int .i64 t.e.kind) hb1 (k := 2) rfl
          have c3 := cell_of (v := .slice g.vA t.e.val.length g.vc) hb1 (k := 3) rfl
          have d0 := cell_of (v := .slice g'.kA t'.e.key.length g'.kc) hb2 (k := 0) rfl
          have d1 := cell_of (v := .int .i64 t'.e.seq) hb2 (k := 1) rfl
          have d2 := cell_of (v := .int .i64 t'.e.kind) hb2 (k := 2) rfl
          have d3 := cell_of (v := .slice g'.vA t'.e.val.length g'.vc) hb2 (k := 3) rfl
          obtain ⟨xa2, hxa2⟩ : ∃ xa2, xa2 = optp (nxt 0 (T.drop (i + 1))) := ⟨_, rfl⟩
          obtain ⟨xb2, hxb2⟩ : ∃ xb2, xb2 = optp (nxt 0 (T'.drop (i + 1))) := ⟨_, rfl⟩
          have HXA2 := Lib.hid hxa2
          have HXB2 := Lib.hid hxb2
          have c5 : wr.cell? ⟨t.b, 5, none⟩ = some xa2 := by rw [hxa2, ← tow_next (HA.out.tall t (List.mem_of_getElem? ht))]; exact cell_of hb1 (k := 5) rfl
          have d5 : wr.cell? ⟨t'.b, 5, none⟩ = some xb2 := by rw [hxb2, ← tow_next (HB.out.tall t' (List.mem_of_getElem? ht'))]; exact cell_of hb2 (k := 5) rfl
          obtain ⟨z, hz⟩ : ∃ z : Bool, (z = true ↔ t.e = t'.e) := ⟨@decide _ (Classical.propDecidable _), @decide_eq_true_iff _ (Classical.propDecidable _)⟩
          have HZ := Lib.hid hz
          clear ht ht' hi hi' hki hb1 hb2 hm1 hm2 hxa2 hxb2 hz
          dsimp only [Option.map, optp]
          go_upto_region 4 with (fail)
          refine flow (by kernel_rfl) [Is (.pointer (some ⟨t.b, 0, none⟩)), Is (.bool true), Is (.bool true), Is (.pointer (some ⟨t'.b, 0, none⟩)), Is (.bool true), Is (.bool true), Is (.bool true), Is (.pointer (some ⟨t.b, 0, none⟩)), Is (.pointer (some ⟨t.b, 0, none⟩)), Is (.pointer (some ⟨t.b, 0, none⟩)), Is (.agg #[.slice g.kA t.e.key.length g.kc, .int .i64 t.e.seq, .int .i64 t.e.kind, .slice g.vA t.e.val.length g.vc]), Is (.pointer (some ⟨t'.b, 0, none⟩)), Is (.pointer (some ⟨t'.b, 0, none⟩)), Is (.pointer (some ⟨t'.b, 0, none⟩)), Is (.agg #[.slice g'.kA t'.e.key.length g'.kc, .int .i64 t'.e.seq, .int .i64 t'.e.kind, .slice g'.vA t'.e.val.length g'.vc]), Is (.bool z), Is (.bool z)] (by kernel_rfl) (by kernel_rfl) ?monoB (fun f1 => ?oblB) ?finB
          case monoB =>
            simp only [List.forall_mem_cons, List.not_mem_nil, false_imp_iff, implies_true, and_true]
            exact ⟨.is _, .is _, .is _, .is _, .is _, .is _, .is _, .is _, .is _, .is _, .is _, .is _, .is _, .is _, .is _, .is _, .is _⟩
          case finB =>
            intro g2 w5 hu hg
            simp only [puts, Act.put, List.setIfInBounds_toArray, List.set_cons_zero, List.set_cons_succ]
            have h16 : g2 16 = .bool z := hg 16 (by decide)
            rw [h16]
            have HX5 : Hid (Ext w w5) := Ext.trans HX.out (Ext.trans (Ext.drew wr) hu)
            have HW5 : Hid (Ext wr w5) := Ext.trans (Ext.drew wr) hu
            replace c5 := ext_cell HW5.out c5
            replace d5 := ext_cell HW5.out d5
            clear h16 hg hu c0 c1 c2 c3 d0 d1 d2 d3
            cases z with
            | false =>
              go_wp2_with fail
              go_ret
              exact ⟨false, ⟨fun h => (by cases h), fun h => absurd h (not_same HTS.out HTS'.out (fun he => by have h9 := HZ.out.2 he; simp at h9))⟩, rfl, HX5.out⟩
            | true =>
              go_upto_region 5 with (fail)
              refine flow (by kernel_rfl) [Is (.pointer (some ⟨t.b, 0, none⟩)), Is (.pointer (some ⟨t.b, 0, none⟩)), Is (.pointer (some ⟨t.b, 5, none⟩)), Is (.pointer (some ⟨t.b, 5 + 0, none⟩)), Is (xa2), Is (.pointer (some ⟨t'.b, 0, none⟩)), Is (.pointer (some ⟨t'.b, 0, none⟩)), Is (.pointer (some ⟨t'.b, 5, none⟩)), Is (.pointer (some ⟨t'.b, 5 + 0, none⟩)), Is (xb2), Is (xa2), Is (xb2)] (by kernel_rfl) (by kernel_rfl) ?monoV (fun f1 => ?oblV) ?finV
              case monoV =>
                simp only [List.forall_mem_cons, List.not_mem_nil, false_imp_iff, implies_true, and_true]
                exact ⟨.is _, .is _, .is _, .is _, .is _, .is _, .is _, .is _, .is _, .is _, .is _, .is _⟩
              case finV =>
                intro g1 w7 hu hg
                simp only [puts, Act.put, List.setIfInBounds_toArray, List.set_cons_zero, List.set_cons_succ]
                have h10 : g1 10 = xa2 := hg 10 (by decide)
                have h11 : g1 11 = xb2 := hg 11 (by decide)
                rw [h10, h11]
                have HX7 : Hid (Ext w w7) := Ext.trans HX5.out (Ext.trans (Ext.drew w5) hu)
                clear h10 h11 hg hu
                go_wp2_with fail
                go_roundg (T.length + 1 - (i + 1))
                case rel => exact ⟨i + 1, by have := HLT.out; omega, by have := HLT.out; omega, by have := HLT.out; omega, HXA2.out, HXB2.out, (take_same HT.out HTS.out HTS'.out).2 (HZ.out.1 (by trivial)), HX7⟩
                case measure => have := HKI.out; have := HLT.out; omega
              case oblV =>
                refine ⟨fun u hu hd => ?_, ?_⟩
                · go_simp
                  exact ⟨Ext.refl _, rfl⟩
                refine ⟨fun u hu hd => ?_, ?_⟩
                · simp only [Act.put, List.setIfInBounds_toArray, List.set_cons_zero, List.set_cons_succ]
                  have e0 : f1 0 = .pointer (some ⟨t.b, 0, none⟩) := hd 0 (by kernel_rfl)
                  go_simp
                  exact ⟨Ext.refl _, rfl⟩
                refine ⟨fun u hu hd => ?_, ?_⟩
                · simp only [Act.put, List.setIfInBounds_toArray, List.set_cons_zero, List.set_cons_succ]
                  have e1 : f1 1 = .pointer (some ⟨t.b, 0, none⟩) := hd 1 (by kernel_rfl)
                  go_simp
                  exact ⟨Ext.refl _, rfl⟩
                refine ⟨fun u hu hd => ?_, ?_⟩
                · simp only [Act.put, List.setIfInBounds_toArray, List.set_cons_zero, List.set_cons_succ]
                  have e2 : f1 2 = .pointer (some ⟨t.b, 5, none⟩) := hd 2 (by kernel_rfl)
                  go_simp
                  exact ⟨Ext.refl _, rfl⟩
                refine ⟨fun u hu hd => ?_, ?_⟩
                · simp only [Act.put, List.setIfInBounds_toArray, List.set_cons_zero, List.set_cons_succ]
                  have e3 : f1 3 = .pointer (some ⟨t.b, 5 + 0, none⟩) := hd 3 (by kernel_rfl)
                  have hu2 := Ext.trans (Ext.drew w5) hu
                  have q0 := ext_cell hu2 c5
                  go_simp
                  exact ⟨Ext.refl _, rfl⟩
                refine ⟨fun u hu hd => ?_, ?_⟩
                · simp only [Act.put, List.setIfInBounds_toArray, List.set_cons_zero, List.set_cons_succ]
                  go_simp
                  exact ⟨Ext.refl _, rfl⟩
                refine ⟨fun u hu hd => ?_, ?_⟩
                · simp only [Act.put, List.setIfInBounds_toArray, List.set_cons_zero, List.set_cons_succ]
                  have e5 : f1 5 = .pointer (some ⟨t'.b, 0, none⟩) := hd 5 (by kernel_rfl)
                  go_simp
                  exact ⟨Ext.refl _, rfl⟩
                refine ⟨fun u hu hd => ?_, ?_⟩
                · simp only [Act.put, List.setIfInBounds_toArray, List.set_cons_zero, List.set_cons_succ]
                  have e6 : f1 6 = .pointer (some ⟨t'.b, 0, none⟩) := hd 6 (by kernel_rfl)
                  go_simp
                  exact ⟨Ext.refl _, rfl⟩
                refine ⟨fun u hu hd => ?_, ?_⟩
                · simp only [Act.put, List.setIfInBounds_toArray, List.set_cons_zero, List.set_cons_succ]
                  have e7 : f1 7 = .pointer (some ⟨t'.b, 5, none⟩) := hd 7 (by kernel_rfl)
                  go_simp
                  exact ⟨Ext.refl _, rfl⟩
                refine ⟨fun u hu hd => ?_, ?_⟩
                · simp only [Act.put, List.setIfInBounds_toArray, List.set_cons_zero, List.set_cons_succ]
                  have e8 : f1 8 = .pointer (some ⟨t'.b, 5 + 0, none⟩) := hd 8 (by kernel_rfl)
                  have hu2 := Ext.trans (Ext.drew w5) hu
                  have q0 := ext_cell hu2 d5
                  go_simp
                  exact ⟨Ext.refl _, rfl⟩
                refine ⟨fun u hu hd => ?_, ?_⟩
                · simp only [Act.put, List.setIfInBounds_toArray, List.set_cons_zero, List.set_cons_succ]
                  have e4 : f1 4 = xa2 := hd 4 (by kernel_rfl)
                  go_simp
                  exact ⟨Ext.refl _, rfl⟩
                refine ⟨fun u hu hd => ?_, ?_⟩
                · simp only [Act.put, List.setIfInBounds_toArray, List.set_cons_zero, List.set_cons_succ]
                  have e9 : f1 9 = xb2 := hd 9 (by kernel_rfl)
                  go_simp
                  exact ⟨Ext.refl _, rfl⟩
                trivial
          case oblB =>
            refine ⟨fun u hu hd => ?_, ?_⟩
            · go_simp
              exact ⟨Ext.refl _, rfl⟩
            refine ⟨fun u hu hd => ?_, ?_⟩
            · simp only [Act.put, List.setIfInBounds_toArray, List.set_cons_zero, List.set_cons_succ]
              have e0 : f1 0 = .pointer (some ⟨t.b, 0, none⟩) := hd 0 (by kernel_rfl)
              go_simp
              exact ⟨Ext.refl _, rfl⟩
            refine ⟨fun u hu hd => ?_, ?_⟩
            · simp only [Act.put, List.setIfInBounds_toArray, List.set_cons_zero, List.set_cons_succ]
              have e1 : f1 1 = .bool true := hd 1 (by kernel_rfl)
              go_simp
              exact ⟨Ext.refl _, rfl⟩
            refine ⟨fun u hu hd => ?_, ?_⟩
            · simp only [Act.put, List.setIfInBounds_toArray, List.set_cons_zero, List.set_cons_succ]
              have e2 : f1 2 = .bool true := hd 2 (by kernel_rfl)
              go_simp
              exact ⟨Ext.refl _, rfl⟩
            refine ⟨fun u hu hd => ?_, ?_⟩
            · simp only [Act.put, List.setIfInBounds_toArray, List.set_cons_zero, List.set_cons_succ]
              have e2 : f1 2 = .bool true := hd 2 (by kernel_rfl)
              have e3 : f1 3 = .pointer (some ⟨t'.b, 0, none⟩) := hd 3 (by kernel_rfl)
              go_simp
              exact ⟨Ext.refl _, rfl⟩
            refine ⟨fun u hu hd => ?_, ?_⟩
            · simp only [Act.put, List.setIfInBounds_toArray, List.set_cons_zero, List.set_cons_succ]
              have e2 : f1 2 = .bool true := hd 2 (by kernel_rfl)
              have e4 : f1 4 = .bool true := hd 4 (by kernel_rfl)
              go_simp
              exact ⟨Ext.refl _, rfl⟩
            refine ⟨fun u hu hd => ?_, ?_⟩
            · simp only [Act.put, List.setIfInBounds_toArray, List.set_cons_zero, List.set_cons_succ]
              have e5 : f1 5 = .bool true := hd 5 (by kernel_rfl)
              go_simp
              exact ⟨Ext.refl _, rfl⟩
            refine ⟨fun u hu hd => ?_, ?_⟩
            · simp only [Act.put, List.setIfInBounds_toArray, List.set_cons_zero, List.set_cons_succ]
              have e6 : f1 6 = .bool true := hd 6 (by kernel_rfl)
              go_simp
              exact ⟨Ext.refl _, rfl⟩
            refine ⟨fun u hu hd => ?_, ?_⟩
            · simp only [Act.put, List.setIfInBounds_toArray, List.set_cons_zero, List.set_cons_succ]
              have e6 : f1 6 = .bool true := hd 6 (by kernel_rfl)
              have e7 : f1 7 = .pointer (some ⟨t.b, 0, none⟩) := hd 7 (by kernel_rfl)
              go_simp
              exact ⟨Ext.refl _, rfl⟩
            refine ⟨fun u hu hd => ?_, ?_⟩
            · simp only [Act.put, List.setIfInBounds_toArray, List.set_cons_zero, List.set_cons_succ]
              have e6 : f1 6 = .bool true := hd 6 (by kernel_rfl)
              have e8 : f1 8 = .pointer (some ⟨t.b, 0, none⟩) := hd 8 (by kernel_rfl)
              go_simp
              exact ⟨Ext.refl _, rfl⟩
            refine ⟨fun u hu hd => ?_, ?_⟩
            · simp only [Act.put, List.setIfInBounds_toArray, List.set_cons_zero, List.set_cons_succ]
              have e6 : f1 6 = .bool true := hd 6 (by kernel_rfl)
              have e9 : f1 9 = .pointer (some ⟨t.b, 0, none⟩) := hd 9 (by kernel_rfl)
              have hu2 := Ext.trans (Ext.drew wr) hu
              have q0 := ext_cell hu2 c0
              have q1 := ext_cell hu2 c1
              have q2 := ext_cell hu2 c2
              have q3 := ext_cell hu2 c3
              go_simp
              exact ⟨Ext.refl _, rfl⟩
            refine ⟨fun u hu hd => ?_, ?_⟩
            · simp only [Act.put, List.setIfInBounds_toArray, List.set_cons_zero, List.set_cons_succ]
              have e6 : f1 6 = .bool true := hd 6 (by kernel_rfl)
              go_simp
              exact ⟨Ext.refl _, rfl⟩
            refine ⟨fun u hu hd => ?_, ?_⟩
            · simp only [Act.put, List.setIfInBounds_toArray, List.set_cons_zero, List.set_cons_succ]
              have e6 : f1 6 = .bool true := hd 6 (by kernel_rfl)
              have e11 : f1 11 = .pointer (some ⟨t'.b, 0, none⟩) := hd 11 (by kernel_rfl)
              go_simp
              exact ⟨Ext.refl _, rfl⟩
            refine ⟨fun u hu hd => ?_, ?_⟩
            · simp only [Act.put, List.setIfInBounds_toArray, List.set_cons_zero, List.set_cons_succ]
              have e6 : f1 6 = .bool true := hd 6 (by kernel_rfl)
              have e12 : f1 12 = .pointer (some ⟨t'.b, 0, none⟩) := hd 12 (by kernel_rfl)
              go_simp
              exact ⟨Ext.refl _, rfl⟩
            refine ⟨fun u hu hd => ?_, ?_⟩
            · simp only [Act.put, List.setIfInBounds_toArray, List.set_cons_zero, List.set_cons_succ]
              have e6 : f1 6 = .bool true := hd 6 (by kernel_rfl)
              have e13 : f1 13 = .pointer (some ⟨t'.b, 0, none⟩) := hd 13 (by kernel_rfl)
              have hu2 := Ext.trans (Ext.drew wr) hu
              have q0 := ext_cell hu2 d0
              have q1 := ext_cell hu2 d1
              have q2 := ext_cell hu2 d2
              have q3 := ext_cell hu2 d3
              go_simp
              exact ⟨Ext.refl _, rfl⟩
            refine ⟨fun u hu hd => ?_, ?_⟩
            · simp only [Act.put, List.setIfInBounds_toArray, List.set_cons_zero, List.set_cons_succ]
              have e6 : f1 6 = .bool true := hd 6 (by kernel_rfl)
              have e10 : f1 10 = .agg #[.slice g.kA t.e.key.length g.kc, .int .i64 t.e.seq, .int .i64 t.e.kind, .slice g.vA t.e.val.length g.vc] := hd 10 (by kernel_rfl)
              have e14 : f1 14 = .agg #[.slice g'.kA t'.e.key.length g'.kc, .int .i64 t'.e.seq, .int .i64 t'.e.kind, .slice g'.vA t'.e.val.length g'.vc] := hd 14 (by kernel_rfl)
              have hu2 := Ext.trans (Ext.drew wr) hu
              obtain ⟨m1, m2, m3⟩ := HM.out u hu2
              go_simp
              refine (same_any m1 m2 m3 m3).mono ?_
              rintro x9 w9 ⟨z9, hz9, rfl, hx9⟩
              have hzz : z9 = z := Bool.eq_iff_iff.2 (hz9.trans HZ.out.symm)
              subst hzz
              exact ⟨_, rfl, hx9, rfl⟩
            refine ⟨fun u hu hd => ?_, ?_⟩
            · simp only [Act.put, List.setIfInBounds_toArray, List.set_cons_zero, List.set_cons_succ]
              have e6 : f1 6 = .bool true := hd 6 (by kernel_rfl)
              have e15 : f1 15 = .bool z := hd 15 (by kernel_rfl)
              go_simp
              exact ⟨Ext.refl _, rfl⟩
            trivial
  case obl =>
    refine ⟨fun u hu hd => ?_, ?_⟩
    · go_simp
      exact ⟨Ext.refl _, rfl⟩
    refine ⟨fun u hu hd => ?_, ?_⟩
    · simp only [Act.put, List.setIfInBounds_toArray, List.set_cons_zero, List.set_cons_succ]
      have e0 : f1 0 = .pointer (some ⟨lb, 0, none⟩) := hd 0 (by kernel_rfl)
      go_simp
      exact ⟨Ext.refl _, rfl⟩
    refine ⟨fun u hu hd => ?_, ?_⟩
    · simp only [Act.put, List.setIfInBounds_toArray, List.set_cons_zero, List.set_cons_succ]
      have e1 : f1 1 = .pointer (some ⟨lb, 0, none⟩) := hd 1 (by kernel_rfl)
      go_simp
      exact ⟨Ext.refl _, rfl⟩
    refine ⟨fun u hu hd => ?_, ?_⟩
    · simp only [Act.put, List.setIfInBounds_toArray, List.set_cons_zero, List.set_cons_succ]
      have e2 : f1 2 = .pointer (some ⟨lb, 0, none⟩) := hd 2 (by kernel_rfl)
      have hu2 := Ext.trans (Ext.drew w) hu
      have q0 := ext_cell hu2 l0
      go_simp
      exact ⟨Ext.refl _, rfl⟩
    refine ⟨fun u hu hd => ?_, ?_⟩
    · simp only [Act.put, List.setIfInBounds_toArray, List.set_cons_zero, List.set_cons_succ]
      have e3 : f1 3 = .pointer (some ⟨hb, 0, none⟩) := hd 3 (by kernel_rfl)
      go_simp
      exact ⟨Ext.refl _, rfl⟩
    refine ⟨fun u hu hd => ?_, ?_⟩
    · simp only [Act.put, List.setIfInBounds_toArray, List.set_cons_zero, List.set_cons_succ]
      have e4 : f1 4 = .pointer (some ⟨hb, 0, none⟩) := hd 4 (by kernel_rfl)
      go_simp
      exact ⟨Ext.refl _, rfl⟩
    refine ⟨fun u hu hd => ?_, ?_⟩
    · simp only [Act.put, List.setIfInBounds_toArray, List.set_cons_zero, List.set_cons_succ]
      have e5 : f1 5 = .pointer (some ⟨hb, 5, none⟩) := hd 5 (by kernel_rfl)
      go_simp
      exact ⟨Ext.refl _, rfl⟩
    refine ⟨fun u hu hd => ?_, ?_⟩
    · simp only [Act.put, List.setIfInBounds_toArray, List.set_cons_zero, List.set_cons_succ]
      have e6 : f1 6 = .pointer (some ⟨hb, 5 + 0, none⟩) := hd 6 (by kernel_rfl)
      have hu2 := Ext.trans (Ext.drew w) hu
      have q0 := ext_cell hu2 l5
      go_simp
      exact ⟨Ext.refl _, rfl⟩
    refine ⟨fun u hu hd => ?_, ?_⟩
    · simp only [Act.put, List.setIfInBounds_toArray, List.set_cons_zero, List.set_cons_succ]
      go_simp
      exact ⟨Ext.refl _, rfl⟩
    refine ⟨fun u hu hd => ?_, ?_⟩
    · simp only [Act.put, List.setIfInBounds_toArray, List.set_cons_zero, List.set_cons_succ]
      have e8 : f1 8 = .pointer (some ⟨lb', 0, none⟩) := hd 8 (by kernel_rfl)
      go_simp
      exact ⟨Ext.refl _, rfl⟩
    refine ⟨fun u hu hd => ?_, ?_⟩
    · simp only [Act.put, List.setIfInBounds_toArray, List.set_cons_zero, List.set_cons_succ]
      have e9 : f1 9 = .pointer (some ⟨lb', 0, none⟩) := hd 9 (by kernel_rfl)
      go_simp
      exact ⟨Ext.refl _, rfl⟩
    refine ⟨fun u hu hd => ?_, ?_⟩
    · simp only [Act.put, List.setIfInBounds_toArray, List.set_cons_zero, List.set_cons_succ]
      have e10 : f1 10 = .pointer (some ⟨lb', 0, none⟩) := hd 10 (by kernel_rfl)
      have hu2 := Ext.trans (Ext.drew w) hu
      have q0 := ext_cell hu2 m0
      go_simp
      exact ⟨Ext.refl _, rfl⟩
    refine ⟨fun u hu hd => ?_, ?_⟩
    · simp only [Act.put, List.setIfInBounds_toArray, List.set_cons_zero, List.set_cons_succ]
      have e11 : f1 11 = .pointer (some ⟨hb', 0, none⟩) := hd 11 (by kernel_rfl)
      go_simp
      exact ⟨Ext.refl _, rfl⟩
    refine ⟨fun u hu hd => ?_, ?_⟩
    · simp only [Act.put, List.setIfInBounds_toArray, List.set_cons_zero, List.set_cons_succ]
      have e12 : f1 12 = .pointer (some ⟨hb', 0, none⟩) := hd 12 (by kernel_rfl)
      go_simp
      exact ⟨Ext.refl _, rfl⟩
    refine ⟨fun u hu hd => ?_, ?_⟩
    · simp only [Act.put, List.setIfInBounds_toArray, List.set_cons_zero, List.set_cons_succ]
      have e13 : f1 13 = .pointer (some ⟨hb', 5, none⟩) := hd 13 (by kernel_rfl)
      go_simp
      exact ⟨Ext.refl _, rfl⟩
    refine ⟨fun u hu hd => ?_, ?_⟩
    · simp only [Act.put, List.setIfInBounds_toArray, List.set_cons_zero, List.set_cons_succ]
      have e14 : f1 14 = .pointer (some ⟨hb', 5 + 0, none⟩) := hd 14 (by kernel_rfl)
      have hu2 := Ext.trans (Ext.drew w) hu
      have q0 := ext_cell hu2 m5
      go_simp
      exact ⟨Ext.refl _, rfl⟩
    refine ⟨fun u hu hd => ?_, ?_⟩
    · simp only [Act.put, List.setIfInBounds_toArray, List.set_cons_zero, List.set_cons_succ]
      have e7 : f1 7 = xa := hd 7 (by kernel_rfl)
      go_simp
      exact ⟨Ext.refl _, rfl⟩
    refine ⟨fun u hu hd => ?_, ?_⟩
    · simp only [Act.put, List.setIfInBounds_toArray, List.set_cons_zero, List.set_cons_succ]
      have e15 : f1 15 = xb := hd 15 (by kernel_rfl)
      go_simp
      exact ⟨Ext.refl _, rfl⟩
    trivial
end Go.Proofs.YtepaaffebhinlaaDoor

/- SkipOrder: in whatever order entries are put, the list is the same; each level's entries are among those of the level below. -/
namespace Go.Proofs.YtepaaffebhinlaaDoor.skipOrder
open Go.ChangeShapes Go.WideShapes Go.ChangeAt Go.RowKit Go.Shelf

/-- Where the k-th of the turned list stands. -/
theorem turn_idx {m n k : Nat} (_ : m < n) (hk : k < n) : ((m : Int) + (n : Int) - (k : Int)).tmod (n : Int) = (((m + n - k) % n : Nat) : Int) := by
  have e : (m : Int) + (n : Int) - (k : Int) = ((m + n - k : Nat) : Int) := by omega
  rw [e, Int.ofNat_tmod]
theorem few_turn {L O : List (Ent × Hd)} (h : FewE L) (hl : O.length = L.length) (hm : ∀ p ∈ O, p ∈ L) : FewE O := ⟨by rw [hl]; exact h.1, fun p hp => h.2 p (hm p hp)⟩
theorem turn_map (L : List (Ent × Hd)) (m k : Nat) : (turnL L m k).map Prod.fst = turnL (L.map Prod.fst) m k := by
  unfold turnL
  rw [List.map_filterMap, List.length_map]
  congr 1
  funext i
  rw [List.getElem?_map]

set_option maxRecDepth 100000 in
set_option maxHeartbeats 16000000 in
theorem walk (W : World) (hT : Tab W) (A : Option Addr) (c : Nat) (L : List (Ent × Hd)) (_hlc : L.length ≤ c) (_hc : c ≤ maxLen) (hE : Es W 0 W.heap.size A L) (hln : ∀ p ∈ L, p.1.key.length ≤ 140737488351232 ∧ p.1.val.length ≤ 140737488351232) (hn : L.length ≤ 2199023255552) (a : Int) (ha : (Lit.int .i64 a).wf = true) :
    Calls Tryd.prog 3 #[.slice A L.length c, .int .i64 a] W fun x w' => x = .returned (.bool true) ∧ Below W.heap.size W w' := by
  obtain ⟨a1, a2⟩ := i64_wf ha
  have HKN : Hid (∀ u, Ext W u → Calls Tryd.prog 5 #[] u fun e w' => e = .returned (.bool true) ∧ Below u.heap.size u w') := fun u hu => known_any (hT.ext hu)
  have HF : Hid (∀ u, Ext W u → Calls Tryd.prog 6 #[.slice A L.length c] u fun x w' => ∃ z : Bool, (z = true → FewE L) ∧ x = .returned (.bool z) ∧ Ext u w') := fun u hu => few_any (hE.below hu (Nat.le_refl _)) hu.size (by omega) hln
  have HFILL : Hid (∀ u, Ext W u → FewE L → Calls Tryd.prog 7 #[.slice A L.length c] u (FillAns u (L.map Prod.fst))) := fun u hu hf => fill_any (hE.below hu (Nat.le_refl _)) hu.size (hT.ext hu) hf
  have HTB := Lib.hid hT
  have HE := Lib.hid hE
  have hnI : (L.length : Int) ≤ 2199023255552 := by omega
  clear hT hE hln hn _hlc _hc ha
  go_enter Tryd.func3, Tryd.ntmps3
  go_wp2_with fail
  refine Calls.mono (HKN.out W (Ext.refl _)) ?_
  rintro x w0 ⟨rfl, hx0⟩
  have HX0 : Hid (Ext W w0) := hx0
  clear hx0
  go_wp2_with fail
  refine Calls.mono (HF.out w0 HX0.out) ?_
  rintro x w1 ⟨z, hz, rfl, hx1⟩
  have HX1 : Hid (Ext W w1) := Ext.trans HX0.out hx1
  have HZ := Lib.hid hz
  clear hz hx1 HF
  cases z with
  | false =>
    go_wp2_with fail
    go_ret
    exact ⟨rfl, HX1.out⟩
  | true =>
    have HFEW := Lib.hid (HZ.out rfl)
    by_cases hbig : 100 < L.length
    · have d : decide ((100 : Int) < (L.length : Int)) = true := decide_eq_true (by omega)
      have dn : decide (100 < L.length) = true := decide_eq_true hbig
      clear hbig
      go_wp2_with fail
      go_ret
      exact ⟨rfl, HX1.out⟩
    · have d : decide ((100 : Int) < (L.length : Int)) = false := decide_eq_false (by omega)
      have dn : decide (100 < L.length) = false := decide_eq_false hbig
      by_cases h0 : L.length = 0
      · have d1 : ((L.length : Int) == 0) = true := by rw [h0]; rfl
        have d2 : (L.length == 0) = true := by rw [h0]; rfl
        clear hbig h0
        go_wp2_with fail
        go_ret
        exact ⟨rfl, HX1.out⟩
      · have d1 : ((L.length : Int) == 0) = false := beq_eq_false_iff_ne.2 (by omega)
        have d2 : (L.length == 0) = false := beq_eq_false_iff_ne.2 (by omega)
        by_cases hneg : a < 0
        · have d3 : decide (a < 0) = true := decide_eq_true hneg
          clear hbig h0 hneg
          go_wp2_with fail
          go_ret
          exact ⟨rfl, HX1.out⟩
        · have d3 : decide (a < 0) = false := decide_eq_false hneg
          obtain ⟨q, rfl⟩ : ∃ q : Nat, a = (q : Int) := ⟨a.toNat, by omega⟩
          obtain ⟨m, hm⟩ : ∃ m, m = q % L.length := ⟨_, rfl⟩
          have hml : m < L.length := by rw [hm]; exact Nat.mod_lt _ (by omega)
          have hmI : (q : Int).tmod (L.length : Int) = (m : Int) := by rw [hm, Int.ofNat_tmod]
          have hmE : (q : Int) % (L.length : Int) = (m : Int) := by rw [hm]; simp
          have HML := Lib.hid hml
          have hlen1 : (L.length : Int) ≤ 100 := by omega
          have HL0 : Hid (0 < L.length) := by unfold Hid; omega
          have HL100 : Hid (L.length ≤ 100) := by unfold Hid; omega
          obtain ⟨ba, oa, rfl⟩ := HE.out.base HL0.out
          clear hm hbig h0 hneg hnI a1 a2
          go_upto_region 6 with (fail)
          first | rw [hmI] | rw [hmE] | skip
          clear hmI hmE d3 d1 d2 dn d
          go_wp2_with fail
          go_loopw [5, 6] (fun r i wr => ∃ (k : Nat) (X : Option Addr) (c2 : Nat), k ≤ L.length ∧ i = .int .i64 (k : Int) ∧ r = .slice X k c2 ∧ Hid (wr.ownsRow w1.heap.size 28 4 (.slice X k c2) k (erow (turnL L m k))) ∧ Hid (Ext w1 wr)) (fun _ i _ => L.length - (intOf i).toNat)
          case atStart => exact ⟨0, none, 0, Nat.zero_le _, rfl, rfl, Lib.hid (World.ownsRow_nil _ _ _ _), Lib.hid (Ext.refl _)⟩
          case round =>
            obtain ⟨k, X, c2, hk, rfl, rfl, HR, HX⟩ := hrel
            have HXW : Hid (Ext W wr) := Ext.trans HX1.out HX.out
            by_cases hlt : k < L.length
            · have d : decide ((k : Int) < (L.length : Int)) = true := decide_eq_true (by omega)
              have dn : decide (k < L.length) = true := decide_eq_true hlt
              obtain ⟨j, hj⟩ : ∃ j, j = (m + L.length - k) % L.length := ⟨_, rfl⟩
              have hjl : j < L.length := by rw [hj]; exact Nat.mod_lt _ HL0.out
              have hji : ((m : Int) + (L.length : Int) - (k : Int)).tmod (L.length : Int) = (j : Int) := by rw [hj]; exact turn_idx HML.out hlt
              obtain ⟨p, hp⟩ : ∃ p, L[j]? = some p := ⟨_, List.getElem?_eq_getElem hjl⟩
              obtain ⟨c0, c1, c2', c3⟩ := (HE.out.below HXW.out (Nat.le_refl _)).get hp
              have HTN : Hid (turnL L m (k + 1) = turnL L m k ++ [p]) := turnL_succ (by rw [← hj]; exact hp)
              have HTL : Hid ((turnL L m k).length = k) := turnL_length HL0.out k
              have HR2 : Hid (wr.ownsRow w1.heap.size 28 4 (.slice X k c2) (turnL L m k).length (erow (turnL L m k))) := by rw [HTL.out]; exact HR.out
              have hjI : (j : Int) < (L.length : Int) := by omega
              have hm0 : (m : Int) < (L.length : Int) := by have := HML.out; omega
              have HLT := Lib.hid hlt
              have hj0 : (0 : Int) ≤ (j : Int) := by omega
              have hkI : (k : Int) < (L.length : Int) := by omega
              have hnz : ((L.length : Int) == 0) = false := beq_eq_false_iff_ne.2 (by have := HL0.out; omega)
              clear hp hj hlt hk
              go_wp2_with (at_builtin; refine wpList_addents rfl (.tmp 43) (.tmp 56) rfl w1.heap.size (.slice X k c2) (turnL L m k) rfl (rowN_kept HR2.out fun g' hg' => (ext_alloc wr _).block g' (rowN_lt HR2.out g' hg').2.1) 0 (wr.heap.size + 1) (some ⟨wr.heap.size, 0, none⟩) 1 [p] rfl (.inr ⟨wr.heap.size, 0, rfl, Nat.zero_le _, Nat.lt_succ_self _, fun i v hv => ?cells⟩) (fun e => by cases e) ?len ?hB ?_)
              case cells => rw [Nat.zero_add]; exact cell_of (heap_at _ _ rfl) (k := i) (by simpa [erow, ecells] using hv)
              case len => have := HTL.out; have := HLT.out; have := HL100.out; first | omega | (simp only [List.length_cons, List.length_nil]; omega)
              case hB => exact Nat.le_trans HX.out.size (ext_alloc wr _).size
              intro A6 c6 w6 hrow6 _ hb6
              have HX6 : Hid (Ext w1 w6) := hb6 w1 (Ext.trans HX.out (ext_alloc wr _))
              have HR6 : Hid (w6.ownsRow w1.heap.size 28 4 (.slice A6 (k + 1) c6) (k + 1) (erow (turnL L m (k + 1)))) := by
                have h := hrow6
                simp only [HTL.out] at h
                rw [HTN.out]
                exact h
              rw [HTL.out]
              clear hrow6 hb6 c0 c1 c2' c3
              go_wp2_with fail
              go_roundw
              case rel => exact ⟨k + 1, A6, c6, by have := HLT.out; omega, by go_num, rfl, HR6, HX6⟩
              case measure => have := HLT.out; simp [intOf]; omega
            · have d : decide ((k : Int) < (L.length : Int)) = false := decide_eq_false (by omega)
              have dn : decide (k < L.length) = false := decide_eq_false hlt
              obtain rfl : k = L.length := by omega
              obtain ⟨O, hO⟩ : ∃ O, O = turnL L m L.length := ⟨_, rfl⟩
              have hol : O.length = L.length := by rw [hO]; exact turnL_length HL0.out _
              have hom : ∀ p, p ∈ O ↔ p ∈ L := fun p => by rw [hO]; exact turnL_mem HML.out p
              have hor : wr.ownsRow w1.heap.size 28 4 (.slice X O.length c2) O.length (erow O) := by rw [hol, hO]; exact HR.out
              have hEO : Es wr 0 wr.heap.size X O := ⟨rowM_sl hor, fun p hp => ((HE.out.each p ((hom p).1 hp)).below HXW.out (Nat.le_refl _)).wide (Nat.le_refl _) HXW.out.size⟩
              have hsame := fold_turn (l := L.map Prod.fst) (o := O.map Prod.fst) (fun x => by
                simp only [List.mem_map]
                exact ⟨fun ⟨p, hp, h⟩ => ⟨p, (hom p).1 hp, h⟩, fun ⟨p, hp, h⟩ => ⟨p, (hom p).2 hp, h⟩⟩) (fillE_asc _).asc (fillE_asc _).asc
              have HSAME : Hid ((fillE (L.map Prod.fst)).length = (fillE (O.map Prod.fst)).length ∧ ∀ (i : Nat) (a b : Ent), (fillE (L.map Prod.fst))[i]? = some a → (fillE (O.map Prod.fst))[i]? = some b → cmpE a b = 0) := hsame
              have HFO : Hid (∀ u, Ext wr u → Calls Tryd.prog 7 #[.slice X L.length c2] u (FillAns u (O.map Prod.fst))) := fun u hu => by
                have h := fill_any (c := c2) (hEO.below hu (Nat.le_refl _)) hu.size (HTB.out.ext (Ext.trans HXW.out hu)) (few_turn HFEW.out hol (fun p hp => (hom p).1 hp))
                rw [hol] at h
                exact h
              have HLENF : Hid ((fillE (L.map Prod.fst)).length ≤ L.length) := by have h := fillE_len (L.map Prod.fst); rw [List.length_map] at h; exact h
              have hlen0 : (0 : Int) ≤ (L.length : Int) := by omega
              clear hO hol hom hor hEO hsame hlt hk HR
              go_wp2_with fail
              refine Calls.mono (HFILL.out wr HXW.out HFEW.out) ?_
              rintro x w3 ⟨lb, hb, T, R, A3, c3, rfl, hsk, hte, hrf, hgot, hx3⟩
              have HXA : Hid (Ext wr w3) := hx3
              have HX3 : Hid (Ext W w3) := Ext.trans HXW.out hx3
              have HSK := Lib.hid hsk
              have HTE := Lib.hid (And.intro hte hrf)
              have HGOT := Lib.hid hgot
              clear hsk hte hrf hgot hx3
              go_wp2_with fail
              refine Calls.mono (HFO.out w3 HXA.out) ?_
              rintro x w4 ⟨lb2, hb2, T2, R2, A4, c4, rfl, hsk2, hte2, hrf2, hgot2, hx4⟩
              have hrr : R2.length = R.length := by
                have h1 := congrArg List.length hrf2
                have h2 := congrArg List.length HTE.out.2
                have h3 := HSAME.out.1
                simp only [List.length_map] at h1 h2
                omega
              have htr : T.length = R.length := by have h1 := congrArg List.length HTE.out.1; simpa using h1
              have htr2 : T2.length = R.length := by have h1 := congrArg List.length hte2; simp only [List.length_map] at h1; omega
              have HX4 : Hid (Ext W w4) := Ext.trans HX3.out hx4
              have hs1 := HSK.out.ext hx4
              have HS1 := Lib.hid hs1
              have HS2 := Lib.hid hsk2
              have HG1 := Lib.hid (HGOT.out.below hx4)
              have HG2 := Lib.hid hgot2
              have HRN : Hid (R.length ≤ 100) := by
                have h2 := congrArg List.length HTE.out.2
                have h3 := HLENF.out
                have h4 := HL100.out
                simp only [List.length_map] at h2
                unfold Hid; omega
              have hrn : (R.length : Int) ≤ 100 := by have := HRN.out; omega
              have HLEN1 : Hid (∀ u, Ext w4 u → Calls Tryd.prog 8 #[.pointer (some ⟨lb, 0, none⟩)] u fun e w' => e = .returned (.int .i64 (R.length : Int)) ∧ u = w') := fun u hu => by rw [← htr]; exact slen_any (HS1.out.ext hu)
              have HLEN2 : Hid (∀ u, Ext w4 u → Calls Tryd.prog 8 #[.pointer (some ⟨lb2, 0, none⟩)] u fun e w' => e = .returned (.int .i64 (R.length : Int)) ∧ u = w') := fun u hu => by rw [← htr2]; exact slen_any (HS2.out.ext hu)
              have HLV : Hid (∀ u, Ext w4 u → Calls Tryd.prog 9 #[.pointer (some ⟨lb, 0, none⟩)] u fun e w' => e = .returned (.bool true) ∧ Ext u w') := fun u hu => levels_any (HS1.out.ext hu) (by have := HRN.out; omega)
              have HSM : Hid (∃ z : Bool, (∀ u, Ext w4 u → Calls Tryd.prog 11 #[.slice A3 R.length c3, .slice A4 R.length c4] u fun e w' => e = .returned (.bool z) ∧ Ext u w') ∧ (∀ u, Ext w4 u → Calls Tryd.prog 12 #[.pointer (some ⟨lb, 0, none⟩), .pointer (some ⟨lb2, 0, none⟩)] u fun e w' => e = .returned (.bool z) ∧ Ext u w')) := by
                obtain ⟨z, hz⟩ : ∃ z : Bool, (z = true ↔ R.map Prod.fst = R2.map Prod.fst) := by
                  by_cases h : R.map Prod.fst = R2.map Prod.fst
                  · exact ⟨true, by simp [h]⟩
                  · exact ⟨false, by simp [h]⟩
                have same : ∀ y : Bool, (y = true ↔ R.map Prod.fst = R2.map Prod.fst) → y = z := fun y hy => by
                  cases y <;> cases z
                  · rfl
                  · exact absurd (hy.2 (hz.1 rfl)) (by decide)
                  · exact absurd (hz.2 (hy.1 rfl)) (by decide)
                  · rfl
                refine ⟨z, fun u hu => ?_, fun u hu => ?_⟩
                · have h := rsamelist_any (c := c3) (c2 := c4) ((HG1.out.below hu).rs) ((HG2.out.below hu).rs) (Nat.le_refl _) (Nat.le_refl _) (by have := HRN.out; omega) (by have := HRN.out; omega)
                  rw [hrr] at h
                  refine h.mono ?_
                  rintro x w' ⟨y, hy, rfl, hx⟩
                  rw [same y hy]
                  exact ⟨rfl, hx⟩
                · refine (ssame_any (HS1.out.ext hu) (HS2.out.ext hu)).mono ?_
                  rintro x w' ⟨y, hy, rfl, hx⟩
                  rw [HTE.out.1, hte2] at hy
                  rw [same y hy]
                  exact ⟨rfl, hx⟩
              have HCM : Hid (∀ (i : Nat) (p q : Ent × Hd), R[i]? = some p → R2[i]? = some q → cmpE p.1 q.1 = 0 ∧ p.1.key.length ≤ 32 ∧ q.1.key.length ≤ 32) := fun i p q hp hq => by
                have e1 : (fillE (L.map Prod.fst))[i]? = some p.1 := by rw [← HTE.out.2, List.getElem?_map, hp]; rfl
                have e2 : (fillE (O.map Prod.fst))[i]? = some q.1 := by rw [← hrf2, List.getElem?_map, hq]; rfl
                exact ⟨HSAME.out.2 i _ _ e1 e2, (mayN_iff.1 ((fillE_asc _).may _ (List.mem_of_getElem? e1))).2.1, (mayN_iff.1 ((fillE_asc _).may _ (List.mem_of_getElem? e2))).2.1⟩
              have HR2L : Hid (R2.length = R.length) := hrr
              rw [hrr]
              clear hsk2 hte2 hrf2 hgot2 hx4 hs1 htr htr2 hrr
              go_wp2_with fail
              refine Calls.mono (HLEN1.out w4 (Ext.refl _)) ?_
              rintro x w5 ⟨rfl, he⟩
              rw [← he]
              clear he
              go_wp2_with fail
              refine Calls.mono (HLEN2.out w4 (Ext.refl _)) ?_
              rintro x w5 ⟨rfl, he⟩
              rw [← he]
              clear he
              go_wp2_with fail
              refine Calls.mono (HLV.out w4 (Ext.refl _)) ?_
              rintro x w5 ⟨rfl, hx5⟩
              have HX5 : Hid (Ext w4 w5) := hx5
              clear hx5 HLEN1 HLEN2 HLV
              go_wp2_with fail
              go_loopw [13] (fun i wr => ∃ t : Nat, t ≤ R.length ∧ i = .int .i64 (t : Int) ∧ Hid (Ext w4 wr)) (fun i _ => R.length - (intOf i).toNat)
              case atStart => exact ⟨0, Nat.zero_le _, rfl, HX5⟩
              case round =>
                obtain ⟨t, ht, rfl, HXT⟩ := hrel
                by_cases hlt : t < R.length
                · have d : decide ((t : Int) < (R.length : Int)) = true := decide_eq_true (by omega)
                  have dn : decide (t < R.length) = true := decide_eq_true hlt
                  obtain ⟨p, hp⟩ : ∃ p, R[t]? = some p := ⟨_, List.getElem?_eq_getElem hlt⟩
                  obtain ⟨q', hq⟩ : ∃ q, R2[t]? = some q := ⟨_, List.getElem?_eq_getElem (by rw [HR2L.out]; exact hlt)⟩
                  have hE1 := (HG1.out.below HXT.out).rs
                  have hE2 := (HG2.out.below HXT.out).rs
                  obtain ⟨b, o, rfl⟩ := hE1.base (by omega)
                  obtain ⟨b2, o2, rfl⟩ := hE2.base (by have := HR2L.out; omega)
                  obtain ⟨c0, c1, c2', c3'⟩ := hE1.get hp
                  obtain ⟨e0, e1, e2, e3⟩ := hE2.get hq
                  have hcm := HCM.out t p q' hp hq
                  have HRC : Hid (∀ u, Ext wr u → Calls Tryd.prog 10 #[.agg #[.slice p.2.kA p.1.key.length p.2.kc, .int .i64 p.1.seq, .int .i64 p.1.kind, .slice p.2.vA p.1.val.length p.2.vc], .agg #[.slice q'.2.kA q'.1.key.length q'.2.kc, .int .i64 q'.1.seq, .int .i64 q'.1.kind, .slice q'.2.vA q'.1.val.length q'.2.vc]] u fun x w' => x = .returned (.int .i64 0) ∧ Ext u w') := fun u hu => by
                    have h := rcompare_any ((hE1.each p (List.mem_of_getElem? hp)).below hu (Nat.le_refl _)) ((hE2.each q' (List.mem_of_getElem? hq)).below hu (Nat.le_refl _)) hu.size hu.size (by omega) (by omega)
                    rw [hcm.1] at h
                    exact h
                  have n1 : (0 : Int) ≤ (t : Int) := by omega
                  have n2 : (t : Int) < (R.length : Int) := by omega
                  have HTLT := Lib.hid hlt
                  clear hp hq hE1 hE2 hcm hlt ht
                  go_upto_region 18 with (fail)
                  refine flow (by kernel_rfl) [Is (.slice (some ⟨b, o, none⟩) R.length c3), Is (.int .i64 (t : Int)), Is (.pointer (some ⟨b, o + t * 4, none⟩)), Is (.agg #[.slice p.2.kA p.1.key.length p.2.kc, .int .i64 p.1.seq, .int .i64 p.1.kind, .slice p.2.vA p.1.val.length p.2.vc]), Is (.slice (some ⟨b2, o2, none⟩) R.length c4), Is (.int .i64 (t : Int)), Is (.pointer (some ⟨b2, o2 + t * 4, none⟩)), Is (.agg #[.slice q'.2.kA q'.1.key.length q'.2.kc, .int .i64 q'.1.seq, .int .i64 q'.1.kind, .slice q'.2.vA q'.1.val.length q'.2.vc]), Is (.int .i64 0), Is (.bool false)] (by kernel_rfl) (by kernel_rfl) ?mono (fun f1 => ?obl) ?fin
                  case mono =>
                    simp only [List.forall_mem_cons, List.not_mem_nil, false_imp_iff, implies_true, and_true]
                    exact ⟨.is _, .is _, .is _, .is _, .is _, .is _, .is _, .is _, .is _, .is _⟩
                  case fin =>
                    intro g1 u hu hg
                    simp only [puts, Act.put, List.setIfInBounds_toArray, List.set_cons_zero, List.set_cons_succ]
                    have h9 : g1 9 = .bool false := hg 9 (by decide)
                    rw [h9]
                    have HXU : Hid (Ext w4 u) := Ext.trans HXT.out (Ext.trans (Ext.drew wr) hu)
                    clear hg hu h9 c0 c1 c2' c3' e0 e1 e2 e3
                    go_wp2_with fail
                    go_roundw
                    case rel => exact ⟨t + 1, by have := HTLT.out; omega, by go_num, HXU⟩
                    case measure => have := HTLT.out; simp [intOf]; omega
                  case obl =>
                    refine ⟨fun u hu hd => ?_, ?_⟩
                    · go_simp
                      exact ⟨Ext.refl _, rfl⟩
                    refine ⟨fun u hu hd => ?_, ?_⟩
                    · simp only [Act.put, List.setIfInBounds_toArray, List.set_cons_zero, List.set_cons_succ]
                      go_simp
                      exact ⟨Ext.refl _, rfl⟩
                    refine ⟨fun u hu hd => ?_, ?_⟩
                    · simp only [Act.put, List.setIfInBounds_toArray, List.set_cons_zero, List.set_cons_succ]
                      have e0 : f1 0 = .slice (some ⟨b, o, none⟩) R.length c3 := hd 0 (by kernel_rfl)
                      have e1 : f1 1 = .int .i64 (t : Int) := hd 1 (by kernel_rfl)
                      go_simp
                      exact ⟨Ext.refl _, rfl⟩
                    refine ⟨fun u hu hd => ?_, ?_⟩
                    · simp only [Act.put, List.setIfInBounds_toArray, List.set_cons_zero, List.set_cons_succ]
                      have e2 : f1 2 = .pointer (some ⟨b, o + t * 4, none⟩) := hd 2 (by kernel_rfl)
                      have hu2 := Ext.trans (Ext.drew wr) hu
                      have q0 := ext_cell hu2 c0
                      have q1 := ext_cell hu2 c1
                      have q2 := ext_cell hu2 c2'
                      have q3 := ext_cell hu2 c3'
                      go_simp
                      exact ⟨Ext.refl _, rfl⟩
                    refine ⟨fun u hu hd => ?_, ?_⟩
                    · simp only [Act.put, List.setIfInBounds_toArray, List.set_cons_zero, List.set_cons_succ]
                      go_simp
                      exact ⟨Ext.refl _, rfl⟩
                    refine ⟨fun u hu hd => ?_, ?_⟩
                    · simp only [Act.put, List.setIfInBounds_toArray, List.set_cons_zero, List.set_cons_succ]
                      go_simp
                      exact ⟨Ext.refl _, rfl⟩
                    refine ⟨fun u hu hd => ?_, ?_⟩
                    · simp only [Act.put, List.setIfInBounds_toArray, List.set_cons_zero, List.set_cons_succ]
                      have e4 : f1 4 = .slice (some ⟨b2, o2, none⟩) R.length c4 := hd 4 (by kernel_rfl)
                      have e5 : f1 5 = .int .i64 (t : Int) := hd 5 (by kernel_rfl)
                      go_simp
                      exact ⟨Ext.refl _, rfl⟩
                    refine ⟨fun u hu hd => ?_, ?_⟩
                    · simp only [Act.put, List.setIfInBounds_toArray, List.set_cons_zero, List.set_cons_succ]
                      have e6 : f1 6 = .pointer (some ⟨b2, o2 + t * 4, none⟩) := hd 6 (by kernel_rfl)
                      have hu2 := Ext.trans (Ext.drew wr) hu
                      have q0 := ext_cell hu2 e0
                      have q1 := ext_cell hu2 e1
                      have q2 := ext_cell hu2 e2
                      have q3 := ext_cell hu2 e3
                      go_simp
                      exact ⟨Ext.refl _, rfl⟩
                    refine ⟨fun u hu hd => ?_, ?_⟩
                    · simp only [Act.put, List.setIfInBounds_toArray, List.set_cons_zero, List.set_cons_succ]
                      have e3 : f1 3 = .agg #[.slice p.2.kA p.1.key.length p.2.kc, .int .i64 p.1.seq, .int .i64 p.1.kind, .slice p.2.vA p.1.val.length p.2.vc] := hd 3 (by kernel_rfl)
                      have e7 : f1 7 = .agg #[.slice q'.2.kA q'.1.key.length q'.2.kc, .int .i64 q'.1.seq, .int .i64 q'.1.kind, .slice q'.2.vA q'.1.val.length q'.2.vc] := hd 7 (by kernel_rfl)
                      have hu2 := Ext.trans (Ext.drew wr) hu
                      go_simp
                      refine (HRC.out u hu2).mono ?_
                      rintro x w9 ⟨rfl, hx9⟩
                      exact ⟨_, rfl, hx9, rfl⟩
                    refine ⟨fun u hu hd => ?_, ?_⟩
                    · simp only [Act.put, List.setIfInBounds_toArray, List.set_cons_zero, List.set_cons_succ]
                      have e8 : f1 8 = .int .i64 0 := hd 8 (by kernel_rfl)
                      go_simp
                      exact ⟨Ext.refl _, rfl⟩
                    trivial
                · have d : decide ((t : Int) < (R.length : Int)) = false := decide_eq_false (by omega)
                  have dn : decide (t < R.length) = false := decide_eq_false hlt
                  obtain ⟨z, hs1, hs2⟩ := HSM.out
                  have HS3 := Lib.hid hs1
                  have HS4 := Lib.hid hs2
                  clear hs1 hs2 HSM
                  go_wp2_with fail
                  refine Calls.mono (HS3.out wr HXT.out) ?_
                  rintro x w6 ⟨rfl, hx6⟩
                  have HX6 : Hid (Ext w4 w6) := Ext.trans HXT.out hx6
                  clear hx6
                  go_wp2_with fail
                  refine Calls.mono (HS4.out w6 HX6.out) ?_
                  rintro x w7 ⟨rfl, hx7⟩
                  have HX7 : Hid (Ext W w7) := Ext.trans HX4.out (Ext.trans HX6.out hx7)
                  clear hx7
                  cases z with
                  | true =>
                    go_wp2_with fail
                    go_ret
                    exact ⟨rfl, HX7.out⟩
                  | false =>
                    go_wp2_with fail
                    go_ret
                    exact ⟨rfl, HX7.out⟩
end Go.Proofs.YtepaaffebhinlaaDoor.skipOrder
