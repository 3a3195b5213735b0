/- Ssame Snil Snothing Lsnil, joined. -/
import Derived.Test.YtepaaffebhinlaaDoorNa12
import Derived.Test.YtepaaffebhinlaaDoorNa7
import Derived.Test.YtepaaffebhinlaaDoorNa9
import Derived.Lib.SmallJoins

/- skip's Same. -/
namespace Go.Proofs.YtepaaffebhinlaaDoor
open Go.ChangeShapes Go.WideShapes Go.ChangeAt Go.RowKit

theorem Sk.tow {w : World} {D : Nat → Prop} {lb hb : Nat} {T : List Tw} (h : Sk w D lb hb T) {i : Nat} {t : Tw} (hi : T[i]? = some t) : ∃ (g : Hd) (born : Int), w.heap[t.b]? = some (.cells (tcells t g born (T.drop (i + 1))) 63 (0, 0)) ∧ Em w 0 w.heap.size t.e g := by
  obtain ⟨g, born, h1, _, _, h4⟩ := Tm.em (h.chain (i + 1) t (by simpa using hi)) (h.ins t (List.mem_of_getElem? hi))
  exact ⟨g, born, by simpa using h1, h4⟩
theorem Sk.tall {w : World} {D : Nat → Prop} {lb hb : Nat} {T : List Tw} (h : Sk w D lb hb T) : ∀ t ∈ T, 1 ≤ t.h := fun t ht => by
  have h1 := h.hts t ht
  have h2 := hgt_le t.e.key t.e.seq
  omega
theorem Sk.nx {w : World} {D : Nat → Prop} {lb hb : Nat} {T : List Tw} (h : Sk w D lb hb T) (i : Nat) : nxt 0 (T.drop i) = (T[i]?).map Tw.b := by
  rw [nxt_first (fun t ht => h.tall t (List.mem_of_mem_drop ht)), List.head?_drop]
theorem Sk.first {w : World} {D : Nat → Prop} {lb hb : Nat} {T : List Tw} (h : Sk w D lb hb T) : w.cell? ⟨hb, 5, none⟩ = some (optp (nxt 0 T)) := by
  obtain ⟨_, g, born, h1, _⟩ := h.chain 0 (headT hb) rfl
  exact cell_of h1 (k := 5) rfl
theorem tow_next {t : Tw} (h : 1 ≤ t.h) (R : List Tw) : nextOf t R 0 = optp (nxt 0 R) := by unfold nextOf; rw [if_pos (by omega)]
theorem take_same {T T' : List Tw} {i : Nat} {t t' : Tw} (h : (T.take i).map Tw.e = (T'.take i).map Tw.e) (ht : T[i]? = some t) (ht' : T'[i]? = some t') : ((T.take (i + 1)).map Tw.e = (T'.take (i + 1)).map Tw.e ↔ t.e = t'.e) := by
  rw [List.take_add_one, List.take_add_one, ht, ht', List.map_append, List.map_append, h]
  simp
theorem not_same {T T' : List Tw} {i : Nat} {t t' : Tw} (ht : T[i]? = some t) (ht' : T'[i]? = some t') (hne : t.e ≠ t'.e) : T.map Tw.e ≠ T'.map Tw.e := fun h => by
  have h1 := congrArg (fun l : List Ent => l[i]?) h
  simp [ht, ht'] at h1
  exact hne h1

set_option maxRecDepth 100000 in
set_option maxHeartbeats 16000000 in
theorem ssame_any {w : World} {D D' : Nat → Prop} {lb hb lb' hb' : Nat} {T T' : List Tw} (h : Sk w D lb hb T) (h' : Sk w D' lb' hb' T') :
    Calls Tryd.prog 12 #[.pointer (some ⟨lb, 0, none⟩), .pointer (some ⟨lb', 0, none⟩)] w fun e w' => ∃ z : Bool, (z = true ↔ T.map Tw.e = T'.map Tw.e) ∧ e = .returned (.bool z) ∧ Ext w w' := by
  have HA := Lib.hid h
  have HB := Lib.hid h'
  have HN1 := Lib.hid (none_no h.list)
  have HN2 := Lib.hid (none_no h'.list)
  have l0 := cell_of (v := .pointer (some ⟨hb, 0, none⟩)) h.list (k := 0) rfl
  have m0 := cell_of (v := .pointer (some ⟨hb', 0, none⟩)) h'.list (k := 0) rfl
  have l5 := h.first
  have m5 := h'.first
  obtain ⟨xa, hxa⟩ : ∃ xa, xa = optp (nxt 0 T) := ⟨_, rfl⟩
  obtain ⟨xb, hxb⟩ : ∃ xb, xb = optp (nxt 0 T') := ⟨_, rfl⟩
  have HXA := Lib.hid hxa
  have HXB := Lib.hid hxb
  rw [← hxa] at l5
  rw [← hxb] at m5
  clear h h' hxa hxb
  go_enter Tryd.func12, Tryd.ntmps12
  go_wp2_with fail
  refine Calls.mono HN1.out ?_
  rintro e w' ⟨rfl, hw'⟩
  have hw' := hw'.symm
  subst hw'
  go_wp2_with fail
  refine Calls.mono HN2.out ?_
  rintro e w' ⟨rfl, hw'⟩
  have hw' := hw'.symm
  subst hw'
  go_upto_region 3 with (fail)
  refine flow (by kernel_rfl) [Is (.pointer (some ⟨lb, 0, none⟩)), Is (.pointer (some ⟨lb, 0, none⟩)), Is (.pointer (some ⟨lb, 0, none⟩)), Is (.pointer (some ⟨hb, 0, none⟩)), Is (.pointer (some ⟨hb, 0, none⟩)), Is (.pointer (some ⟨hb, 5, none⟩)), Is (.pointer (some ⟨hb, 5 + 0, none⟩)), Is (xa), Is (.pointer (some ⟨lb', 0, none⟩)), Is (.pointer (some ⟨lb', 0, none⟩)), Is (.pointer (some ⟨lb', 0, none⟩)), Is (.pointer (some ⟨hb', 0, none⟩)), Is (.pointer (some ⟨hb', 0, none⟩)), Is (.pointer (some ⟨hb', 5, none⟩)), Is (.pointer (some ⟨hb', 5 + 0, none⟩)), Is (xb), Is (xa), Is (xb)] (by kernel_rfl) (by kernel_rfl) ?mono (fun f1 => ?obl) ?fin
  case mono =>
    simp only [List.forall_mem_cons, List.not_mem_nil, false_imp_iff, implies_true, and_true]
    exact ⟨.is _, .is _, .is _, .is _, .is _, .is _, .is _, .is _, .is _, .is _, .is _, .is _, .is _, .is _, .is _, .is _, .is _, .is _⟩
  case fin =>
    intro g1 w1 hu hg
    simp only [puts, Act.put, List.setIfInBounds_toArray, List.set_cons_zero, List.set_cons_succ]
    have h16 : g1 16 = xa := hg 16 (by decide)
    have h17 : g1 17 = xb := hg 17 (by decide)
    rw [h16, h17]
    have HX1 : Hid (Ext w w1) := Ext.trans (Ext.drew w) hu
    clear h16 h17 hg hu l0 m0 l5 m5
    go_wp2_with fail
    go_loopg [5, 6] (T.length + 1) (fun k a b wr => ∃ i : Nat, i ≤ T.length ∧ i ≤ T'.length ∧ k + i = T.length + 1 ∧ a = optp (nxt 0 (T.drop i)) ∧ b = optp (nxt 0 (T'.drop i)) ∧ Hid ((T.take i).map Tw.e = (T'.take i).map Tw.e) ∧ Hid (Ext w wr))
    case atStart => exact ⟨0, Nat.zero_le _, Nat.zero_le _, rfl, HXA.out, HXB.out, Lib.hid rfl, HX1⟩
    case round =>
      obtain ⟨i, hi, hi', hki, rfl, rfl, HT, HX⟩ := hrel
      rw [HA.out.nx, HB.out.nx]
      have HKI := Lib.hid hki
      cases ht : T[i]? with
      | none =>
        have HTL : Hid (T.length = i) := by have := List.getElem?_eq_none_iff.1 ht; unfold Hid; omega
        cases ht' : T'[i]? with
        | none =>
          have HTL' : Hid (T'.length = i) := by have := List.getElem?_eq_none_iff.1 ht'; unfold Hid; omega
          clear ht ht' hi hi' hki
          dsimp only [Option.map, optp]
          go_upto_region 4 with (fail)
          refine flow (by kernel_rfl) [Is (.pointer none), Is (.bool false), Is (.bool false), Is undef, Is undef, Is (.bool false), Is (.bool false), Is undef, Is undef, Is undef, Is undef, Is undef, Is undef, Is undef, Is undef, Is undef, Is (.bool false)] (by kernel_rfl) (by kernel_rfl) ?monoN (fun f1 => ?oblN) ?finN
          case monoN =>
            simp only [List.forall_mem_cons, List.not_mem_nil, false_imp_iff, implies_true, and_true]
            exact ⟨.is _, .is _, .is _, .is _, .is _, .is _, .is _, .is _, .is _, .is _, .is _, .is _, .is _, .is _, .is _, .is _, .is _⟩
          case finN =>
            intro g2 w5 hu hg
            simp only [puts, Act.put, List.setIfInBounds_toArray, List.set_cons_zero, List.set_cons_succ]
            have h16 : g2 16 = .bool false := hg 16 (by decide)
            rw [h16]
            have HX5 : Hid (Ext w w5) := Ext.trans HX.out (Ext.trans (Ext.drew wr) hu)
            clear h16 hg hu
            go_wp2_with fail
            go_ret
            exact ⟨true, ⟨fun _ => by have h1 := HT.out; rwa [List.take_of_length_le (Nat.le_of_eq HTL.out), List.take_of_length_le (Nat.le_of_eq HTL'.out)] at h1, fun _ => rfl⟩, rfl, HX5.out⟩
          case oblN =>
            refine ⟨fun u hu hd => ?_, ?_⟩
            · go_simp
              exact ⟨Ext.refl _, rfl⟩
            refine ⟨fun u hu hd => ?_, ?_⟩
            · simp only [Act.put, List.setIfInBounds_toArray, List.set_cons_zero, List.set_cons_succ]
              have e0 : f1 0 = .pointer none := hd 0 (by kernel_rfl)
              go_simp
              exact ⟨Ext.refl _, rfl⟩
            refine ⟨fun u hu hd => ?_, ?_⟩
            · simp only [Act.put, List.setIfInBounds_toArray, List.set_cons_zero, List.set_cons_succ]
              have e1 : f1 1 = .bool false := hd 1 (by kernel_rfl)
              go_simp
              exact ⟨Ext.refl _, rfl⟩
            refine ⟨fun u hu hd => ?_, ?_⟩
            · simp only [Act.put, List.setIfInBounds_toArray, List.set_cons_zero, List.set_cons_succ]
              have e2 : f1 2 = .bool false := hd 2 (by kernel_rfl)
              go_simp
              rfl
            refine ⟨fun u hu hd => ?_, ?_⟩
            · simp only [Act.put, List.setIfInBounds_toArray, List.set_cons_zero, List.set_cons_succ]
              have e2 : f1 2 = .bool false := hd 2 (by kernel_rfl)
              go_simp
              rfl
            refine ⟨fun u hu hd => ?_, ?_⟩
            · simp only [Act.put, List.setIfInBounds_toArray, List.set_cons_zero, List.set_cons_succ]
              have e2 : f1 2 = .bool false := hd 2 (by kernel_rfl)
              go_simp
              exact ⟨Ext.refl _, rfl⟩
            refine ⟨fun u hu hd => ?_, ?_⟩
            · simp only [Act.put, List.setIfInBounds_toArray, List.set_cons_zero, List.set_cons_succ]
              have e5 : f1 5 = .bool false := hd 5 (by kernel_rfl)
              go_simp
              exact ⟨Ext.refl _, rfl⟩
            refine ⟨fun u hu hd => ?_, ?_⟩
            · simp only [Act.put, List.setIfInBounds_toArray, List.set_cons_zero, List.set_cons_succ]
              have e6 : f1 6 = .bool false := hd 6 (by kernel_rfl)
              go_simp
              rfl
            refine ⟨fun u hu hd => ?_, ?_⟩
            · simp only [Act.put, List.setIfInBounds_toArray, List.set_cons_zero, List.set_cons_succ]
              have e6 : f1 6 = .bool false := hd 6 (by kernel_rfl)
              go_simp
              rfl
            refine ⟨fun u hu hd => ?_, ?_⟩
            · simp only [Act.put, List.setIfInBounds_toArray, List.set_cons_zero, List.set_cons_succ]
              have e6 : f1 6 = .bool false := hd 6 (by kernel_rfl)
              go_simp
              rfl
            refine ⟨fun u hu hd => ?_, ?_⟩
            · simp only [Act.put, List.setIfInBounds_toArray, List.set_cons_zero, List.set_cons_succ]
              have e6 : f1 6 = .bool false := hd 6 (by kernel_rfl)
              go_simp
              rfl
            refine ⟨fun u hu hd => ?_, ?_⟩
            · simp only [Act.put, List.setIfInBounds_toArray, List.set_cons_zero, List.set_cons_succ]
              have e6 : f1 6 = .bool false := hd 6 (by kernel_rfl)
              go_simp
              rfl
            refine ⟨fun u hu hd => ?_, ?_⟩
            · simp only [Act.put, List.setIfInBounds_toArray, List.set_cons_zero, List.set_cons_succ]
              have e6 : f1 6 = .bool false := hd 6 (by kernel_rfl)
              go_simp
              rfl
            refine ⟨fun u hu hd => ?_, ?_⟩
            · simp only [Act.put, List.setIfInBounds_toArray, List.set_cons_zero, List.set_cons_succ]
              have e6 : f1 6 = .bool false := hd 6 (by kernel_rfl)
              go_simp
              rfl
            refine ⟨fun u hu hd => ?_, ?_⟩
            · simp only [Act.put, List.setIfInBounds_toArray, List.set_cons_zero, List.set_cons_succ]
              have e6 : f1 6 = .bool false := hd 6 (by kernel_rfl)
              go_simp
              rfl
            refine ⟨fun u hu hd => ?_, ?_⟩
            · simp only [Act.put, List.setIfInBounds_toArray, List.set_cons_zero, List.set_cons_succ]
              have e6 : f1 6 = .bool false := hd 6 (by kernel_rfl)
              go_simp
              rfl
            refine ⟨fun u hu hd => ?_, ?_⟩
            · simp only [Act.put, List.setIfInBounds_toArray, List.set_cons_zero, List.set_cons_succ]
              have e6 : f1 6 = .bool false := hd 6 (by kernel_rfl)
              go_simp
              exact ⟨Ext.refl _, rfl⟩
            trivial
        | some t' =>
          have HT' := Lib.hid ht'
          clear ht ht' hi hi' hki
          dsimp only [Option.map, optp]
          go_upto_region 4 with (fail)
          refine flow (by kernel_rfl) [Is (.pointer none), Is (.bool false), Is (.bool false), Is undef, Is undef, Is (.bool false), Is (.bool false), Is undef, Is undef, Is undef, Is undef, Is undef, Is undef, Is undef, Is undef, Is undef, Is (.bool false)] (by kernel_rfl) (by kernel_rfl) ?monoM (fun f1 => ?oblM) ?finM
          case monoM =>
            simp only [List.forall_mem_cons, List.not_mem_nil, false_imp_iff, implies_true, and_true]
            exact ⟨.is _, .is _, .is _, .is _, .is _, .is _, .is _, .is _, .is _, .is _, .is _, .is _, .is _, .is _, .is _, .is _, .is _⟩
          case finM =>
            intro g2 w5 hu hg
            simp only [puts, Act.put, List.setIfInBounds_toArray, List.set_cons_zero, List.set_cons_succ]
            have h16 : g2 16 = .bool false := hg 16 (by decide)
            rw [h16]
            have HX5 : Hid (Ext w w5) := Ext.trans HX.out (Ext.trans (Ext.drew wr) hu)
            clear h16 hg hu
            go_wp2_with fail
            go_ret
            exact ⟨false, ⟨fun h => (by cases h), fun h => (by have h1 := congrArg List.length h; have h2 := (List.getElem?_eq_some_iff.1 HT'.out).1; have h3 := HTL.out; simp only [List.length_map] at h1; omega)⟩, rfl, HX5.out⟩
          case oblM =>
            refine ⟨fun u hu hd => ?_, ?_⟩
            · go_simp
              exact ⟨Ext.refl _, rfl⟩
            refine ⟨fun u hu hd => ?_, ?_⟩
            · simp only [Act.put, List.setIfInBounds_toArray, List.set_cons_zero, List.set_cons_succ]
              have e0 : f1 0 = .pointer none := hd 0 (by kernel_rfl)
              go_simp
              exact ⟨Ext.refl _, rfl⟩
            refine ⟨fun u hu hd => ?_, ?_⟩
            · simp only [Act.put, List.setIfInBounds_toArray, List.set_cons_zero, List.set_cons_succ]
              have e1 : f1 1 = .bool false := hd 1 (by kernel_rfl)
              go_simp
              exact ⟨Ext.refl _, rfl⟩
            refine ⟨fun u hu hd => ?_, ?_⟩
            · simp only [Act.put, List.setIfInBounds_toArray, List.set_cons_zero, List.set_cons_succ]
              have e2 : f1 2 = .bool false := hd 2 (by kernel_rfl)
              go_simp
              rfl
            refine ⟨fun u hu hd => ?_, ?_⟩
            · simp only [Act.put, List.setIfInBounds_toArray, List.set_cons_zero, List.set_cons_succ]
              have e2 : f1 2 = .bool false := hd 2 (by kernel_rfl)
              go_simp
              rfl
            refine ⟨fun u hu hd => ?_, ?_⟩
            · simp only [Act.put, List.setIfInBounds_toArray, List.set_cons_zero, List.set_cons_succ]
              have e2 : f1 2 = .bool false := hd 2 (by kernel_rfl)
              go_simp
              exact ⟨Ext.refl _, rfl⟩
            refine ⟨fun u hu hd => ?_, ?_⟩
            · simp only [Act.put, List.setIfInBounds_toArray, List.set_cons_zero, List.set_cons_succ]
              have e5 : f1 5 = .bool false := hd 5 (by kernel_rfl)
              go_simp
              exact ⟨Ext.refl _, rfl⟩
            refine ⟨fun u hu hd => ?_, ?_⟩
            · simp only [Act.put, List.setIfInBounds_toArray, List.set_cons_zero, List.set_cons_succ]
              have e6 : f1 6 = .bool false := hd 6 (by kernel_rfl)
              go_simp
              rfl
            refine ⟨fun u hu hd => ?_, ?_⟩
            · simp only [Act.put, List.setIfInBounds_toArray, List.set_cons_zero, List.set_cons_succ]
              have e6 : f1 6 = .bool false := hd 6 (by kernel_rfl)
              go_simp
              rfl
            refine ⟨fun u hu hd => ?_, ?_⟩
            · simp only [Act.put, List.setIfInBounds_toArray, List.set_cons_zero, List.set_cons_succ]
              have e6 : f1 6 = .bool false := hd 6 (by kernel_rfl)
              go_simp
              rfl
            refine ⟨fun u hu hd => ?_, ?_⟩
            · simp only [Act.put, List.setIfInBounds_toArray, List.set_cons_zero, List.set_cons_succ]
              have e6 : f1 6 = .bool false := hd 6 (by kernel_rfl)
              go_simp
              rfl
            refine ⟨fun u hu hd => ?_, ?_⟩
            · simp only [Act.put, List.setIfInBounds_toArray, List.set_cons_zero, List.set_cons_succ]
              have e6 : f1 6 = .bool false := hd 6 (by kernel_rfl)
              go_simp
              rfl
            refine ⟨fun u hu hd => ?_, ?_⟩
            · simp only [Act.put, List.setIfInBounds_toArray, List.set_cons_zero, List.set_cons_succ]
              have e6 : f1 6 = .bool false := hd 6 (by kernel_rfl)
              go_simp
              rfl
            refine ⟨fun u hu hd => ?_, ?_⟩
            · simp only [Act.put, List.setIfInBounds_toArray, List.set_cons_zero, List.set_cons_succ]
              have e6 : f1 6 = .bool false := hd 6 (by kernel_rfl)
              go_simp
              rfl
            refine ⟨fun u hu hd => ?_, ?_⟩
            · simp only [Act.put, List.setIfInBounds_toArray, List.set_cons_zero, List.set_cons_succ]
              have e6 : f1 6 = .bool false := hd 6 (by kernel_rfl)
              go_simp
              rfl
            refine ⟨fun u hu hd => ?_, ?_⟩
            · simp only [Act.put, List.setIfInBounds_toArray, List.set_cons_zero, List.set_cons_succ]
              have e6 : f1 6 = .bool false := hd 6 (by kernel_rfl)
              go_simp
              rfl
            refine ⟨fun u hu hd => ?_, ?_⟩
            · simp only [Act.put, List.setIfInBounds_toArray, List.set_cons_zero, List.set_cons_succ]
              have e6 : f1 6 = .bool false := hd 6 (by kernel_rfl)
              go_simp
              exact ⟨Ext.refl _, rfl⟩
            trivial
      | some t =>
        have HTS := Lib.hid ht
        cases ht' : T'[i]? with
        | none =>
          have HTL' : Hid (T'.length = i) := by have := List.getElem?_eq_none_iff.1 ht'; unfold Hid; omega
          clear ht ht' hi hi' hki
          dsimp only [Option.map, optp]
          go_upto_region 4 with (fail)
          refine flow (by kernel_rfl) [Is (.pointer (some ⟨t.b, 0, none⟩)), Is (.bool true), Is (.bool true), Is (.pointer none), Is (.bool false), Is (.bool false), Is (.bool false), Is undef, Is undef, Is undef, Is undef, Is undef, Is undef, Is undef, Is undef, Is undef, Is (.bool false)] (by kernel_rfl) (by kernel_rfl) ?monoS (fun f1 => ?oblS) ?finS
          case monoS =>
            simp only [List.forall_mem_cons, List.not_mem_nil, false_imp_iff, implies_true, and_true]
            exact ⟨.is _, .is _, .is _, .is _, .is _, .is _, .is _, .is _, .is _, .is _, .is _, .is _, .is _, .is _, .is _, .is _, .is _⟩
          case finS =>
            intro g2 w5 hu hg
            simp only [puts, Act.put, List.setIfInBounds_toArray, List.set_cons_zero, List.set_cons_succ]
            have h16 : g2 16 = .bool false := hg 16 (by decide)
            rw [h16]
            have HX5 : Hid (Ext w w5) := Ext.trans HX.out (Ext.trans (Ext.drew wr) hu)
            clear h16 hg hu
            go_wp2_with fail
            go_ret
            exact ⟨false, ⟨fun h => (by cases h), fun h => (by have h1 := congrArg List.length h; have h2 := (List.getElem?_eq_some_iff.1 HTS.out).1; have h3 := HTL'.out; simp only [List.length_map] at h1; omega)⟩, rfl, HX5.out⟩
          case oblS =>
            refine ⟨fun u hu hd => ?_, ?_⟩
            · go_simp
              exact ⟨Ext.refl _, rfl⟩
            refine ⟨fun u hu hd => ?_, ?_⟩
            · simp only [Act.put, List.setIfInBounds_toArray, List.set_cons_zero, List.set_cons_succ]
              have e0 : f1 0 = .pointer (some ⟨t.b, 0, none⟩) := hd 0 (by kernel_rfl)
              go_simp
              exact ⟨Ext.refl _, rfl⟩
            refine ⟨fun u hu hd => ?_, ?_⟩
            · simp only [Act.put, List.setIfInBounds_toArray, List.set_cons_zero, List.set_cons_succ]
              have e1 : f1 1 = .bool true := hd 1 (by kernel_rfl)
              go_simp
              exact ⟨Ext.refl _, rfl⟩
            refine ⟨fun u hu hd => ?_, ?_⟩
            · simp only [Act.put, List.setIfInBounds_toArray, List.set_cons_zero, List.set_cons_succ]
              have e2 : f1 2 = .bool true := hd 2 (by kernel_rfl)
              go_simp
              exact ⟨Ext.refl _, rfl⟩
            refine ⟨fun u hu hd => ?_, ?_⟩
            · simp only [Act.put, List.setIfInBounds_toArray, List.set_cons_zero, List.set_cons_succ]
              have e2 : f1 2 = .bool true := hd 2 (by kernel_rfl)
              have e3 : f1 3 = .pointer none := hd 3 (by kernel_rfl)
              go_simp
              exact ⟨Ext.refl _, rfl⟩
            refine ⟨fun u hu hd => ?_, ?_⟩
            · simp only [Act.put, List.setIfInBounds_toArray, List.set_cons_zero, List.set_cons_succ]
              have e2 : f1 2 = .bool true := hd 2 (by kernel_rfl)
              have e4 : f1 4 = .bool false := hd 4 (by kernel_rfl)
              go_simp
              exact ⟨Ext.refl _, rfl⟩
            refine ⟨fun u hu hd => ?_, ?_⟩
            · simp only [Act.put, List.setIfInBounds_toArray, List.set_cons_zero, List.set_cons_succ]
              have e5 : f1 5 = .bool false := hd 5 (by kernel_rfl)
              go_simp
              exact ⟨Ext.refl _, rfl⟩
            refine ⟨fun u hu hd => ?_, ?_⟩
            · simp only [Act.put, List.setIfInBounds_toArray, List.set_cons_zero, List.set_cons_succ]
              have e6 : f1 6 = .bool false := hd 6 (by kernel_rfl)
              go_simp
              rfl
            refine ⟨fun u hu hd => ?_, ?_⟩
            · simp only [Act.put, List.setIfInBounds_toArray, List.set_cons_zero, List.set_cons_succ]
              have e6 : f1 6 = .bool false := hd 6 (by kernel_rfl)
              go_simp
              rfl
            refine ⟨fun u hu hd => ?_, ?_⟩
            · simp only [Act.put, List.setIfInBounds_toArray, List.set_cons_zero, List.set_cons_succ]
              have e6 : f1 6 = .bool false := hd 6 (by kernel_rfl)
              go_simp
              rfl
            refine ⟨fun u hu hd => ?_, ?_⟩
            · simp only [Act.put, List.setIfInBounds_toArray, List.set_cons_zero, List.set_cons_succ]
              have e6 : f1 6 = .bool false := hd 6 (by kernel_rfl)
              go_simp
              rfl
            refine ⟨fun u hu hd => ?_, ?_⟩
            · simp only [Act.put, List.setIfInBounds_toArray, List.set_cons_zero, List.set_cons_succ]
              have e6 : f1 6 = .bool false := hd 6 (by kernel_rfl)
              go_simp
              rfl
            refine ⟨fun u hu hd => ?_, ?_⟩
            · simp only [Act.put, List.setIfInBounds_toArray, List.set_cons_zero, List.set_cons_succ]
              have e6 : f1 6 = .bool false := hd 6 (by kernel_rfl)
              go_simp
              rfl
            refine ⟨fun u hu hd => ?_, ?_⟩
            · simp only [Act.put, List.setIfInBounds_toArray, List.set_cons_zero, List.set_cons_succ]
              have e6 : f1 6 = .bool false := hd 6 (by kernel_rfl)
              go_simp
              rfl
            refine ⟨fun u hu hd => ?_, ?_⟩
            · simp only [Act.put, List.setIfInBounds_toArray, List.set_cons_zero, List.set_cons_succ]
              have e6 : f1 6 = .bool false := hd 6 (by kernel_rfl)
              go_simp
              rfl
            refine ⟨fun u hu hd => ?_, ?_⟩
            · simp only [Act.put, List.setIfInBounds_toArray, List.set_cons_zero, List.set_cons_succ]
              have e6 : f1 6 = .bool false := hd 6 (by kernel_rfl)
              go_simp
              rfl
            refine ⟨fun u hu hd => ?_, ?_⟩
            · simp only [Act.put, List.setIfInBounds_toArray, List.set_cons_zero, List.set_cons_succ]
              have e6 : f1 6 = .bool false := hd 6 (by kernel_rfl)
              go_simp
              exact ⟨Ext.refl _, rfl⟩
            trivial
        | some t' =>
          have HTS' := Lib.hid ht'
          have HLT : Hid (i < T.length ∧ i < T'.length) := ⟨(List.getElem?_eq_some_iff.1 ht).1, (List.getElem?_eq_some_iff.1 ht').1⟩
          obtain ⟨g, born, hb1, hm1⟩ := (HA.out.ext HX.out).tow ht
          obtain ⟨g', born', hb2, hm2⟩ := (HB.out.ext HX.out).tow ht'
          have HM : Hid (∀ u, Ext wr u → Em u 0 wr.heap.size t.e g ∧ Em u 0 wr.heap.size t'.e g' ∧ wr.heap.size ≤ u.heap.size) := fun u hu => ⟨hm1.below hu (Nat.le_refl _), hm2.below hu (Nat.le_refl _), hu.size⟩
          have c0 := cell_of (v := .slice g.kA t.e.key.length g.kc) hb1 (k := 0) rfl
          have c1 := cell_of (v := .int .i64 t.e.seq) hb1 (k := 1) rfl
          have c2 := cell_of (v := .int .i64 t.e.kind) hb1 (k := 2) rfl
          have c3 := cell_of (v := .slice g.vA t.e.val.length g.vc) hb1 (k := 3) rfl
          have d0 := cell_of (v := .slice g'.kA t'.e.key.length g'.kc) hb2 (k := 0) rfl
          have d1 := cell_of (v := .int .i64 t'.e.seq) hb2 (k := 1) rfl
          have d2 := cell_of (v := .int .i64 t'.e.kind) hb2 (k := 2) rfl
          have d3 := cell_of (v := .slice g'.vA t'.e.val.length g'.vc) hb2 (k := 3) rfl
          obtain ⟨xa2, hxa2⟩ : ∃ xa2, xa2 = optp (nxt 0 (T.drop (i + 1))) := ⟨_, rfl⟩
          obtain ⟨xb2, hxb2⟩ : ∃ xb2, xb2 = optp (nxt 0 (T'.drop (i + 1))) := ⟨_, rfl⟩
          have HXA2 := Lib.hid hxa2
          have HXB2 := Lib.hid hxb2
          have c5 : wr.cell? ⟨t.b, 5, none⟩ = some xa2 := by rw [hxa2, ← tow_next (HA.out.tall t (List.mem_of_getElem? ht))]; exact cell_of hb1 (k := 5) rfl
          have d5 : wr.cell? ⟨t'.b, 5, none⟩ = some xb2 := by rw [hxb2, ← tow_next (HB.out.tall t' (List.mem_of_getElem? ht'))]; exact cell_of hb2 (k := 5) rfl
          obtain ⟨z, hz⟩ : ∃ z : Bool, (z = true ↔ t.e = t'.e) := ⟨@decide _ (Classical.propDecidable _), @decide_eq_true_iff _ (Classical.propDecidable _)⟩
          have HZ := Lib.hid hz
          clear ht ht' hi hi' hki hb1 hb2 hm1 hm2 hxa2 hxb2 hz
          dsimp only [Option.map, optp]
          go_upto_region 4 with (fail)
          refine flow (by kernel_rfl) [Is (.pointer (some ⟨t.b, 0, none⟩)), Is (.bool true), Is (.bool true), Is (.pointer (some ⟨t'.b, 0, none⟩)), Is (.bool true), Is (.bool true), Is (.bool true), Is (.pointer (some ⟨t.b, 0, none⟩)), Is (.pointer (some ⟨t.b, 0, none⟩)), Is (.pointer (some ⟨t.b, 0, none⟩)), Is (.agg #[.slice g.kA t.e.key.length g.kc, .int .i64 t.e.seq, .int .i64 t.e.kind, .slice g.vA t.e.val.length g.vc]), Is (.pointer (some ⟨t'.b, 0, none⟩)), Is (.pointer (some ⟨t'.b, 0, none⟩)), Is (.pointer (some ⟨t'.b, 0, none⟩)), Is (.agg #[.slice g'.kA t'.e.key.length g'.kc, .int .i64 t'.e.seq, .int .i64 t'.e.kind, .slice g'.vA t'.e.val.length g'.vc]), Is (.bool z), Is (.bool z)] (by kernel_rfl) (by kernel_rfl) ?monoB (fun f1 => ?oblB) ?finB
          case monoB =>
            simp only [List.forall_mem_cons, List.not_mem_nil, false_imp_iff, implies_true, and_true]
            exact ⟨.is _, .is _, .is _, .is _, .is _, .is _, .is _, .is _, .is _, .is _, .is _, .is _, .is _, .is _, .is _, .is _, .is _⟩
          case finB =>
            intro g2 w5 hu hg
            simp only [puts, Act.put, List.setIfInBounds_toArray, List.set_cons_zero, List.set_cons_succ]
            have h16 : g2 16 = .bool z := hg 16 (by decide)
            rw [h16]
            have HX5 : Hid (Ext w w5) := Ext.trans HX.out (Ext.trans (Ext.drew wr) hu)
            have HW5 : Hid (Ext wr w5) := Ext.trans (Ext.drew wr) hu
            replace c5 := ext_cell HW5.out c5
            replace d5 := ext_cell HW5.out d5
            clear h16 hg hu c0 c1 c2 c3 d0 d1 d2 d3
            cases z with
            | false =>
              go_wp2_with fail
              go_ret
              exact ⟨false, ⟨fun h => (by cases h), fun h => absurd h (not_same HTS.out HTS'.out (fun he => by have h9 := HZ.out.2 he; simp at h9))⟩, rfl, HX5.out⟩
            | true =>
              go_upto_region 5 with (fail)
              refine flow (by kernel_rfl) [Is (.pointer (some ⟨t.b, 0, none⟩)), Is (.pointer (some ⟨t.b, 0, none⟩)), Is (.pointer (some ⟨t.b, 5, none⟩)), Is (.pointer (some ⟨t.b, 5 + 0, none⟩)), Is (xa2), Is (.pointer (some ⟨t'.b, 0, none⟩)), Is (.pointer (some ⟨t'.b, 0, none⟩)), Is (.pointer (some ⟨t'.b, 5, none⟩)), Is (.pointer (some ⟨t'.b, 5 + 0, none⟩)), Is (xb2), Is (xa2), Is (xb2)] (by kernel_rfl) (by kernel_rfl) ?monoV (fun f1 => ?oblV) ?finV
              case monoV =>
                simp only [List.forall_mem_cons, List.not_mem_nil, false_imp_iff, implies_true, and_true]
                exact ⟨.is _, .is _, .is _, .is _, .is _, .is _, .is _, .is _, .is _, .is _, .is _, .is _⟩
              case finV =>
                intro g1 w7 hu hg
                simp only [puts, Act.put, List.setIfInBounds_toArray, List.set_cons_zero, List.set_cons_succ]
                have h10 : g1 10 = xa2 := hg 10 (by decide)
                have h11 : g1 11 = xb2 := hg 11 (by decide)
                rw [h10, h11]
                have HX7 : Hid (Ext w w7) := Ext.trans HX5.out (Ext.trans (Ext.drew w5) hu)
                clear h10 h11 hg hu
                go_wp2_with fail
                go_roundg (T.length + 1 - (i + 1))
                case rel => exact ⟨i + 1, by have := HLT.out; omega, by have := HLT.out; omega, by have := HLT.out; omega, HXA2.out, HXB2.out, (take_same HT.out HTS.out HTS'.out).2 (HZ.out.1 (by trivial)), HX7⟩
                case measure => have := HKI.out; have := HLT.out; omega
              case oblV =>
                refine ⟨fun u hu hd => ?_, ?_⟩
                · go_simp
                  exact ⟨Ext.refl _, rfl⟩
                refine ⟨fun u hu hd => ?_, ?_⟩
                · simp only [Act.put, List.setIfInBounds_toArray, List.set_cons_zero, List.set_cons_succ]
                  have e0 : f1 0 = .pointer (some ⟨t.b, 0, none⟩) := hd 0 (by kernel_rfl)
                  go_simp
                  exact ⟨Ext.refl _, rfl⟩
                refine ⟨fun u hu hd => ?_, ?_⟩
                · simp only [Act.put, List.setIfInBounds_toArray, List.set_cons_zero, List.set_cons_succ]
                  have e1 : f1 1 = .pointer (some ⟨t.b, 0, none⟩) := hd 1 (by kernel_rfl)
                  go_simp
                  exact ⟨Ext.refl _, rfl⟩
                refine ⟨fun u hu hd => ?_, ?_⟩
                · simp only [Act.put, List.setIfInBounds_toArray, List.set_cons_zero, List.set_cons_succ]
                  have e2 : f1 2 = .pointer (some ⟨t.b, 5, none⟩) := hd 2 (by kernel_rfl)
                  go_simp
                  exact ⟨Ext.refl _, rfl⟩
                refine ⟨fun u hu hd => ?_, ?_⟩
                · simp only [Act.put, List.setIfInBounds_toArray, List.set_cons_zero, List.set_cons_succ]
                  have e3 : f1 3 = .pointer (some ⟨t.b, 5 + 0, none⟩) := hd 3 (by kernel_rfl)
                  have hu2 := Ext.trans (Ext.drew w5) hu
                  have q0 := ext_cell hu2 c5
                  go_simp
                  exact ⟨Ext.refl _, rfl⟩
                refine ⟨fun u hu hd => ?_, ?_⟩
                · simp only [Act.put, List.setIfInBounds_toArray, List.set_cons_zero, List.set_cons_succ]
                  go_simp
                  exact ⟨Ext.refl _, rfl⟩
                refine ⟨fun u hu hd => ?_, ?_⟩
                · simp only [Act.put, List.setIfInBounds_toArray, List.set_cons_zero, List.set_cons_succ]
                  have e5 : f1 5 = .pointer (some ⟨t'.b, 0, none⟩) := hd 5 (by kernel_rfl)
                  go_simp
                  exact ⟨Ext.refl _, rfl⟩
                refine ⟨fun u hu hd => ?_, ?_⟩
                · simp only [Act.put, List.setIfInBounds_toArray, List.set_cons_zero, List.set_cons_succ]
                  have e6 : f1 6 = .pointer (some ⟨t'.b, 0, none⟩) := hd 6 (by kernel_rfl)
                  go_simp
                  exact ⟨Ext.refl _, rfl⟩
                refine ⟨fun u hu hd => ?_, ?_⟩
                · simp only [Act.put, List.setIfInBounds_toArray, List.set_cons_zero, List.set_cons_succ]
                  have e7 : f1 7 = .pointer (some ⟨t'.b, 5, none⟩) := hd 7 (by kernel_rfl)
                  go_simp
                  exact ⟨Ext.refl _, rfl⟩
                refine ⟨fun u hu hd => ?_, ?_⟩
                · simp only [Act.put, List.setIfInBounds_toArray, List.set_cons_zero, List.set_cons_succ]
                  have e8 : f1 8 = .pointer (some ⟨t'.b, 5 + 0, none⟩) := hd 8 (by kernel_rfl)
                  have hu2 := Ext.trans (Ext.drew w5) hu
                  have q0 := ext_cell hu2 d5
                  go_simp
                  exact ⟨Ext.refl _, rfl⟩
                refine ⟨fun u hu hd => ?_, ?_⟩
                · simp only [Act.put, List.setIfInBounds_toArray, List.set_cons_zero, List.set_cons_succ]
                  have e4 : f1 4 = xa2 := hd 4 (by kernel_rfl)
                  go_simp
                  exact ⟨Ext.refl _, rfl⟩
                refine ⟨fun u hu hd => ?_, ?_⟩
                · simp only [Act.put, List.setIfInBounds_toArray, List.set_cons_zero, List.set_cons_succ]
                  have e9 : f1 9 = xb2 := hd 9 (by kernel_rfl)
                  go_simp
                  exact ⟨Ext.refl _, rfl⟩
                trivial
          case oblB =>
            refine ⟨fun u hu hd => ?_, ?_⟩
            · go_simp
              exact ⟨Ext.refl _, rfl⟩
            refine ⟨fun u hu hd => ?_, ?_⟩
            · simp only [Act.put, List.setIfInBounds_toArray, List.set_cons_zero, List.set_cons_succ]
              have e0 : f1 0 = .pointer (some ⟨t.b, 0, none⟩) := hd 0 (by kernel_rfl)
              go_simp
              exact ⟨Ext.refl _, rfl⟩
            refine ⟨fun u hu hd => ?_, ?_⟩
            · simp only [Act.put, List.setIfInBounds_toArray, List.set_cons_zero, List.set_cons_succ]
              have e1 : f1 1 = .bool true := hd 1 (by kernel_rfl)
              go_simp
              exact ⟨Ext.refl _, rfl⟩
            refine ⟨fun u hu hd => ?_, ?_⟩
            · simp only [Act.put, List.setIfInBounds_toArray, List.set_cons_zero, List.set_cons_succ]
              have e2 : f1 2 = .bool true := hd 2 (by kernel_rfl)
              go_simp
              exact ⟨Ext.refl _, rfl⟩
            refine ⟨fun u hu hd => ?_, ?_⟩
            · simp only [Act.put, List.setIfInBounds_toArray, List.set_cons_zero, List.set_cons_succ]
              have e2 : f1 2 = .bool true := hd 2 (by kernel_rfl)
              have e3 : f1 3 = .pointer (some ⟨t'.b, 0, none⟩) := hd 3 (by kernel_rfl)
              go_simp
              exact ⟨Ext.refl _, rfl⟩
            refine ⟨fun u hu hd => ?_, ?_⟩
            · simp only [Act.put, List.setIfInBounds_toArray, List.set_cons_zero, List.set_cons_succ]
              have e2 : f1 2 = .bool true := hd 2 (by kernel_rfl)
              have e4 : f1 4 = .bool true := hd 4 (by kernel_rfl)
              go_simp
              exact ⟨Ext.refl _, rfl⟩
            refine ⟨fun u hu hd => ?_, ?_⟩
            · simp only [Act.put, List.setIfInBounds_toArray, List.set_cons_zero, List.set_cons_succ]
              have e5 : f1 5 = .bool true := hd 5 (by kernel_rfl)
              go_simp
              exact ⟨Ext.refl _, rfl⟩
            refine ⟨fun u hu hd => ?_, ?_⟩
            · simp only [Act.put, List.setIfInBounds_toArray, List.set_cons_zero, List.set_cons_succ]
              have e6 : f1 6 = .bool true := hd 6 (by kernel_rfl)
              go_simp
              exact ⟨Ext.refl _, rfl⟩
            refine ⟨fun u hu hd => ?_, ?_⟩
            · simp only [Act.put, List.setIfInBounds_toArray, List.set_cons_zero, List.set_cons_succ]
              have e6 : f1 6 = .bool true := hd 6 (by kernel_rfl)
              have e7 : f1 7 = .pointer (some ⟨t.b, 0, none⟩) := hd 7 (by kernel_rfl)
              go_simp
              exact ⟨Ext.refl _, rfl⟩
            refine ⟨fun u hu hd => ?_, ?_⟩
            · simp only [Act.put, List.setIfInBounds_toArray, List.set_cons_zero, List.set_cons_succ]
              have e6 : f1 6 = .bool true := hd 6 (by kernel_rfl)
              have e8 : f1 8 = .pointer (some ⟨t.b, 0, none⟩) := hd 8 (by kernel_rfl)
              go_simp
              exact ⟨Ext.refl _, rfl⟩
            refine ⟨fun u hu hd => ?_, ?_⟩
            · simp only [Act.put, List.setIfInBounds_toArray, List.set_cons_zero, List.set_cons_succ]
              have e6 : f1 6 = .bool true := hd 6 (by kernel_rfl)
              have e9 : f1 9 = .pointer (some ⟨t.b, 0, none⟩) := hd 9 (by kernel_rfl)
              have hu2 := Ext.trans (Ext.drew wr) hu
              have q0 := ext_cell hu2 c0
              have q1 := ext_cell hu2 c1
              have q2 := ext_cell hu2 c2
              have q3 := ext_cell hu2 c3
              go_simp
              exact ⟨Ext.refl _, rfl⟩
            refine ⟨fun u hu hd => ?_, ?_⟩
            · simp only [Act.put, List.setIfInBounds_toArray, List.set_cons_zero, List.set_cons_succ]
              have e6 : f1 6 = .bool true := hd 6 (by kernel_rfl)
              go_simp
              exact ⟨Ext.refl _, rfl⟩
            refine ⟨fun u hu hd => ?_, ?_⟩
            · simp only [Act.put, List.setIfInBounds_toArray, List.set_cons_zero, List.set_cons_succ]
              have e6 : f1 6 = .bool true := hd 6 (by kernel_rfl)
              have e11 : f1 11 = .pointer (some ⟨t'.b, 0, none⟩) := hd 11 (by kernel_rfl)
              go_simp
              exact ⟨Ext.refl _, rfl⟩
            refine ⟨fun u hu hd => ?_, ?_⟩
            · simp only [Act.put, List.setIfInBounds_toArray, List.set_cons_zero, List.set_cons_succ]
              have e6 : f1 6 = .bool true := hd 6 (by kernel_rfl)
              have e12 : f1 12 = .pointer (some ⟨t'.b, 0, none⟩) := hd 12 (by kernel_rfl)
              go_simp
              exact ⟨Ext.refl _, rfl⟩
            refine ⟨fun u hu hd => ?_, ?_⟩
            · simp only [Act.put, List.setIfInBounds_toArray, List.set_cons_zero, List.set_cons_succ]
              have e6 : f1 6 = .bool true := hd 6 (by kernel_rfl)
              have e13 : f1 13 = .pointer (some ⟨t'.b, 0, none⟩) := hd 13 (by kernel_rfl)
              have hu2 := Ext.trans (Ext.drew wr) hu
              have q0 := ext_cell hu2 d0
              have q1 := ext_cell hu2 d1
              have q2 := ext_cell hu2 d2
              have q3 := ext_cell hu2 d3
              go_simp
              exact ⟨Ext.refl _, rfl⟩
            refine ⟨fun u hu hd => ?_, ?_⟩
            · simp only [Act.put, List.setIfInBounds_toArray, List.set_cons_zero, List.set_cons_succ]
              have e6 : f1 6 = .bool true := hd 6 (by kernel_rfl)
              have e10 : f1 10 = .agg #[.slice g.kA t.e.key.length g.kc, .int .i64 t.e.seq, .int .i64 t.e.kind, .slice g.vA t.e.val.length g.vc] := hd 10 (by kernel_rfl)
              have e14 : f1 14 = .agg #[.slice g'.kA t'.e.key.length g'.kc, .int .i64 t'.e.seq, .int .i64 t'.e.kind, .slice g'.vA t'.e.val.length g'.vc] := hd 14 (by kernel_rfl)
              have hu2 := Ext.trans (Ext.drew wr) hu
              obtain ⟨m1, m2, m3⟩ := HM.out u hu2
              go_simp
              refine (same_any m1 m2 m3 m3).mono ?_
              rintro x9 w9 ⟨z9, hz9, rfl, hx9⟩
              have hzz : z9 = z := Bool.eq_iff_iff.2 (hz9.trans HZ.out.symm)
              subst hzz
              exact ⟨_, rfl, hx9, rfl⟩
            refine ⟨fun u hu hd => ?_, ?_⟩
            · simp only [Act.put, List.setIfInBounds_toArray, List.set_cons_zero, List.set_cons_succ]
              have e6 : f1 6 = .bool true := hd 6 (by kernel_rfl)
              have e15 : f1 15 = .bool z := hd 15 (by kernel_rfl)
              go_simp
              exact ⟨Ext.refl _, rfl⟩
            trivial
  case obl =>
    refine ⟨fun u hu hd => ?_, ?_⟩
    · go_simp
      exact ⟨Ext.refl _, rfl⟩
    refine ⟨fun u hu hd => ?_, ?_⟩
    · simp only [Act.put, List.setIfInBounds_toArray, List.set_cons_zero, List.set_cons_succ]
      have e0 : f1 0 = .pointer (some ⟨lb, 0, none⟩) := hd 0 (by kernel_rfl)
      go_simp
      exact ⟨Ext.refl _, rfl⟩
    refine ⟨fun u hu hd => ?_, ?_⟩
    · simp only [Act.put, List.setIfInBounds_toArray, List.set_cons_zero, List.set_cons_succ]
      have e1 : f1 1 = .pointer (some ⟨lb, 0, none⟩) := hd 1 (by kernel_rfl)
      go_simp
      exact ⟨Ext.refl _, rfl⟩
    refine ⟨fun u hu hd => ?_, ?_⟩
    · simp only [Act.put, List.setIfInBounds_toArray, List.set_cons_zero, List.set_cons_succ]
      have e2 : f1 2 = .pointer (some ⟨lb, 0, none⟩) := hd 2 (by kernel_rfl)
      have hu2 := Ext.trans (Ext.drew w) hu
      have q0 := ext_cell hu2 l0
      go_simp
      exact ⟨Ext.refl _, rfl⟩
    refine ⟨fun u hu hd => ?_, ?_⟩
    · simp only [Act.put, List.setIfInBounds_toArray, List.set_cons_zero, List.set_cons_succ]
      have e3 : f1 3 = .pointer (some ⟨hb, 0, none⟩) := hd 3 (by kernel_rfl)
      go_simp
      exact ⟨Ext.refl _, rfl⟩
    refine ⟨fun u hu hd => ?_, ?_⟩
    · simp only [Act.put, List.setIfInBounds_toArray, List.set_cons_zero, List.set_cons_succ]
      have e4 : f1 4 = .pointer (some ⟨hb, 0, none⟩) := hd 4 (by kernel_rfl)
      go_simp
      exact ⟨Ext.refl _, rfl⟩
    refine ⟨fun u hu hd => ?_, ?_⟩
    · simp only [Act.put, List.setIfInBounds_toArray, List.set_cons_zero, List.set_cons_succ]
      have e5 : f1 5 = .pointer (some ⟨hb, 5, none⟩) := hd 5 (by kernel_rfl)
      go_simp
      exact ⟨Ext.refl _, rfl⟩
    refine ⟨fun u hu hd => ?_, ?_⟩
    · simp only [Act.put, List.setIfInBounds_toArray, List.set_cons_zero, List.set_cons_succ]
      have e6 : f1 6 = .pointer (some ⟨hb, 5 + 0, none⟩) := hd 6 (by kernel_rfl)
      have hu2 := Ext.trans (Ext.drew w) hu
      have q0 := ext_cell hu2 l5
      go_simp
      exact ⟨Ext.refl _, rfl⟩
    refine ⟨fun u hu hd => ?_, ?_⟩
    · simp only [Act.put, List.setIfInBounds_toArray, List.set_cons_zero, List.set_cons_succ]
      go_simp
      exact ⟨Ext.refl _, rfl⟩
    refine ⟨fun u hu hd => ?_, ?_⟩
    · simp only [Act.put, List.setIfInBounds_toArray, List.set_cons_zero, List.set_cons_succ]
      have e8 : f1 8 = .pointer (some ⟨lb', 0, none⟩) := hd 8 (by kernel_rfl)
      go_simp
      exact ⟨Ext.refl _, rfl⟩
    refine ⟨fun u hu hd => ?_, ?_⟩
    · simp only [Act.put, List.setIfInBounds_toArray, List.set_cons_zero, List.set_cons_succ]
      have e9 : f1 9 = .pointer (some ⟨lb', 0, none⟩) := hd 9 (by kernel_rfl)
      go_simp
      exact ⟨Ext.refl _, rfl⟩
    refine ⟨fun u hu hd => ?_, ?_⟩
    · simp only [Act.put, List.setIfInBounds_toArray, List.set_cons_zero, List.set_cons_succ]
      have e10 : f1 10 = .pointer (some ⟨lb', 0, none⟩) := hd 10 (by kernel_rfl)
      have hu2 := Ext.trans (Ext.drew w) hu
      have q0 := ext_cell hu2 m0
      go_simp
      exact ⟨Ext.refl _, rfl⟩
    refine ⟨fun u hu hd => ?_, ?_⟩
    · simp only [Act.put, List.setIfInBounds_toArray, List.set_cons_zero, List.set_cons_succ]
      have e11 : f1 11 = .pointer (some ⟨hb', 0, none⟩) := hd 11 (by kernel_rfl)
      go_simp
      exact ⟨Ext.refl _, rfl⟩
    refine ⟨fun u hu hd => ?_, ?_⟩
    · simp only [Act.put, List.setIfInBounds_toArray, List.set_cons_zero, List.set_cons_succ]
      have e12 : f1 12 = .pointer (some ⟨hb', 0, none⟩) := hd 12 (by kernel_rfl)
      go_simp
      exact ⟨Ext.refl _, rfl⟩
    refine ⟨fun u hu hd => ?_, ?_⟩
    · simp only [Act.put, List.setIfInBounds_toArray, List.set_cons_zero, List.set_cons_succ]
      have e13 : f1 13 = .pointer (some ⟨hb', 5, none⟩) := hd 13 (by kernel_rfl)
      go_simp
      exact ⟨Ext.refl _, rfl⟩
    refine ⟨fun u hu hd => ?_, ?_⟩
    · simp only [Act.put, List.setIfInBounds_toArray, List.set_cons_zero, List.set_cons_succ]
      have e14 : f1 14 = .pointer (some ⟨hb', 5 + 0, none⟩) := hd 14 (by kernel_rfl)
      have hu2 := Ext.trans (Ext.drew w) hu
      have q0 := ext_cell hu2 m5
      go_simp
      exact ⟨Ext.refl _, rfl⟩
    refine ⟨fun u hu hd => ?_, ?_⟩
    · simp only [Act.put, List.setIfInBounds_toArray, List.set_cons_zero, List.set_cons_succ]
      have e7 : f1 7 = xa := hd 7 (by kernel_rfl)
      go_simp
      exact ⟨Ext.refl _, rfl⟩
    refine ⟨fun u hu hd => ?_, ?_⟩
    · simp only [Act.put, List.setIfInBounds_toArray, List.set_cons_zero, List.set_cons_succ]
      have e15 : f1 15 = xb := hd 15 (by kernel_rfl)
      go_simp
      exact ⟨Ext.refl _, rfl⟩
    trivial
end Go.Proofs.YtepaaffebhinlaaDoor

/- Lists that are not there. -/
namespace Go.Proofs.YtepaaffebhinlaaDoor
open Go.ChangeShapes Go.WideShapes Go.ChangeAt Go.RowKit Go.Shelf

theorem slen_none {w : World} {d : Option Addr} (h : NoList w d) : Calls Tryd.prog 8 #[.pointer d] w fun e w' => e = .returned (.int .i64 0) ∧ w = w' := by
  have HN := Lib.hid (none_yes h)
  clear h
  go_enter Tryd.func8, Tryd.ntmps8
  go_wp2_with fail
  refine Calls.mono HN.out ?_
  rintro e w' ⟨rfl, rfl⟩
  go_wp2_with fail
  go_ret
  exact ⟨rfl, rfl⟩
theorem sbytes_none {w : World} {d : Option Addr} (h : NoList w d) : Calls Tryd.prog 24 #[.pointer d] w fun e w' => e = .returned (.int .i64 0) ∧ w = w' := by
  have HN := Lib.hid (none_yes h)
  clear h
  go_enter Tryd.func24, Tryd.ntmps24
  go_wp2_with fail
  refine Calls.mono HN.out ?_
  rintro e w' ⟨rfl, rfl⟩
  go_wp2_with fail
  go_ret
  exact ⟨rfl, rfl⟩
theorem ssame_none {w : World} {d d' : Option Addr} (h : NoList w d) (h' : NoList w d') : Calls Tryd.prog 12 #[.pointer d, .pointer d'] w fun e w' => e = .returned (.bool true) ∧ w = w' := by
  have HN := Lib.hid (none_yes h)
  have HN' := Lib.hid (none_yes h')
  clear h h'
  go_enter Tryd.func12, Tryd.ntmps12
  go_wp2_with fail
  refine Calls.mono HN.out ?_
  rintro e w' ⟨rfl, rfl⟩
  go_wp2_with fail
  refine Calls.mono HN.out ?_
  rintro e w' ⟨rfl, rfl⟩
  go_wp2_with fail
  refine Calls.mono HN'.out ?_
  rintro e w' ⟨rfl, rfl⟩
  go_wp2_with fail
  go_ret
  exact ⟨rfl, rfl⟩
theorem ssame_half {w : World} {D : Nat → Prop} {lb hb : Nat} {T : List Tw} {d' : Option Addr} (h : Sk w D lb hb T) (h' : NoList w d') : Calls Tryd.prog 12 #[.pointer (some ⟨lb, 0, none⟩), .pointer d'] w fun e w' => e = .returned (.bool false) ∧ w = w' := by
  have HN := Lib.hid (none_no h.list)
  have HN' := Lib.hid (none_yes h')
  clear h h'
  go_enter Tryd.func12, Tryd.ntmps12
  go_wp2_with fail
  refine Calls.mono HN.out ?_
  rintro e w' ⟨rfl, hw⟩
  have hw := hw.symm
  subst hw
  go_wp2_with fail
  refine Calls.mono HN'.out ?_
  rintro e w' ⟨rfl, rfl⟩
  go_wp2_with fail
  refine Calls.mono HN.out ?_
  rintro e w' ⟨rfl, hw⟩
  have hw := hw.symm
  subst hw
  go_wp2_with fail
  go_ret
  exact ⟨rfl, rfl⟩
theorem scopy_none {w : World} {d : Option Addr} (h : NoList w d) : Calls Tryd.prog 16 #[.pointer d] w fun e w' => e = .returned (.pointer none) ∧ w = w' := by
  have HN := Lib.hid (none_yes h)
  clear h
  go_enter Tryd.func16, Tryd.ntmps16
  go_wp2_with fail
  refine Calls.mono HN.out ?_
  rintro e w' ⟨rfl, rfl⟩
  go_wp2_with fail
  go_ret
  exact ⟨rfl, rfl⟩
theorem sput_none {w : World} {d : Option Addr} {x : Ent} {g : Hd} (h : NoList w d) : Calls Tryd.prog 14 #[.pointer d, x.at_ g] w fun e w' => e = .returned (.int .i64 1) ∧ Ext w w' := by
  obtain ⟨w1, hw1⟩ : ∃ w1, w1 = w.alloc (.cells #[.slice g.kA x.key.length g.kc, .int .i64 x.seq, .int .i64 x.kind, .slice g.vA x.val.length g.vc] 28) := ⟨_, rfl⟩
  have HX1 : Hid (Ext w w1) := by rw [hw1]; exact ext_alloc _ _
  have HN := Lib.hid (none_yes (h.ext HX1.out))
  clear h
  unfold Ent.at_
  go_enter Tryd.func14, Tryd.ntmps14
  go_upto_region 1 with (fail)
  rw [← hw1]
  clear hw1
  go_wp2_with fail
  refine Calls.mono HN.out ?_
  rintro e w' ⟨rfl, rfl⟩
  go_wp2_with fail
  go_ret
  exact ⟨rfl, HX1.out⟩
theorem sget_none {w : World} {d kA : Option Addr} {n kc : Nat} {t : Int} (h : NoList w d) : Calls Tryd.prog 21 #[.pointer d, .slice kA n kc, .int .i64 t] w fun e w' => e = .returned (.tuple #[zeroE.at_ ⟨none, 0, none, 0⟩, .int .i64 1]) ∧ Ext w w' := by
  obtain ⟨w1, hw1⟩ : ∃ w1, w1 = w.alloc (.cells #[.slice none 0 0, .int .i64 0, .int .i64 0, .slice none 0 0] 28) := ⟨_, rfl⟩
  have HX1 : Hid (Ext w w1) := by rw [hw1]; exact ext_alloc _ _
  have HBR : Hid (w1.heap[w.heap.size]? = some (.cells #[.slice none 0 0, .int .i64 0, .int .i64 0, .slice none 0 0] 28 (0, 0))) := by rw [hw1]; exact heap_at _ _ rfl
  have HN := Lib.hid (none_yes (h.ext HX1.out))
  clear h
  have r0 := cell_of (v := .slice none 0 0) HBR.out (k := 0) rfl
  have r1 := cell_of (v := .int .i64 0) HBR.out (k := 1) rfl
  have r2 := cell_of (v := .int .i64 0) HBR.out (k := 2) rfl
  have r3 := cell_of (v := .slice none 0 0) HBR.out (k := 3) rfl
  have z0 := frozen_four (j := 0) HBR.out
  have z1 := frozen_four (j := 1) HBR.out
  have z2 := frozen_four (j := 2) HBR.out
  have z3 := frozen_four (j := 3) HBR.out
  go_enter Tryd.func21, Tryd.ntmps21
  go_upto_region 1 with (fail)
  rw [← hw1]
  clear hw1
  go_wp2_with fail
  refine Calls.mono HN.out ?_
  rintro e w' ⟨rfl, rfl⟩
  go_wp2_with fail
  refine entry_ret2 (p := 6) (q := 7) (by kernel_rfl) rfl rfl rfl (set_four HBR.out) ⟨rfl, ?_⟩
  have e := Nat.le_refl w.heap.size
  exact Below.setCell (Below.setCell (Below.setCell (Below.setCell HX1.out e _) e _) e _) e _
end Go.Proofs.YtepaaffebhinlaaDoor

/- nothing: of a list that is not there. -/
namespace Go.Proofs.YtepaaffebhinlaaDoor
open Go.ChangeShapes Go.WideShapes Go.ChangeAt Go.RowKit Go.Shelf Go.Lib Go.Joins

theorem goes_none {w u : World} {e : Ending} {most : Int} (h : GoAns w [] e u) : ∃ bd, e = .returned (.func (.func 53) #[] #[.pointer (some ⟨bd, 0, none⟩)]) ∧ Ext w u ∧
    Calls Tryd.prog 17 #[.func (.func 53) #[] #[.pointer (some ⟨bd, 0, none⟩)], .slice none 0 0, .int .i64 most] u fun e w'' => e = .returned (.bool true) ∧ Ext u w'' := by
  obtain ⟨hx, bd, rfl, hit⟩ := h
  exact ⟨bd, rfl, hx, goes_any (L := []) (L2 := []) (lo2 := 0) (hi2 := 0) hit (fun A hA => hA) (fun t ht => by cases ht) ⟨Sl.nil _ _ _ _, fun p hp => by cases hp⟩ (Nat.zero_le _) (by simp) rfl⟩
set_option maxRecDepth 100000 in
set_option maxHeartbeats 8000000 in
theorem nothing_any {w : World} {d : Option Addr} (h : NoList w d) : Calls Tryd.prog 20 #[.pointer d] w fun e w' => e = .returned (.bool true) ∧ Ext w w' := by
  have H : Hid (∀ u, Ext w u → NoList u d) := fun u hu => h.ext hu
  clear h
  have cv1 : (convert 25 25 (.slice (some ⟨w.heap.size, 0, none⟩) 1 1)).run Tryd.prog (w.alloc (.cells #[.int .u8 97] 5)) = .ok (.slice (some ⟨w.heap.size, 0, none⟩) 1 1) (w.alloc (.cells #[.int .u8 97] 5 (1, 2))) := run_convert_bytes_const_at _ _ _ _ _ _ _ (rfl) Tryd.underlying25 Tryd.underlying5
  have hx8 := ext_alloc w (.cells #[.int .u8 97] 5 (1, 2))
  have HG := Lib.hid (sget_none (kA := some ⟨w.heap.size, 0, none⟩) (n := 1) (kc := 1) (t := 1) (H.out _ hx8))
  clear hx8
  go_enter Tryd.func20, Tryd.ntmps20
  go_wp2_with fail
  refine Calls.mono HG.out ?_
  rintro e w1 ⟨rfl, hx1⟩
  have HX1 : Hid (Ext w w1) := Ext.trans (ext_alloc _ _) hx1
  clear hx1 cv1 HG
  unfold Ent.at_
  go_upto_region 2 with (fail)
  obtain ⟨w2, hw2⟩ : ∃ w2, w2 = w1.alloc (.cells #[.slice none zeroE.key.length 0, .int .i64 zeroE.seq, .int .i64 zeroE.kind, .slice none zeroE.val.length 0] 28) := ⟨_, rfl⟩
  rw [← hw2]
  have HX2 : Hid (Ext w w2) := by rw [hw2]; exact Ext.trans HX1.out (ext_alloc _ _)
  clear hw2
  go_wp2_with fail
  refine Calls.mono (lit_any (e := ⟨[97], 1, 1, []⟩) (k := [97]) rfl rfl (by decide) (by decide) (by decide) (by decide) w2) ?_
  rintro e w3 ⟨hx3, g1, rfl, _⟩
  have HX3 : Hid (Ext w w3) := Ext.trans HX2.out hx3
  clear hx3
  go_wp2_with fail
  refine Calls.mono (sput_none (H.out w3 HX3.out)) ?_
  rintro e w4 ⟨rfl, hx4⟩
  have HX4 : Hid (Ext w w4) := Ext.trans HX3.out hx4
  clear hx4
  go_wp2_with fail
  refine Calls.mono (snum 1 w4) ?_
  rintro e w5 ⟨rfl, rfl⟩
  go_wp2_with fail
  refine Calls.mono (snum 1 w4) ?_
  rintro e w5 ⟨rfl, rfl⟩
  go_wp2_with fail
  refine Calls.mono (sfrom_no (H.out w4 HX4.out)) ?_
  rintro e w6 hg
  obtain ⟨bd, rfl, hx6, hgo⟩ := goes_none (most := 0) hg
  have HX6 : Hid (Ext w w6) := Ext.trans HX4.out hx6
  have HGO := Lib.hid hgo
  clear hg hx6 hgo
  go_wp2_with fail
  refine Calls.mono HGO.out ?_
  rintro e w7 ⟨rfl, hx7⟩
  have HX7 : Hid (Ext w w7) := Ext.trans HX6.out hx7
  clear hx7 HGO
  go_wp2_with fail
  refine Calls.mono (slevel_no (n := 0) (H.out w7 HX7.out)) ?_
  rintro e w8 hg
  obtain ⟨bd2, rfl, hx8, hgo⟩ := goes_none (most := 0) hg
  have HX8 : Hid (Ext w w8) := Ext.trans HX7.out hx8
  have HGO := Lib.hid hgo
  clear hg hx8 hgo
  go_wp2_with fail
  refine Calls.mono HGO.out ?_
  rintro e w9 ⟨rfl, hx9⟩
  have HX9 : Hid (Ext w w9) := Ext.trans HX8.out hx9
  clear hx9 HGO
  go_wp2_with fail
  refine Calls.mono (slen_none (H.out w9 HX9.out)) ?_
  rintro e w10 ⟨rfl, rfl⟩
  go_wp2_with fail
  refine Calls.mono (sbytes_none (H.out w9 HX9.out)) ?_
  rintro e w10 ⟨rfl, rfl⟩
  go_wp2_with fail
  refine Calls.mono (scopy_none (H.out w9 HX9.out)) ?_
  rintro e w10 ⟨rfl, rfl⟩
  go_wp2_with fail
  refine Calls.mono (ssame_none (d' := none) (H.out w9 HX9.out) (.inl rfl)) ?_
  rintro e w10 ⟨rfl, rfl⟩
  go_wp2_with fail
  go_ret
  exact ⟨rfl, HX9.out⟩
end Go.Proofs.YtepaaffebhinlaaDoor

/- SkipNil: lists that are not there; levels at their bounds; unlike lists. -/
namespace Go.Proofs.YtepaaffebhinlaaDoor.skipNil
open Go.ChangeShapes Go.WideShapes Go.ChangeAt Go.RowKit Go.Shelf Go.Lib Go.Joins

/-- The entry of "b" with a value. -/
def vX : Ent := ⟨[98], 1, 1, [120]⟩
theorem nput1 : putE [kA5] kB1 = ([kA5, kB1], 0) := rfl
theorem nput2 : putE [kA5] vX = ([kA5, vX], 0) := rfl
theorem nput0 (L : List Ent) : putE L zeroE = (L, 2) := putE_no rfl
theorem x_y : [kA5, kB1] ≠ [kA5, vX] := by intro h; simp [kA5, kB1, vX] at h
theorem s_x : [kA5] ≠ [kA5, kB1] := by intro h; simp at h
theorem bv120 (W : World) : Bs (W.alloc (.cells #[.int .u8 120] 5 (1, 2))) W.heap.size (W.heap.size + 1) (.slice (some ⟨W.heap.size, 0, none⟩) 1 1) [120] := bs_mark W [120] (by simp) (1, 2)

set_option maxRecDepth 100000 in
set_option maxHeartbeats 16000000 in
theorem walk (w : World) (hT : Tab w) : Calls Tryd.prog 4 #[] w fun e w' => e = .returned (.bool true) ∧ Below w.heap.size w w' := by
  have hB := hT.lt
  have HB := Lib.hid hB
  have HT := Lib.hid hT
  clear hB hT
  go_enter Tryd.func4, Tryd.ntmps4
  go_wp2_with fail
  refine Calls.mono (new_any w) ?_
  rintro e w1 ⟨rfl, hs1, hx1⟩
  have HS1 : Hid (SkB w.heap.size w1 (w.heap.size + 1) w.heap.size []) := SkB.of hs1 fun k _ hd => hd
  have HX1 : Hid (Ext w w1) := hx1
  have HT1 := Lib.hid (HT.out.ext hx1)
  clear hs1 hx1
  go_wp2_with fail
  refine Calls.mono (lit_any (e := kA5) (k := [97]) rfl rfl (by decide) (by decide) (by decide) (by decide) w1) ?_
  rintro e w2 ⟨hx2, g1, rfl, hm⟩
  have HP := Lib.hid (put_step HS1.out hx2 hm HT1.out HB.out (by simp) (by simp [kA5]) (by simp [kA5]))
  have HX2 := Lib.hid hx2
  clear hx2 hm
  go_wp2_with fail
  refine Calls.mono HP.out ?_
  rintro e w3 ⟨T3, c3, hp3, rfl, hs3, ht3, hb3, _⟩
  obtain ⟨rfl, hT3⟩ : c3 = 0 ∧ T3.map Tw.e = [kA5] := by
    have := kput1.symm.trans hp3; injection this with h1 h2; exact ⟨h2.symm, h1.symm⟩
  have HS3 : Hid (Sk w3 (fun k => w.heap.size ≤ k ∧ k < w3.heap.size) (w.heap.size + 1) w.heap.size T3) := hs3
  have HT3 := Lib.hid ht3
  have HM3 := Lib.hid hT3
  have HL3 : Hid (T3.length = 1) := by have := congrArg List.length hT3; simpa [Hid] using this
  have HBW3 : Hid (Below w.heap.size w w3) := (show Below w.heap.size w w2 from Ext.trans HX1.out HX2.out).trans hb3
  clear hp3 hs3 ht3 hb3 hT3 HP HS1 HT1 HX1 HX2
  go_wp2_with fail
  refine Calls.mono (scopy_any HS3.out (fun k hk => hk.2) HT3.out (by have := HL3.out; omega)) ?_
  rintro e w4 ⟨lx, hx, T4, rfl, hs4, hm4, hx4⟩
  have HS4 := Lib.hid hs4
  have HM4 := Lib.hid (hm4.trans HM3.out)
  have HX4 := Lib.hid hx4
  clear hs4 hm4 hx4
  go_wp2_with fail
  refine Calls.mono (scopy_any (HS3.out.ext HX4.out) (fun k hk => Nat.lt_of_lt_of_le hk.2 HX4.out.size) (HT3.out.ext HX4.out) (by have := HL3.out; omega)) ?_
  rintro e w5 ⟨ly, hy, T5, rfl, hs5, hm5, hx5⟩
  have HS5 := Lib.hid hs5
  have HM5 := Lib.hid (hm5.trans HM3.out)
  have HX5 := Lib.hid hx5
  clear hs5 hm5 hx5
  go_wp2_with fail
  refine Calls.mono (lit_any (e := kB1) (k := [98]) rfl rfl (by decide) (by decide) (by decide) (by decide) w5) ?_
  rintro e w6 ⟨hx6, g6, rfl, hm6⟩
  have HX6 := Lib.hid hx6
  have HM6 := Lib.hid hm6
  clear hx6 hm6
  unfold Ent.at_
  go_upto_region 7 with (fail)
  obtain ⟨w7, hw7⟩ : ∃ w7, w7 = w6.alloc (.cells #[.slice g6.kA kB1.key.length g6.kc, .int .i64 kB1.seq, .int .i64 kB1.kind, .slice g6.vA kB1.val.length g6.vc] 28) := ⟨_, rfl⟩
  rw [← hw7]
  have HX7 : Hid (Ext w6 w7) := by rw [hw7]; exact ext_alloc _ _
  have HD7 : Hid (w7.heap[w6.heap.size]? = some (.cells #[.slice g6.kA kB1.key.length g6.kc, .int .i64 kB1.seq, .int .i64 kB1.kind, .slice g6.vA kB1.val.length g6.vc] 28 (0, 0))) := by rw [hw7]; exact heap_at _ _ rfl
  have HL7 : Hid (w6.heap.size < w7.heap.size) := by rw [hw7]; simp [Hid]
  obtain ⟨gv, hgv⟩ : ∃ gv, gv = w6.heap.size := ⟨_, rfl⟩
  rw [← hgv] at HD7 HL7 ⊢
  have HGV := Lib.hid hgv
  clear hw7 hgv
  have cv7 : (convert 25 25 (.slice (some ⟨w7.heap.size, 0, none⟩) 1 1)).run Tryd.prog (w7.alloc (.cells #[.int .u8 120] 5)) = .ok (.slice (some ⟨w7.heap.size, 0, none⟩) 1 1) (w7.alloc (.cells #[.int .u8 120] 5 (1, 2))) := run_convert_bytes_const_at _ _ _ _ _ _ _ (rfl) Tryd.underlying25 Tryd.underlying5
  have HDA := Lib.hid (ext_heap (ext_alloc w7 (.cells #[.int .u8 120] 5 (1, 2))) HD7.out)
  have q3 := cell_of (v := .slice g6.vA kB1.val.length g6.vc) HDA.out (k := 3) rfl
  have f3 := frozen_four (j := 3) HDA.out
  go_upto_region 8 with (fail)
  obtain ⟨w8, hw8⟩ : ∃ w8, w8 = (w7.alloc (.cells #[.int .u8 120] 5 (1, 2))).setCell ⟨gv, 3, none⟩ (.slice (some ⟨w7.heap.size, 0, none⟩) 1 1) := ⟨_, rfl⟩
  rw [← hw8]
  have HD8 : Hid (w8.heap[gv]? = some (.cells #[.slice g6.kA kB1.key.length g6.kc, .int .i64 kB1.seq, .int .i64 kB1.kind, .slice (some ⟨w7.heap.size, 0, none⟩) 1 1] 28 (0, 0))) := by rw [hw8]; exact heap_setCell_same _ gv 3 _ _ _ HDA.out
  have HX78 : Hid (Below w6.heap.size w7 w8) := by rw [hw8]; exact ((Ext.trans (Ext.refl _) (ext_alloc w7 _)).mono HX7.out.size).setCell (by rw [HGV.out]; exact Nat.le_refl _) _
  have HX68 : Hid (Ext w6 w8) := Below.trans HX7.out HX78.out
  have HX58 : Hid (Ext w5 w8) := Ext.trans HX6.out HX68.out
  have HV8 : Hid (Bs w8 w7.heap.size (w7.heap.size + 1) (.slice (some ⟨w7.heap.size, 0, none⟩) 1 1) [120]) := by rw [hw8]; exact (bv120 w7).setCell (.inl HL7.out) _
  have HS78 : Hid (w7.heap.size + 1 ≤ w8.heap.size) := by rw [hw8]; simp [Hid, World.setCell]
  obtain ⟨vb, hvb⟩ : ∃ vb, vb = w7.heap.size := ⟨_, rfl⟩
  rw [← hvb] at HD8 HV8 HS78 ⊢
  have HK8 : Hid (Em w8 w5.heap.size w8.heap.size vX ⟨g6.kA, g6.kc, some ⟨vb, 0, none⟩, 1⟩) := by
    have hk := HM6.out.k.below HX68.out (Nat.le_refl _)
    have h1 := HX68.out.size
    have h2 := HX6.out.size
    have h3 := HX7.out.size
    exact ⟨hk.wide (Nat.le_refl _) h1, HV8.out.wide (by rw [hvb]; omega) HS78.out, by decide, by decide, by decide, by decide, by decide, by decide⟩
  clear cv7 HDA q3 f3 hw8 hvb HL7 HD7 HX7 HV8 HX78 HM6
  go_wp2_with fail
  refine Calls.mono (lit_any (e := kB1) (k := [98]) rfl rfl (by decide) (by decide) (by decide) (by decide) w8) ?_
  rintro e w9 ⟨hx9, g9, rfl, hm9⟩
  have HX59 : Hid (Ext w5 w9) := Ext.trans HX58.out hx9
  have HX49 : Hid (Ext w4 w9) := Ext.trans HX5.out HX59.out
  have HX39 : Hid (Ext w3 w9) := Ext.trans HX4.out HX49.out
  have HT9 : Hid (Tab w9) := HT3.out.ext HX39.out
  have HB3 : Hid (0 < w3.heap.size) := Nat.lt_of_lt_of_le HB.out HBW3.out.size
  have hl4 : T4.length = 1 := by have := congrArg List.length HM4.out; simpa using this
  have HP := Lib.hid (sput_any (HS4.out.ext HX49.out) hm9 (Nat.le_refl _) (fun k hk => .inl (Nat.lt_of_lt_of_le hk.2 (Nat.le_trans HX5.out.size HX58.out.size))) HT9.out (fun hd => Nat.lt_irrefl _ (Nat.lt_of_lt_of_le HB3.out hd.1)) (by omega) (by simp [kB1]) (by simp [kB1]))
  have HX89 := Lib.hid hx9
  clear hx9 hm9 hl4
  go_wp2_with fail
  refine Calls.mono HP.out ?_
  rintro e wa ⟨Tx, cx, hpx, rfl, hsx, hcx⟩
  rw [HM4.out] at hpx
  obtain ⟨rfl, hTx⟩ : cx = 0 ∧ Tx.map Tw.e = [kA5, kB1] := by
    have := nput1.symm.trans hpx; injection this with h1 h2; exact ⟨h2.symm, h1.symm⟩
  have HCX := Lib.hid hcx
  have HSX := Lib.hid hsx
  have HMX := Lib.hid hTx
  clear hpx hsx hcx hTx HP
  have HBX : Hid (Below w3.heap.size w9 wa) := HCX.out.below (fun k hk => hk.1.1) HX39.out.size
  have HTA : Hid (Tab wa) := HT9.out.below HBX.out HB3.out
  have HYA := Lib.hid ((HS5.out.ext HX59.out).keep HCX.out (fun k hk hd => Nat.lt_irrefl _ (Nat.lt_of_lt_of_le hk.1.2 hd.1)))
  have HSA := Lib.hid ((HS3.out.ext HX39.out).keep HCX.out (fun k hk hd => Nat.lt_irrefl _ (Nat.lt_of_lt_of_le hd.2 hk.1.1)))
  have hga : wa.heap[gv]? = some (.cells #[.slice g6.kA kB1.key.length g6.kc, .int .i64 kB1.seq, .int .i64 kB1.kind, .slice (some ⟨vb, 0, none⟩) 1 1] 28 (0, 0)) := by
    have h9 := ext_heap HX89.out HD8.out
    have h5 := HX6.out.size
    have h4 := HX5.out.size
    exact (HCX.out.block gv (Array.getElem?_eq_some_iff.1 h9).1 (fun hs => by have := hs.1.2; have := HGV.out; omega)).trans h9
  have HEA := Lib.hid ((HK8.out.below HX89.out (Nat.le_refl _)).keepC HX89.out.size HCX.out (fun k hk => .inl (Nat.lt_of_lt_of_le hk.1.2 HX5.out.size)))
  have d0 := cell_of (v := .slice g6.kA kB1.key.length g6.kc) hga (k := 0) rfl
  have d1 := cell_of (v := .int .i64 kB1.seq) hga (k := 1) rfl
  have d2 := cell_of (v := .int .i64 kB1.kind) hga (k := 2) rfl
  have d3 := cell_of (v := .slice (some ⟨vb, 0, none⟩) 1 1) hga (k := 3) rfl
  have hl5 : T5.length = 1 := by have := congrArg List.length HM5.out; simpa using this
  have HP : Hid (Calls Tryd.prog 14 #[.pointer (some ⟨ly, 0, none⟩), .agg #[.slice g6.kA kB1.key.length g6.kc, .int .i64 kB1.seq, .int .i64 kB1.kind, .slice (some ⟨vb, 0, none⟩) 1 1]] wa (SPutAns wa (fun k => w4.heap.size ≤ k ∧ k < w5.heap.size) ly hy T5 vX)) :=
    sput_any (x := vX) (g := ⟨g6.kA, g6.kc, some ⟨vb, 0, none⟩, 1⟩) HYA.out HEA.out (Nat.le_trans HX89.out.size HCX.out.size) (fun k hk => .inl hk.2) HTA.out (fun hd => Nat.lt_irrefl _ (Nat.lt_of_lt_of_le HB3.out (Nat.le_trans HX4.out.size hd.1))) (by omega) (by simp [vX]) (by simp [vX])
  clear hga hl5 HS3 HS4 HS5
  go_wp2_with fail
  refine Calls.mono HP.out ?_
  rintro e wz ⟨Ty, cy, hpy, rfl, hsy, hcy⟩
  rw [HM5.out] at hpy
  obtain ⟨rfl, hTy⟩ : cy = 0 ∧ Ty.map Tw.e = [kA5, vX] := by
    have := nput2.symm.trans hpy; injection this with h1 h2; exact ⟨h2.symm, h1.symm⟩
  have HCY := Lib.hid hcy
  have HSY := Lib.hid hsy
  have HMY := Lib.hid hTy
  clear hpy hsy hcy hTy HP d0 d1 d2 d3
  have HBY : Hid (Below w3.heap.size wa wz) := HCY.out.below (fun k hk => Nat.le_trans HX4.out.size hk.1.1) (Nat.le_trans HX39.out.size HBX.out.size)
  have HTZ : Hid (Tab wz) := HTA.out.below HBY.out HB3.out
  have HSZ := Lib.hid (HSA.out.keep HCY.out (fun k hk hd => Nat.lt_irrefl _ (Nat.lt_of_lt_of_le hd.2 (Nat.le_trans HX4.out.size hk.1.1))))
  have HXZ := Lib.hid (HSX.out.keep HCY.out (fun k hk hd => by
    rcases hd with hd | hd
    · exact Nat.lt_irrefl _ (Nat.lt_of_lt_of_le hd.2 hk.1.1)
    · exact Nat.lt_irrefl _ (Nat.lt_of_lt_of_le hk.1.2 (Nat.le_trans HX59.out.size hd))))
  have HBZ : Hid (Below w.heap.size w wz) := HBW3.out.trans ((below_mono (Below.trans HX39.out HBX.out) HBW3.out.size).trans (below_mono HBY.out HBW3.out.size))
  clear HSA HSX HYA HEA HTA HCX HCY HBX HBY HX39 HX49 HX59 HX58 HX68 HX89 HX4 HX5 HX6 HD8 HK8 HS78 HT9 HT3 HGV HBW3 HB3
  go_wp2_with fail
  refine Calls.mono (slevel_far (n := -1) HSZ.out (.inl (by decide))) ?_
  rintro e u1 hg
  obtain ⟨bd, rfl, hx, hgo⟩ := goes_none (most := 0) hg
  have HU1 : Hid (Ext wz u1) := hx
  have HGO := Lib.hid hgo
  clear hg hx hgo
  go_wp2_with fail
  refine Calls.mono HGO.out ?_
  rintro e u2 ⟨rfl, hx⟩
  have HU2 : Hid (Ext wz u2) := Ext.trans HU1.out hx
  clear hx HGO
  go_wp2_with fail
  refine Calls.mono (slevel_far (n := 8) (HSZ.out.ext HU2.out) (.inr (by decide))) ?_
  rintro e u3 hg
  obtain ⟨bd2, rfl, hx, hgo⟩ := goes_none (most := 0) hg
  have HU3 : Hid (Ext wz u3) := Ext.trans HU2.out hx
  have HGO := Lib.hid hgo
  clear hg hx hgo
  go_wp2_with fail
  refine Calls.mono HGO.out ?_
  rintro e u4 ⟨rfl, hx⟩
  have HU4 : Hid (Ext wz u4) := Ext.trans HU3.out hx
  clear hx HGO
  go_wp2_with fail
  refine Calls.mono (slevel_any (n := 0) (HSZ.out.ext HU4.out) (by decide)) ?_
  rintro e u5 ⟨hx, bd3, rfl, hit⟩
  have HU5 : Hid (Ext wz u5) := Ext.trans HU4.out hx
  have HIT := Lib.hid hit
  clear hx hit
  go_wp2_with fail
  refine Calls.mono (lit_any (e := kA5) (k := [97]) rfl rfl (by decide) (by decide) (by decide) (by decide) u5) ?_
  rintro e u6 ⟨hx, g7, rfl, hm⟩
  have HU56 : Hid (Ext u5 u6) := hx
  have HM7 := Lib.hid hm
  clear hx hm
  have HOB : Hid (Es (u6.alloc (.cells (ecells (kA5, g7)).toArray 28)) 0 (u6.alloc (.cells (ecells (kA5, g7)).toArray 28)).heap.size (some ⟨u6.heap.size, 0, none⟩) [(kA5, g7)]) :=
    one_es (heap_at _ _ rfl) ((HM7.out.below (ext_alloc u6 _) (Nat.le_refl _)).wide (Nat.zero_le _) (by simp))
  have HU57 : Hid (Ext u5 (u6.alloc (.cells (ecells (kA5, g7)).toArray 28))) := Ext.trans HU56.out (ext_alloc _ _)
  have HGO : Hid (Calls Tryd.prog 17 #[.func (.func 53) #[] #[.pointer (some ⟨bd3, 0, none⟩)], .slice (some ⟨u6.heap.size, 0, none⟩) 1 1, .int .i64 0] (u6.alloc (.cells (ecells (kA5, g7)).toArray 28)) fun e w' => e = .returned (.bool true) ∧ Below (u6.alloc (.cells (ecells (kA5, g7)).toArray 28)).heap.size (u6.alloc (.cells (ecells (kA5, g7)).toArray 28)) w') := by
    refine goes_any (L2 := [(kA5, g7)]) (most := 0) (HIT.out.ext HU57.out) (fun A hA => Ext.trans HU57.out hA) (rowOf_ins HSZ.out.ins _ _) HOB.out (Nat.le_refl _) (by simp) ?_
    rw [all_rows HSZ.out]
    exact HM3.out
  unfold ecells at HGO
  unfold Ent.at_
  go_wp2_with fail
  refine Calls.mono HGO.out ?_
  rintro e u7 ⟨rfl, hx⟩
  have HU7 : Hid (Ext wz u7) := Ext.trans HU5.out (Ext.trans HU57.out hx)
  clear hx HGO HOB HIT
  go_wp2_with fail
  refine Calls.mono (ssame_any (HXZ.out.ext HU7.out) (HSY.out.ext HU7.out)) ?_
  rintro e u8 ⟨z, hz, rfl, hx⟩
  obtain rfl : z = false := by
    cases z with
    | false => rfl
    | true => have h := hz.1 rfl; rw [HMX.out, HMY.out] at h; exact absurd h x_y
  have HU8 : Hid (Ext wz u8) := Ext.trans HU7.out hx
  clear hz hx
  go_wp2_with fail
  refine Calls.mono (ssame_any (HSZ.out.ext HU8.out) (HXZ.out.ext HU8.out)) ?_
  rintro e u9 ⟨z, hz, rfl, hx⟩
  obtain rfl : z = false := by
    cases z with
    | false => rfl
    | true => have h := hz.1 rfl; rw [HM3.out, HMX.out] at h; exact absurd h s_x
  have HU9 : Hid (Ext wz u9) := Ext.trans HU8.out hx
  clear hz hx
  go_wp2_with fail
  refine Calls.mono (ssame_half (HSZ.out.ext HU9.out) (.inl rfl)) ?_
  rintro e u10 ⟨rfl, rfl⟩
  have HZE : Hid (Em u9 u9.heap.size u9.heap.size zeroE ⟨none, 0, none, 0⟩) := ⟨Bs.nil _ _ _, Bs.nil _ _ _, by simp [zeroE], by simp [zeroE], by decide, by decide, by decide, by decide⟩
  have HP : Hid (Calls Tryd.prog 14 #[.pointer (some ⟨w.heap.size + 1, 0, none⟩), .agg #[.slice none 0 0, .int .i64 0, .int .i64 0, .slice none 0 0]] u9 (SPutAns u9 (fun k => w.heap.size ≤ k ∧ k < w3.heap.size) (w.heap.size + 1) w.heap.size T3 zeroE)) :=
    sput_any (x := zeroE) (g := ⟨none, 0, none, 0⟩) (HSZ.out.ext HU9.out) HZE.out (Nat.le_refl _) (fun k _ => by omega) (HTZ.out.ext HU9.out) (fun hd => Nat.lt_irrefl _ (Nat.lt_of_lt_of_le HB.out hd.1)) (by have := HL3.out; omega) (by simp [zeroE]) (by simp [zeroE])
  go_wp2_with fail
  refine Calls.mono HP.out ?_
  rintro e u11 ⟨T0, c0, hp0, rfl, _, hc0⟩
  obtain rfl : c0 = 2 := by
    have := (nput0 _).symm.trans hp0; injection this with _ h2; exact h2.symm
  have HBU : Hid (Below w.heap.size w u11) := HBZ.out.trans ((below_mono HU9.out HBZ.out.size).trans (hc0.below (fun k hk => hk.1.1) (Nat.le_trans HBZ.out.size HU9.out.size)))
  have HT11 : Hid (Tab u11) := HT.out.below HBU.out HB.out
  clear hp0 hc0 HP HZE
  go_wp2_with fail
  refine Calls.mono (snum 2 u11) ?_
  rintro e u12 ⟨rfl, rfl⟩
  go_wp2_with fail
  refine Calls.mono (nothing_any (w := u11) (d := none) (.inl rfl)) ?_
  rintro e u13 ⟨rfl, hx⟩
  have HU13 : Hid (Ext u11 u13) := hx
  clear hx
  have HNL : Hid (Calls Tryd.prog 20 #[.pointer (some ⟨u13.heap.size, 0, none⟩)] (u13.alloc (.cells #[.pointer none, .int .i64 0, .int .i64 0] 49)) fun e w' => e = .returned (.bool true) ∧ Ext (u13.alloc (.cells #[.pointer none, .int .i64 0, .int .i64 0] 49)) w') :=
    nothing_any (.inr ⟨u13.heap.size, rfl, cell_of (heap_at _ _ rfl) rfl⟩)
  go_wp2_with fail
  refine Calls.mono HNL.out ?_
  rintro e u14 ⟨rfl, hx⟩
  have HU14 : Hid (Ext u11 u14) := Ext.trans HU13.out (Ext.trans (ext_alloc _ _) hx)
  clear hx HNL
  go_wp2_with fail
  refine Calls.mono (known_any (HT11.out.ext HU14.out)) ?_
  rintro e u15 ⟨rfl, hx⟩
  have HU15 : Hid (Ext u11 u15) := Ext.trans HU14.out hx
  clear hx
  go_wp2_with fail
  go_ret
  exact ⟨rfl, HBU.out.trans (below_mono HU15.out HBU.out.size)⟩
end Go.Proofs.YtepaaffebhinlaaDoor.skipNil
