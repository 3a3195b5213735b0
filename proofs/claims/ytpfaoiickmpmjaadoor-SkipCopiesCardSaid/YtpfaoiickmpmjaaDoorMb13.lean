/- Ssame Scopy, joined. -/
import Derived.Test.YtpfaoiickmpmjaaDoorMb10
import Derived.Test.YtpfaoiickmpmjaaDoorMb5
import Derived.Test.YtpfaoiickmpmjaaDoorMb6
import Derived.Test.YtpfaoiickmpmjaaDoorMb9

/- skip's Same. -/
namespace Go.Proofs.YtpfaoiickmpmjaaDoor
open Go.ChangeShapes Go.WideShapes Go.ChangeAt Go.RowKit

theorem Sk.tow {w : World} {D : Nat → Prop} {lb hb : Nat} {T : List Tw} (h : Sk w D lb hb T) {i : Nat} {t : Tw} (hi : T[i]? = some t) : ∃ (g : Hd) (born : Int), w.heap[t.b]? = some (.cells (tcells t g born (T.drop (i + 1))) 78 (0, 0)) ∧ Em w 0 w.heap.size t.e g := by
  obtain ⟨g, born, h1, _, _, h4⟩ := Tm.em (h.chain (i + 1) t (by simpa using hi)) (h.ins t (List.mem_of_getElem? hi))
  exact ⟨g, born, by simpa using h1, h4⟩
theorem Sk.tall {w : World} {D : Nat → Prop} {lb hb : Nat} {T : List Tw} (h : Sk w D lb hb T) : ∀ t ∈ T, 1 ≤ t.h := fun t ht => by
  have h1 := h.hts t ht
  have h2 := hgt_le t.e.key t.e.seq
  omega
theorem Sk.nx {w : World} {D : Nat → Prop} {lb hb : Nat} {T : List Tw} (h : Sk w D lb hb T) (i : Nat) : nxt 0 (T.drop i) = (T[i]?).map Tw.b := by
  rw [nxt_first (fun t ht => h.tall t (List.mem_of_mem_drop ht)), List.head?_drop]
theorem Sk.first {w : World} {D : Nat → Prop} {lb hb : Nat} {T : List Tw} (h : Sk w D lb hb T) : w.cell? ⟨hb, 5, none⟩ = some (optp (nxt 0 T)) := by
  obtain ⟨_, g, born, h1, _⟩ := h.chain 0 (headT hb) rfl
  exact cell_of h1 (k := 5) rfl
theorem tow_next {t : Tw} (h : 1 ≤ t.h) (R : List Tw) : nextOf t R 0 = optp (nxt 0 R) := by unfold nextOf; rw [if_pos (by omega)]
theorem take_same {T T' : List Tw} {i : Nat} {t t' : Tw} (h : (T.take i).map Tw.e = (T'.take i).map Tw.e) (ht : T[i]? = some t) (ht' : T'[i]? = some t') : ((T.take (i + 1)).map Tw.e = (T'.take (i + 1)).map Tw.e ↔ t.e = t'.e) := by
  rw [List.take_add_one, List.take_add_one, ht, ht', List.map_append, List.map_append, h]
  simp
theorem not_same {T T' : List Tw} {i : Nat} {t t' : Tw} (ht : T[i]? = some t) (ht' : T'[i]? = some t') (hne : t.e ≠ t'.e) : T.map Tw.e ≠ T'.map Tw.e := fun h => by
  have h1 := congrArg (fun l : List Ent => l[i]?) h
  simp [ht, ht'] at h1
  exact hne h1

set_option maxRecDepth 100000 in
set_option maxHeartbeats 16000000 in
theorem ssame_any {w : World} {D D' : Nat → Prop} {lb hb lb' hb' : Nat} {T T' : List Tw} (h : Sk w D lb hb T) (h' : Sk w D' lb' hb' T') :
    Calls Tryd.prog 27 #[.pointer (some ⟨lb, 0, none⟩), .pointer (some ⟨lb', 0, none⟩)] w fun e w' => ∃ z : Bool, (z = true ↔ T.map Tw.e = T'.map Tw.e) ∧ e = .returned (.bool z) ∧ Ext w w' := by
  have HA := Lib.hid h
  have HB := Lib.hid h'
  have HN1 := Lib.hid (none_no h.list)
  have HN2 := Lib.hid (none_no h'.list)
  have l0 := cell_of (v := .pointer (some ⟨hb, 0, none⟩)) h.list (k := 0) rfl
  have m0 := cell_of (v := .pointer (some ⟨hb', 0, none⟩)) h'.list (k := 0) rfl
  have l5 := h.first
  have m5 := h'.first
  obtain ⟨xa, hxa⟩ : ∃ xa, xa = optp (nxt 0 T) := ⟨_, rfl⟩
  obtain ⟨xb, hxb⟩ : ∃ xb, xb = optp (nxt 0 T') := ⟨_, rfl⟩
  have HXA := Lib.hid hxa
  have HXB := Lib.hid hxb
  rw [← hxa] at l5
  rw [← hxb] at m5
  clear h h' hxa hxb
  go_enter Tryd.func27, Tryd.ntmps27
  go_wp2_with fail
  refine Calls.mono HN1.out ?_
  rintro e w' ⟨rfl, hw'⟩
  have hw' := hw'.symm
  subst hw'
  go_wp2_with fail
  refine Calls.mono HN2.out ?_
  rintro e w' ⟨rfl, hw'⟩
  have hw' := hw'.symm
  subst hw'
  go_upto_region 3 with (fail)
  refine flow (by kernel_rfl) [Is (.pointer (some ⟨lb, 0, none⟩)), Is (.pointer (some ⟨lb, 0, none⟩)), Is (.pointer (some ⟨lb, 0, none⟩)), Is (.pointer (some ⟨hb, 0, none⟩)), Is (.pointer (some ⟨hb, 0, none⟩)), Is (.pointer (some ⟨hb, 5, none⟩)), Is (.pointer (some ⟨hb, 5 + 0, none⟩)), Is (xa), Is (.pointer (some ⟨lb', 0, none⟩)), Is (.pointer (some ⟨lb', 0, none⟩)), Is (.pointer (some ⟨lb', 0, none⟩)), Is (.pointer (some ⟨hb', 0, none⟩)), Is (.pointer (some ⟨hb', 0, none⟩)), Is (.pointer (some ⟨hb', 5, none⟩)), Is (.pointer (some ⟨hb', 5 + 0, none⟩)), Is (xb), Is (xa), Is (xb)] (by kernel_rfl) (by kernel_rfl) ?mono (fun f1 => ?obl) ?fin
  case mono =>
    simp only [List.forall_mem_cons, List.not_mem_nil, false_imp_iff, implies_true, and_true]
    exact ⟨.is _, .is _, .is _, .is _, .is _, .is _, .is _, .is _, .is _, .is _, .is _, .is _, .is _, .is _, .is _, .is _, .is _, .is _⟩
  case fin =>
    intro g1 w1 hu hg
    simp only [puts, Act.put, List.setIfInBounds_toArray, List.set_cons_zero, List.set_cons_succ]
    have h16 : g1 16 = xa := hg 16 (by decide)
    have h17 : g1 17 = xb := hg 17 (by decide)
    rw [h16, h17]
    have HX1 : Hid (Ext w w1) := Ext.trans (Ext.drew w) hu
    clear h16 h17 hg hu l0 m0 l5 m5
    go_wp2_with fail
    go_loopg [5, 6] (T.length + 1) (fun k a b wr => ∃ i : Nat, i ≤ T.length ∧ i ≤ T'.length ∧ k + i = T.length + 1 ∧ a = optp (nxt 0 (T.drop i)) ∧ b = optp (nxt 0 (T'.drop i)) ∧ Hid ((T.take i).map Tw.e = (T'.take i).map Tw.e) ∧ Hid (Ext w wr))
    case atStart => exact ⟨0, Nat.zero_le _, Nat.zero_le _, rfl, HXA.out, HXB.out, Lib.hid rfl, HX1⟩
    case round =>
      obtain ⟨i, hi, hi', hki, rfl, rfl, HT, HX⟩ := hrel
      rw [HA.out.nx, HB.out.nx]
      have HKI := Lib.hid hki
      cases ht : T[i]? with
      | none =>
        have HTL : Hid (T.length = i) := by have := List.getElem?_eq_none_iff.1 ht; unfold Hid; omega
        cases ht' : T'[i]? with
        | none =>
          have HTL' : Hid (T'.length = i) := by have := List.getElem?_eq_none_iff.1 ht'; unfold Hid; omega
          clear ht ht' hi hi' hki
          dsimp only [Option.map, optp]
          go_upto_region 4 with (fail)
          refine flow (by kernel_rfl) [Is (.pointer none), Is (.bool false), Is (.bool false), Is undef, Is undef, Is (.bool false), Is (.bool false), Is undef, Is undef, Is undef, Is undef, Is undef, Is undef, Is undef, Is undef, Is undef, Is (.bool false)] (by kernel_rfl) (by kernel_rfl) ?monoN (fun f1 => ?oblN) ?finN
          case monoN =>
            simp only [List.forall_mem_cons, List.not_mem_nil, false_imp_iff, implies_true, and_true]
            exact ⟨.is _, .is _, .is _, .is _, .is _, .is _, .is _, .is _, .is _, .is _, .is _, .is _, .is _, .is _, .is _, .is _, .is _⟩
          case finN =>
            intro g2 w5 hu hg
            simp only [puts, Act.put, List.setIfInBounds_toArray, List.set_cons_zero, List.set_cons_succ]
            have h16 : g2 16 = .bool false := hg 16 (by decide)
            rw [h16]
            have HX5 : Hid (Ext w w5) := Ext.trans HX.out (Ext.trans (Ext.drew wr) hu)
            clear h16 hg hu
            go_wp2_with fail
            go_ret
            exact ⟨true, ⟨fun _ => by have h1 := HT.out; rwa [List.take_of_length_le (Nat.le_of_eq HTL.out), List.take_of_length_le (Nat.le_of_eq HTL'.out)] at h1, fun _ => rfl⟩, rfl, HX5.out⟩
          case oblN =>
            refine ⟨fun u hu hd => ?_, ?_⟩
            · go_simp
              exact ⟨Ext.refl _, rfl⟩
            refine ⟨fun u hu hd => ?_, ?_⟩
            · simp only [Act.put, List.setIfInBounds_toArray, List.set_cons_zero, List.set_cons_succ]
              have e0 : f1 0 = .pointer none := hd 0 (by kernel_rfl)
              go_simp
              exact ⟨Ext.refl _, rfl⟩
            refine ⟨fun u hu hd => ?_, ?_⟩
            · simp only [Act.put, List.setIfInBounds_toArray, List.set_cons_zero, List.set_cons_succ]
              have e1 : f1 1 = .bool false := hd 1 (by kernel_rfl)
              go_simp
              exact ⟨Ext.refl _, rfl⟩
            refine ⟨fun u hu hd => ?_, ?_⟩
            · simp only [Act.put, List.setIfInBounds_toArray, List.set_cons_zero, List.set_cons_succ]
              have e2 : f1 2 = .bool false := hd 2 (by kernel_rfl)
              go_simp
              rfl
            refine ⟨fun u hu hd => ?_, ?_⟩
            · simp only [Act.put, List.setIfInBounds_toArray, List.set_cons_zero, List.set_cons_succ]
              have e2 : f1 2 = .bool false := hd 2 (by kernel_rfl)
              go_simp
              rfl
            refine ⟨fun u hu hd => ?_, ?_⟩
            · simp only [Act.put, List.setIfInBounds_toArray, List.set_cons_zero, List.set_cons_succ]
              have e2 : f1 2 = .bool false := hd 2 (by kernel_rfl)
              go_simp
              exact ⟨Ext.refl _, rfl⟩
            refine ⟨fun u hu hd => ?_, ?_⟩
            · simp only [Act.put, List.setIfInBounds_toArray, List.set_cons_zero, List.set_cons_succ]
              have e5 : f1 5 = .bool false := hd 5 (by kernel_rfl)
              go_simp
              exact ⟨Ext.refl _, rfl⟩
            refine ⟨fun u hu hd => ?_, ?_⟩
            · simp only [Act.put, List.setIfInBounds_toArray, List.set_cons_zero, List.set_cons_succ]
              have e6 : f1 6 = .bool false := hd 6 (by kernel_rfl)
              go_simp
              rfl
            refine ⟨fun u hu hd => ?_, ?_⟩
            · simp only [Act.put, List.setIfInBounds_toArray, List.set_cons_zero, List.set_cons_succ]
              have e6 : f1 6 = .bool false := hd 6 (by kernel_rfl)
              go_simp
              rfl
            refine ⟨fun u hu hd => ?_, ?_⟩
            · simp only [Act.put, List.setIfInBounds_toArray, List.set_cons_zero, List.set_cons_succ]
              have e6 : f1 6 = .bool false := hd 6 (by kernel_rfl)
              go_simp
              rfl
            refine ⟨fun u hu hd => ?_, ?_⟩
            · simp only [Act.put, List.setIfInBounds_toArray, List.set_cons_zero, List.set_cons_succ]
              have e6 : f1 6 = .bool false := hd 6 (by kernel_rfl)
              go_simp
              rfl
            refine ⟨fun u hu hd => ?_, ?_⟩
            · simp only [Act.put, List.setIfInBounds_toArray, List.set_cons_zero, List.set_cons_succ]
              have e6 : f1 6 = .bool false := hd 6 (by kernel_rfl)
              go_simp
              rfl
            refine ⟨fun u hu hd => ?_, ?_⟩
            · simp only [Act.put, List.setIfInBounds_toArray, List.set_cons_zero, List.set_cons_succ]
              have e6 : f1 6 = .bool false := hd 6 (by kernel_rfl)
              go_simp
              rfl
            refine ⟨fun u hu hd => ?_, ?_⟩
            · simp only [Act.put, List.setIfInBounds_toArray, List.set_cons_zero, List.set_cons_succ]
              have e6 : f1 6 = .bool false := hd 6 (by kernel_rfl)
              go_simp
              rfl
            refine ⟨fun u hu hd => ?_, ?_⟩
            · simp only [Act.put, List.setIfInBounds_toArray, List.set_cons_zero, List.set_cons_succ]
              have e6 : f1 6 = .bool false := hd 6 (by kernel_rfl)
              go_simp
              rfl
            refine ⟨fun u hu hd => ?_, ?_⟩
            · simp only [Act.put, List.setIfInBounds_toArray, List.set_cons_zero, List.set_cons_succ]
              have e6 : f1 6 = .bool false := hd 6 (by kernel_rfl)
              go_simp
              rfl
            refine ⟨fun u hu hd => ?_, ?_⟩
            · simp only [Act.put, List.setIfInBounds_toArray, List.set_cons_zero, List.set_cons_succ]
              have e6 : f1 6 = .bool false := hd 6 (by kernel_rfl)
              go_simp
              exact ⟨Ext.refl _, rfl⟩
            trivial
        | some t' =>
          have HT' := Lib.hid ht'
          clear ht ht' hi hi' hki
          dsimp only [Option.map, optp]
          go_upto_region 4 with (fail)
          refine flow (by kernel_rfl) [Is (.pointer none), Is (.bool false), Is (.bool false), Is undef, Is undef, Is (.bool false), Is (.bool false), Is undef, Is undef, Is undef, Is undef, Is undef, Is undef, Is undef, Is undef, Is undef, Is (.bool false)] (by kernel_rfl) (by kernel_rfl) ?monoM (fun f1 => ?oblM) ?finM
          case monoM =>
            simp only [List.forall_mem_cons, List.not_mem_nil, false_imp_iff, implies_true, and_true]
            exact ⟨.is _, .is _, .is _, .is _, .is _, .is _, .is _, .is _, .is _, .is _, .is _, .is _, .is _, .is _, .is _, .is _, .is _⟩
          case finM =>
            intro g2 w5 hu hg
            simp only [puts, Act.put, List.setIfInBounds_toArray, List.set_cons_zero, List.set_cons_succ]
            have h16 : g2 16 = .bool false := hg 16 (by decide)
            rw [h16]
            have HX5 : Hid (Ext w w5) := Ext.trans HX.out (Ext.trans (Ext.drew wr) hu)
            clear h16 hg hu
            go_wp2_with fail
            go_ret
            exact ⟨false, ⟨fun h => (by cases h), fun h => (by have h1 := congrArg List.length h; have h2 := (List.getElem?_eq_some_iff.1 HT'.out).1; have h3 := HTL.out; simp only [List.length_map] at h1; omega)⟩, rfl, HX5.out⟩
          case oblM =>
            refine ⟨fun u hu hd => ?_, ?_⟩
            · go_simp
              exact ⟨Ext.refl _, rfl⟩
            refine ⟨fun u hu hd => ?_, ?_⟩
            · simp only [Act.put, List.setIfInBounds_toArray, List.set_cons_zero, List.set_cons_succ]
              have e0 : f1 0 = .pointer none := hd 0 (by kernel_rfl)
              go_simp
              exact ⟨Ext.refl _, rfl⟩
            refine ⟨fun u hu hd => ?_, ?_⟩
            · simp only [Act.put, List.setIfInBounds_toArray, List.set_cons_zero, List.set_cons_succ]
              have e1 : f1 1 = .bool false := hd 1 (by kernel_rfl)
              go_simp
              exact ⟨Ext.refl _, rfl⟩
            refine ⟨fun u hu hd => ?_, ?_⟩
            · simp only [Act.put, List.setIfInBounds_toArray, List.set_cons_zero, List.set_cons_succ]
              have e2 : f1 2 = .bool false := hd 2 (by kernel_rfl)
              go_simp
              rfl
            refine ⟨fun u hu hd => ?_, ?_⟩
            · simp only [Act.put, List.setIfInBounds_toArray, List.set_cons_zero, List.set_cons_succ]
              have e2 : f1 2 = .bool false := hd 2 (by kernel_rfl)
              go_simp
              rfl
            refine ⟨fun u hu hd => ?_, ?_⟩
            · simp only [Act.put, List.setIfInBounds_toArray, List.set_cons_zero, List.set_cons_succ]
              have e2 : f1 2 = .bool false := hd 2 (by kernel_rfl)
              go_simp
              exact ⟨Ext.refl _, rfl⟩
            refine ⟨fun u hu hd => ?_, ?_⟩
            · simp only [Act.put, List.setIfInBounds_toArray, List.set_cons_zero, List.set_cons_succ]
              have e5 : f1 5 = .bool false := hd 5 (by kernel_rfl)
              go_simp
              exact ⟨Ext.refl _, rfl⟩
            refine ⟨fun u hu hd => ?_, ?_⟩
            · simp only [Act.put, List.setIfInBounds_toArray, List.set_cons_zero, List.set_cons_succ]
              have e6 : f1 6 = .bool false := hd 6 (by kernel_rfl)
              go_simp
              rfl
            refine ⟨fun u hu hd => ?_, ?_⟩
            · simp only [Act.put, List.setIfInBounds_toArray, List.set_cons_zero, List.set_cons_succ]
              have e6 : f1 6 = .bool false := hd 6 (by kernel_rfl)
              go_simp
              rfl
            refine ⟨fun u hu hd => ?_, ?_⟩
            · simp only [Act.put, List.setIfInBounds_toArray, List.set_cons_zero, List.set_cons_succ]
              have e6 : f1 6 = .bool false := hd 6 (by kernel_rfl)
              go_simp
              rfl
            refine ⟨fun u hu hd => ?_, ?_⟩
            · simp only [Act.put, List.setIfInBounds_toArray, List.set_cons_zero, List.set_cons_succ]
              have e6 : f1 6 = .bool false := hd 6 (by kernel_rfl)
              go_simp
              rfl
            refine ⟨fun u hu hd => ?_, ?_⟩
            · simp only [Act.put, List.setIfInBounds_toArray, List.set_cons_zero, List.set_cons_succ]
              have e6 : f1 6 = .bool false := hd 6 (by kernel_rfl)
              go_simp
              rfl
            refine ⟨fun u hu hd => ?_, ?_⟩
            · simp only [Act.put, List.setIfInBounds_toArray, List.set_cons_zero, List.set_cons_succ]
              have e6 : f1 6 = .bool false := hd 6 (by kernel_rfl)
              go_simp
              rfl
            refine ⟨fun u hu hd => ?_, ?_⟩
            · simp only [Act.put, List.setIfInBounds_toArray, List.set_cons_zero, List.set_cons_succ]
              have e6 : f1 6 = .bool false := hd 6 (by kernel_rfl)
              go_simp
              rfl
            refine ⟨fun u hu hd => ?_, ?_⟩
            · simp only [Act.put, List.setIfInBounds_toArray, List.set_cons_zero, List.set_cons_succ]
              have e6 : f1 6 = .bool false := hd 6 (by kernel_rfl)
              go_simp
              rfl
            refine ⟨fun u hu hd => ?_, ?_⟩
            · simp only [Act.put, List.setIfInBounds_toArray, List.set_cons_zero, List.set_cons_succ]
              have e6 : f1 6 = .bool false := hd 6 (by kernel_rfl)
              go_simp
              rfl
            refine ⟨fun u hu hd => ?_, ?_⟩
            · simp only [Act.put, List.setIfInBounds_toArray, List.set_cons_zero, List.set_cons_succ]
              have e6 : f1 6 = .bool false := hd 6 (by kernel_rfl)
              go_simp
              exact ⟨Ext.refl _, rfl⟩
            trivial
      | some t =>
        have HTS := Lib.hid ht
        cases ht' : T'[i]? with
        | none =>
          have HTL' : Hid (T'.length = i) := by have := List.getElem?_eq_none_iff.1 ht'; unfold Hid; omega
          clear ht ht' hi hi' hki
          dsimp only [Option.map, optp]
          go_upto_region 4 with (fail)
          refine flow (by kernel_rfl) [Is (.pointer (some ⟨t.b, 0, none⟩)), Is (.bool true), Is (.bool true), Is (.pointer none), Is (.bool false), Is (.bool false), Is (.bool false), Is undef, Is undef, Is undef, Is undef, Is undef, Is undef, Is undef, Is undef, Is undef, Is (.bool false)] (by kernel_rfl) (by kernel_rfl) ?monoS (fun f1 => ?oblS) ?finS
          case monoS =>
            simp only [List.forall_mem_cons, List.not_mem_nil, false_imp_iff, implies_true, and_true]
            exact ⟨.is _, .is _, .is _, .is _, .is _, .is _, .is _, .is _, .is _, .is _, .is _, .is _, .is _, .is _, .is _, .is _, .is _⟩
          case finS =>
            intro g2 w5 hu hg
            simp only [puts, Act.put, List.setIfInBounds_toArray, List.set_cons_zero, List.set_cons_succ]
            have h16 : g2 16 = .bool false := hg 16 (by decide)
            rw [h16]
            have HX5 : Hid (Ext w w5) := Ext.trans HX.out (Ext.trans (Ext.drew wr) hu)
            clear h16 hg hu
            go_wp2_with fail
            go_ret
            exact ⟨false, ⟨fun h => (by cases h), fun h => (by have h1 := congrArg List.length h; have h2 := (List.getElem?_eq_some_iff.1 HTS.out).1; have h3 := HTL'.out; simp only [List.length_map] at h1; omega)⟩, rfl, HX5.out⟩
          case oblS =>
            refine ⟨fun u hu hd => ?_, ?_⟩
            · go_simp
              exact ⟨Ext.refl _, rfl⟩
            refine ⟨fun u hu hd => ?_, ?_⟩
            · simp only [Act.put, List.setIfInBounds_toArray, List.set_cons_zero, List.set_cons_succ]
              have e0 : f1 0 = .pointer (some ⟨t.b, 0, none⟩) := hd 0 (by kernel_rfl)
              go_simp
              exact ⟨Ext.refl _, rfl⟩
            refine ⟨fun u hu hd => ?_, ?_⟩
            · simp only [Act.put, List.setIfInBounds_toArray, List.set_cons_zero, List.set_cons_succ]
              have e1 : f1 1 = .bool true := hd 1 (by kernel_rfl)
              go_simp
              exact ⟨Ext.refl _, rfl⟩
            refine ⟨fun u hu hd => ?_, ?_⟩
            · simp only [Act.put, List.setIfInBounds_toArray, List.set_cons_zero, List.set_cons_succ]
              have e2 : f1 2 = .bool true := hd 2 (by kernel_rfl)
              go_simp
              exact ⟨Ext.refl _, rfl⟩
            refine ⟨fun u hu hd => ?_, ?_⟩
            · simp only [Act.put, List.setIfInBounds_toArray, List.set_cons_zero, List.set_cons_succ]
              have e2 : f1 2 = .bool true := hd 2 (by kernel_rfl)
              have e3 : f1 3 = .pointer none := hd 3 (by kernel_rfl)
              go_simp
              exact ⟨Ext.refl _, rfl⟩
            refine ⟨fun u hu hd => ?_, ?_⟩
            · simp only [Act.put, List.setIfInBounds_toArray, List.set_cons_zero, List.set_cons_succ]
              have e2 : f1 2 = .bool true := hd 2 (by kernel_rfl)
              have e4 : f1 4 = .bool false := hd 4 (by kernel_rfl)
              go_simp
              exact ⟨Ext.refl _, rfl⟩
            refine ⟨fun u hu hd => ?_, ?_⟩
            · simp only [Act.put, List.setIfInBounds_toArray, List.set_cons_zero, List.set_cons_succ]
              have e5 : f1 5 = .bool false := hd 5 (by kernel_rfl)
              go_simp
              exact ⟨Ext.refl _, rfl⟩
            refine ⟨fun u hu hd => ?_, ?_⟩
            · simp only [Act.put, List.setIfInBounds_toArray, List.set_cons_zero, List.set_cons_succ]
              have e6 : f1 6 = .bool false := hd 6 (by kernel_rfl)
              go_simp
              rfl
            refine ⟨fun u hu hd => ?_, ?_⟩
            · simp only [Act.put, List.setIfInBounds_toArray, List.set_cons_zero, List.set_cons_succ]
              have e6 : f1 6 = .bool false := hd 6 (by kernel_rfl)
              go_simp
              rfl
            refine ⟨fun u hu hd => ?_, ?_⟩
            · simp only [Act.put, List.setIfInBounds_toArray, List.set_cons_zero, List.set_cons_succ]
              have e6 : f1 6 = .bool false := hd 6 (by kernel_rfl)
              go_simp
              rfl
            refine ⟨fun u hu hd => ?_, ?_⟩
            · simp only [Act.put, List.setIfInBounds_toArray, List.set_cons_zero, List.set_cons_succ]
              have e6 : f1 6 = .bool false := hd 6 (by kernel_rfl)
              go_simp
              rfl
            refine ⟨fun u hu hd => ?_, ?_⟩
            · simp only [Act.put, List.setIfInBounds_toArray, List.set_cons_zero, List.set_cons_succ]
              have e6 : f1 6 = .bool false := hd 6 (by kernel_rfl)
              go_simp
              rfl
            refine ⟨fun u hu hd => ?_, ?_⟩
            · simp only [Act.put, List.setIfInBounds_toArray, List.set_cons_zero, List.set_cons_succ]
              have e6 : f1 6 = .bool false := hd 6 (by kernel_rfl)
              go_simp
              rfl
            refine ⟨fun u hu hd => ?_, ?_⟩
            · simp only [Act.put, List.setIfInBounds_toArray, List.set_cons_zero, List.set_cons_succ]
              have e6 : f1 6 = .bool false := hd 6 (by kernel_rfl)
              go_simp
              rfl
            refine ⟨fun u hu hd => ?_, ?_⟩
            · simp only [Act.put, List.setIfInBounds_toArray, List.set_cons_zero, List.set_cons_succ]
              have e6 : f1 6 = .bool false := hd 6 (by kernel_rfl)
              go_simp
              rfl
            refine ⟨fun u hu hd => ?_, ?_⟩
            · simp only [Act.put, List.setIfInBounds_toArray, List.set_cons_zero, List.set_cons_succ]
              have e6 : f1 6 = .bool false := hd 6 (by kernel_rfl)
              go_simp
              rfl
            refine ⟨fun u hu hd => ?_, ?_⟩
            · simp only [Act.put, List.setIfInBounds_toArray, List.set_cons_zero, List.set_cons_succ]
              have e6 : f1 6 = .bool false := hd 6 (by kernel_rfl)
              go_simp
              exact ⟨Ext.refl _, rfl⟩
            trivial
        | some t' =>
          have HTS' := Lib.hid ht'
          have HLT : Hid (i < T.length ∧ i < T'.length) := ⟨(List.getElem?_eq_some_iff.1 ht).1, (List.getElem?_eq_some_iff.1 ht').1⟩
          obtain ⟨g, born, hb1, hm1⟩ := (HA.out.ext HX.out).tow ht
          obtain ⟨g', born', hb2, hm2⟩ := (HB.out.ext HX.out).tow ht'
          have HM : Hid (∀ u, Ext wr u → Em u 0 wr.heap.size t.e g ∧ Em u 0 wr.heap.size t'.e g' ∧ wr.heap.size ≤ u.heap.size) := fun u hu => ⟨hm1.below hu (Nat.le_refl _), hm2.below hu (Nat.le_refl _), hu.size⟩
          have c0 := cell_of (v := .slice g.kA t.e.key.length g.kc) hb1 (k := 0) rfl
          have c1 := cell_of (v := .int .i64 t.e.seq) hb1 (k := 1) rfl
          have c2 := cell_of (v := .int .i64 t.e.kind) hb1 (k := 2) rfl
          have c3 := cell_of (v := .slice g.vA t.e.val.length g.vc) hb1 (k := 3) rfl
          have d0 := cell_of (v := .slice g'.kA t'.e.key.length g'.kc) hb2 (k := 0) rfl
          have d1 := cell_of (v := .int .i64 t'.e.seq) hb2 (k := 1) rfl
          have d2 := cell_of (v := .int .i64 t'.e.kind) hb2 (k := 2) rfl
          have d3 := cell_of (v := .slice g'.vA t'.e.val.length g'.vc) hb2 (k := 3) rfl
          obtain ⟨xa2, hxa2⟩ : ∃ xa2, xa2 = optp (nxt 0 (T.drop (i + 1))) := ⟨_, rfl⟩
          obtain ⟨xb2, hxb2⟩ : ∃ xb2, xb2 = optp (nxt 0 (T'.drop (i + 1))) := ⟨_, rfl⟩
          have HXA2 := Lib.hid hxa2
          have HXB2 := Lib.hid hxb2
          have c5 : wr.cell? ⟨t.b, 5, none⟩ = some xa2 := by rw [hxa2, ← tow_next (HA.out.tall t (List.mem_of_getElem? ht))]; exact cell_of hb1 (k := 5) rfl
          have d5 : wr.cell? ⟨t'.b, 5, none⟩ = some xb2 := by rw [hxb2, ← tow_next (HB.out.tall t' (List.mem_of_getElem? ht'))]; exact cell_of hb2 (k := 5) rfl
          obtain ⟨z, hz⟩ : ∃ z : Bool, (z = true ↔ t.e = t'.e) := ⟨@decide _ (Classical.propDecidable _), @decide_eq_true_iff _ (Classical.propDecidable _)⟩
          have HZ := Lib.hid hz
          clear ht ht' hi hi' hki hb1 hb2 hm1 hm2 hxa2 hxb2 hz
          dsimp only [Option.map, optp]
          go_upto_region 4 with (fail)
          refine flow (by kernel_rfl) [Is (.pointer (some ⟨t.b, 0, none⟩)), Is (.bool true), Is (.bool true), Is (.pointer (some ⟨t'.b, 0, none⟩)), Is (.bool true), Is (.bool true), Is (.bool true), Is (.pointer (some ⟨t.b, 0, none⟩)), Is (.pointer (some ⟨t.b, 0, none⟩)), Is (.pointer (some ⟨t.b, 0, none⟩)), Is (.agg #[.slice g.kA t.e.key.length g.kc, .int .i64 t.e.seq, .int .i64 t.e.kind, .slice g.vA t.e.val.length g.vc]), Is (.pointer (some ⟨t'.b, 0, none⟩)), Is (.pointer (some ⟨t'.b, 0, none⟩)), Is (.pointer (some ⟨t'.b, 0, none⟩)), Is (.agg #[.slice g'.kA t'.e.key.length g'.kc, .int .i64 t'.e.seq, .int .i64 t'.e.kind, .slice g'.vA t'.e.val.length g'.vc]), Is (.bool z), Is (.bool z)] (by kernel_rfl) (by kernel_rfl) ?monoB (fun f1 => ?oblB) ?finB
          case monoB =>
            simp only [List.forall_mem_cons, List.not_mem_nil, false_imp_iff, implies_true, and_true]
            exact ⟨.is _, .is _, .is _, .is _, .is _, .is _, .is _, .is _, .is _, .is _, .is _, .is _, .is _, .is _, .is _, .is _, .is _⟩
          case finB =>
            intro g2 w5 hu hg
            simp only [puts, Act.put, List.setIfInBounds_toArray, List.set_cons_zero, List.set_cons_succ]
            have h16 : g2 16 = .bool z := hg 16 (by decide)
            rw [h16]
            have HX5 : Hid (Ext w w5) := Ext.trans HX.out (Ext.trans (Ext.drew wr) hu)
            have HW5 : Hid (Ext wr w5) := Ext.trans (Ext.drew wr) hu
            replace c5 := ext_cell HW5.out c5
            replace d5 := ext_cell HW5.out d5
            clear h16 hg hu c0 c1 c2 c3 d0 d1 d2 d3
            cases z with
            | false =>
              go_wp2_with fail
              go_ret
              exact ⟨false, ⟨fun h => (by cases h), fun h => absurd h (not_same HTS.out HTS'.out (fun he => by have h9 := HZ.out.2 he; simp at h9))⟩, rfl, HX5.out⟩
            | true =>
              go_upto_region 5 with (fail)
              refine flow (by kernel_rfl) [Is (.pointer (some ⟨t.b, 0, none⟩)), Is (.pointer (some ⟨t.b, 0, none⟩)), Is (.pointer (some ⟨t.b, 5, none⟩)), Is (.pointer (some ⟨t.b, 5 + 0, none⟩)), Is (xa2), Is (.pointer (some ⟨t'.b, 0, none⟩)), Is (.pointer (some ⟨t'.b, 0, none⟩)), Is (.pointer (some ⟨t'.b, 5, none⟩)), Is (.pointer (some ⟨t'.b, 5 + 0, none⟩)), Is (xb2), Is (xa2), Is (xb2)] (by kernel_rfl) (by kernel_rfl) ?monoV (fun f1 => ?oblV) ?finV
              case monoV =>
                simp only [List.forall_mem_cons, List.not_mem_nil, false_imp_iff, implies_true, and_true]
                exact ⟨.is _, .is _, .is _, .is _, .is _, .is _, .is _, .is _, .is _, .is _, .is _, .is _⟩
              case finV =>
                intro g1 w7 hu hg
                simp only [puts, Act.put, List.setIfInBounds_toArray, List.set_cons_zero, List.set_cons_succ]
                have h10 : g1 10 = xa2 := hg 10 (by decide)
                have h11 : g1 11 = xb2 := hg 11 (by decide)
                rw [h10, h11]
                have HX7 : Hid (Ext w w7) := Ext.trans HX5.out (Ext.trans (Ext.drew w5) hu)
                clear h10 h11 hg hu
                go_wp2_with fail
                go_roundg (T.length + 1 - (i + 1))
                case rel => exact ⟨i + 1, by have := HLT.out; omega, by have := HLT.out; omega, by have := HLT.out; omega, HXA2.out, HXB2.out, (take_same HT.out HTS.out HTS'.out).2 (HZ.out.1 (by trivial)), HX7⟩
                case measure => have := HKI.out; have := HLT.out; omega
              case oblV =>
                refine ⟨fun u hu hd => ?_, ?_⟩
                · go_simp
                  exact ⟨Ext.refl _, rfl⟩
                refine ⟨fun u hu hd => ?_, ?_⟩
                · simp only [Act.put, List.setIfInBounds_toArray, List.set_cons_zero, List.set_cons_succ]
                  have e0 : f1 0 = .pointer (some ⟨t.b, 0, none⟩) := hd 0 (by kernel_rfl)
                  go_simp
                  exact ⟨Ext.refl _, rfl⟩
                refine ⟨fun u hu hd => ?_, ?_⟩
                · simp only [Act.put, List.setIfInBounds_toArray, List.set_cons_zero, List.set_cons_succ]
                  have e1 : f1 1 = .pointer (some ⟨t.b, 0, none⟩) := hd 1 (by kernel_rfl)
                  go_simp
                  exact ⟨Ext.refl _, rfl⟩
                refine ⟨fun u hu hd => ?_, ?_⟩
                · simp only [Act.put, List.setIfInBounds_toArray, List.set_cons_zero, List.set_cons_succ]
                  have e2 : f1 2 = .pointer (some ⟨t.b, 5, none⟩) := hd 2 (by kernel_rfl)
                  go_simp
                  exact ⟨Ext.refl _, rfl⟩
                refine ⟨fun u hu hd => ?_, ?_⟩
                · simp only [Act.put, List.setIfInBounds_toArray, List.set_cons_zero, List.set_cons_succ]
                  have e3 : f1 3 = .pointer (some ⟨t.b, 5 + 0, none⟩) := hd 3 (by kernel_rfl)
                  have hu2 := Ext.trans (Ext.drew w5) hu
                  have q0 := ext_cell hu2 c5
                  go_simp
                  exact ⟨Ext.refl _, rfl⟩
                refine ⟨fun u hu hd => ?_, ?_⟩
                · simp only [Act.put, List.setIfInBounds_toArray, List.set_cons_zero, List.set_cons_succ]
                  go_simp
                  exact ⟨Ext.refl _, rfl⟩
                refine ⟨fun u hu hd => ?_, ?_⟩
                · simp only [Act.put, List.setIfInBounds_toArray, List.set_cons_zero, List.set_cons_succ]
                  have e5 : f1 5 = .pointer (some ⟨t'.b, 0, none⟩) := hd 5 (by kernel_rfl)
                  go_simp
                  exact ⟨Ext.refl _, rfl⟩
                refine ⟨fun u hu hd => ?_, ?_⟩
                · simp only [Act.put, List.setIfInBounds_toArray, List.set_cons_zero, List.set_cons_succ]
                  have e6 : f1 6 = .pointer (some ⟨t'.b, 0, none⟩) := hd 6 (by kernel_rfl)
                  go_simp
                  exact ⟨Ext.refl _, rfl⟩
                refine ⟨fun u hu hd => ?_, ?_⟩
                · simp only [Act.put, List.setIfInBounds_toArray, List.set_cons_zero, List.set_cons_succ]
                  have e7 : f1 7 = .pointer (some ⟨t'.b, 5, none⟩) := hd 7 (by kernel_rfl)
                  go_simp
                  exact ⟨Ext.refl _, rfl⟩
                refine ⟨fun u hu hd => ?_, ?_⟩
                · simp only [Act.put, List.setIfInBounds_toArray, List.set_cons_zero, List.set_cons_succ]
                  have e8 : f1 8 = .pointer (some ⟨t'.b, 5 + 0, none⟩) := hd 8 (by kernel_rfl)
                  have hu2 := Ext.trans (Ext.drew w5) hu
                  have q0 := ext_cell hu2 d5
                  go_simp
                  exact ⟨Ext.refl _, rfl⟩
                refine ⟨fun u hu hd => ?_, ?_⟩
                · simp only [Act.put, List.setIfInBounds_toArray, List.set_cons_zero, List.set_cons_succ]
                  have e4 : f1 4 = xa2 := hd 4 (by kernel_rfl)
                  go_simp
                  exact ⟨Ext.refl _, rfl⟩
                refine ⟨fun u hu hd => ?_, ?_⟩
                · simp only [Act.put, List.setIfInBounds_toArray, List.set_cons_zero, List.set_cons_succ]
                  have e9 : f1 9 = xb2 := hd 9 (by kernel_rfl)
                  go_simp
                  exact ⟨Ext.refl _, rfl⟩
                trivial
          case oblB =>
            refine ⟨fun u hu hd => ?_, ?_⟩
            · go_simp
              exact ⟨Ext.refl _, rfl⟩
            refine ⟨fun u hu hd => ?_, ?_⟩
            · simp only [Act.put, List.setIfInBounds_toArray, List.set_cons_zero, List.set_cons_succ]
              have e0 : f1 0 = .pointer (some ⟨t.b, 0, none⟩) := hd 0 (by kernel_rfl)
              go_simp
              exact ⟨Ext.refl _, rfl⟩
            refine ⟨fun u hu hd => ?_, ?_⟩
            · simp only [Act.put, List.setIfInBounds_toArray, List.set_cons_zero, List.set_cons_succ]
              have e1 : f1 1 = .bool true := hd 1 (by kernel_rfl)
              go_simp
              exact ⟨Ext.refl _, rfl⟩
            refine ⟨fun u hu hd => ?_, ?_⟩
            · simp only [Act.put, List.setIfInBounds_toArray, List.set_cons_zero, List.set_cons_succ]
              have e2 : f1 2 = .bool true := hd 2 (by kernel_rfl)
              go_simp
              exact ⟨Ext.refl _, rfl⟩
            refine ⟨fun u hu hd => ?_, ?_⟩
            · simp only [Act.put, List.setIfInBounds_toArray, List.set_cons_zero, List.set_cons_succ]
              have e2 : f1 2 = .bool true := hd 2 (by kernel_rfl)
              have e3 : f1 3 = .pointer (some ⟨t'.b, 0, none⟩) := hd 3 (by kernel_rfl)
              go_simp
              exact ⟨Ext.refl _, rfl⟩
            refine ⟨fun u hu hd => ?_, ?_⟩
            · simp only [Act.put, List.setIfInBounds_toArray, List.set_cons_zero, List.set_cons_succ]
              have e2 : f1 2 = .bool true := hd 2 (by kernel_rfl)
              have e4 : f1 4 = .bool true := hd 4 (by kernel_rfl)
              go_simp
              exact ⟨Ext.refl _, rfl⟩
            refine ⟨fun u hu hd => ?_, ?_⟩
            · simp only [Act.put, List.setIfInBounds_toArray, List.set_cons_zero, List.set_cons_succ]
              have e5 : f1 5 = .bool true := hd 5 (by kernel_rfl)
              go_simp
              exact ⟨Ext.refl _, rfl⟩
            refine ⟨fun u hu hd => ?_, ?_⟩
            · simp only [Act.put, List.setIfInBounds_toArray, List.set_cons_zero, List.set_cons_succ]
              have e6 : f1 6 = .bool true := hd 6 (by kernel_rfl)
              go_simp
              exact ⟨Ext.refl _, rfl⟩
            refine ⟨fun u hu hd => ?_, ?_⟩
            · simp only [Act.put, List.setIfInBounds_toArray, List.set_cons_zero, List.set_cons_succ]
              have e6 : f1 6 = .bool true := hd 6 (by kernel_rfl)
              have e7 : f1 7 = .pointer (some ⟨t.b, 0, none⟩) := hd 7 (by kernel_rfl)
              go_simp
              exact ⟨Ext.refl _, rfl⟩
            refine ⟨fun u hu hd => ?_, ?_⟩
            · simp only [Act.put, List.setIfInBounds_toArray, List.set_cons_zero, List.set_cons_succ]
              have e6 : f1 6 = .bool true := hd 6 (by kernel_rfl)
              have e8 : f1 8 = .pointer (some ⟨t.b, 0, none⟩) := hd 8 (by kernel_rfl)
              go_simp
              exact ⟨Ext.refl _, rfl⟩
            refine ⟨fun u hu hd => ?_, ?_⟩
            · simp only [Act.put, List.setIfInBounds_toArray, List.set_cons_zero, List.set_cons_succ]
              have e6 : f1 6 = .bool true := hd 6 (by kernel_rfl)
              have e9 : f1 9 = .pointer (some ⟨t.b, 0, none⟩) := hd 9 (by kernel_rfl)
              have hu2 := Ext.trans (Ext.drew wr) hu
              have q0 := ext_cell hu2 c0
              have q1 := ext_cell hu2 c1
              have q2 := ext_cell hu2 c2
              have q3 := ext_cell hu2 c3
              go_simp
              exact ⟨Ext.refl _, rfl⟩
            refine ⟨fun u hu hd => ?_, ?_⟩
            · simp only [Act.put, List.setIfInBounds_toArray, List.set_cons_zero, List.set_cons_succ]
              have e6 : f1 6 = .bool true := hd 6 (by kernel_rfl)
              go_simp
              exact ⟨Ext.refl _, rfl⟩
            refine ⟨fun u hu hd => ?_, ?_⟩
            · simp only [Act.put, List.setIfInBounds_toArray, List.set_cons_zero, List.set_cons_succ]
              have e6 : f1 6 = .bool true := hd 6 (by kernel_rfl)
              have e11 : f1 11 = .pointer (some ⟨t'.b, 0, none⟩) := hd 11 (by kernel_rfl)
              go_simp
              exact ⟨Ext.refl _, rfl⟩
            refine ⟨fun u hu hd => ?_, ?_⟩
            · simp only [Act.put, List.setIfInBounds_toArray, List.set_cons_zero, List.set_cons_succ]
              have e6 : f1 6 = .bool true := hd 6 (by kernel_rfl)
              have e12 : f1 12 = .pointer (some ⟨t'.b, 0, none⟩) := hd 12 (by kernel_rfl)
              go_simp
              exact ⟨Ext.refl _, rfl⟩
            refine ⟨fun u hu hd => ?_, ?_⟩
            · simp only [Act.put, List.setIfInBounds_toArray, List.set_cons_zero, List.set_cons_succ]
              have e6 : f1 6 = .bool true := hd 6 (by kernel_rfl)
              have e13 : f1 13 = .pointer (some ⟨t'.b, 0, none⟩) := hd 13 (by kernel_rfl)
              have hu2 := Ext.trans (Ext.drew wr) hu
              have q0 := ext_cell hu2 d0
              have q1 := ext_cell hu2 d1
              have q2 := ext_cell hu2 d2
              have q3 := ext_cell hu2 d3
              go_simp
              exact ⟨Ext.refl _, rfl⟩
            refine ⟨fun u hu hd => ?_, ?_⟩
            · simp only [Act.put, List.setIfInBounds_toArray, List.set_cons_zero, List.set_cons_succ]
              have e6 : f1 6 = .bool true := hd 6 (by kernel_rfl)
              have e10 : f1 10 = .agg #[.slice g.kA t.e.key.length g.kc, .int .i64 t.e.seq, .int .i64 t.e.kind, .slice g.vA t.e.val.length g.vc] := hd 10 (by kernel_rfl)
              have e14 : f1 14 = .agg #[.slice g'.kA t'.e.key.length g'.kc, .int .i64 t'.e.seq, .int .i64 t'.e.kind, .slice g'.vA t'.e.val.length g'.vc] := hd 14 (by kernel_rfl)
              have hu2 := Ext.trans (Ext.drew wr) hu
              obtain ⟨m1, m2, m3⟩ := HM.out u hu2
              go_simp
              refine (same_any m1 m2 m3 m3).mono ?_
              rintro x9 w9 ⟨z9, hz9, rfl, hx9⟩
              have hzz : z9 = z := Bool.eq_iff_iff.2 (hz9.trans HZ.out.symm)
              subst hzz
              exact ⟨_, rfl, hx9, rfl⟩
            refine ⟨fun u hu hd => ?_, ?_⟩
            · simp only [Act.put, List.setIfInBounds_toArray, List.set_cons_zero, List.set_cons_succ]
              have e6 : f1 6 = .bool true := hd 6 (by kernel_rfl)
              have e15 : f1 15 = .bool z := hd 15 (by kernel_rfl)
              go_simp
              exact ⟨Ext.refl _, rfl⟩
            trivial
  case obl =>
    refine ⟨fun u hu hd => ?_, ?_⟩
    · go_simp
      exact ⟨Ext.refl _, rfl⟩
    refine ⟨fun u hu hd => ?_, ?_⟩
    · simp only [Act.put, List.setIfInBounds_toArray, List.set_cons_zero, List.set_cons_succ]
      have e0 : f1 0 = .pointer (some ⟨lb, 0, none⟩) := hd 0 (by kernel_rfl)
      go_simp
      exact ⟨Ext.refl _, rfl⟩
    refine ⟨fun u hu hd => ?_, ?_⟩
    · simp only [Act.put, List.setIfInBounds_toArray, List.set_cons_zero, List.set_cons_succ]
      have e1 : f1 1 = .pointer (some ⟨lb, 0, none⟩) := hd 1 (by kernel_rfl)
      go_simp
      exact ⟨Ext.refl _, rfl⟩
    refine ⟨fun u hu hd => ?_, ?_⟩
    · simp only [Act.put, List.setIfInBounds_toArray, List.set_cons_zero, List.set_cons_succ]
      have e2 : f1 2 = .pointer (some ⟨lb, 0, none⟩) := hd 2 (by kernel_rfl)
      have hu2 := Ext.trans (Ext.drew w) hu
      have q0 := ext_cell hu2 l0
      go_simp
      exact ⟨Ext.refl _, rfl⟩
    refine ⟨fun u hu hd => ?_, ?_⟩
    · simp only [Act.put, List.setIfInBounds_toArray, List.set_cons_zero, List.set_cons_succ]
      have e3 : f1 3 = .pointer (some ⟨hb, 0, none⟩) := hd 3 (by kernel_rfl)
      go_simp
      exact ⟨Ext.refl _, rfl⟩
    refine ⟨fun u hu hd => ?_, ?_⟩
    · simp only [Act.put, List.setIfInBounds_toArray, List.set_cons_zero, List.set_cons_succ]
      have e4 : f1 4 = .pointer (some ⟨hb, 0, none⟩) := hd 4 (by kernel_rfl)
      go_simp
      exact ⟨Ext.refl _, rfl⟩
    refine ⟨fun u hu hd => ?_, ?_⟩
    · simp only [Act.put, List.setIfInBounds_toArray, List.set_cons_zero, List.set_cons_succ]
      have e5 : f1 5 = .pointer (some ⟨hb, 5, none⟩) := hd 5 (by kernel_rfl)
      go_simp
      exact ⟨Ext.refl _, rfl⟩
    refine ⟨fun u hu hd => ?_, ?_⟩
    · simp only [Act.put, List.setIfInBounds_toArray, List.set_cons_zero, List.set_cons_succ]
      have e6 : f1 6 = .pointer (some ⟨hb, 5 + 0, none⟩) := hd 6 (by kernel_rfl)
      have hu2 := Ext.trans (Ext.drew w) hu
      have q0 := ext_cell hu2 l5
      go_simp
      exact ⟨Ext.refl _, rfl⟩
    refine ⟨fun u hu hd => ?_, ?_⟩
    · simp only [Act.put, List.setIfInBounds_toArray, List.set_cons_zero, List.set_cons_succ]
      go_simp
      exact ⟨Ext.refl _, rfl⟩
    refine ⟨fun u hu hd => ?_, ?_⟩
    · simp only [Act.put, List.setIfInBounds_toArray, List.set_cons_zero, List.set_cons_succ]
      have e8 : f1 8 = .pointer (some ⟨lb', 0, none⟩) := hd 8 (by kernel_rfl)
      go_simp
      exact ⟨Ext.refl _, rfl⟩
    refine ⟨fun u hu hd => ?_, ?_⟩
    · simp only [Act.put, List.setIfInBounds_toArray, List.set_cons_zero, List.set_cons_succ]
      have e9 : f1 9 = .pointer (some ⟨lb', 0, none⟩) := hd 9 (by kernel_rfl)
      go_simp
      exact ⟨Ext.refl _, rfl⟩
    refine ⟨fun u hu hd => ?_, ?_⟩
    · simp only [Act.put, List.setIfInBounds_toArray, List.set_cons_zero, List.set_cons_succ]
      have e10 : f1 10 = .pointer (some ⟨lb', 0, none⟩) := hd 10 (by kernel_rfl)
      have hu2 := Ext.trans (Ext.drew w) hu
      have q0 := ext_cell hu2 m0
      go_simp
      exact ⟨Ext.refl _, rfl⟩
    refine ⟨fun u hu hd => ?_, ?_⟩
    · simp only [Act.put, List.setIfInBounds_toArray, List.set_cons_zero, List.set_cons_succ]
      have e11 : f1 11 = .pointer (some ⟨hb', 0, none⟩) := hd 11 (by kernel_rfl)
      go_simp
      exact ⟨Ext.refl _, rfl⟩
    refine ⟨fun u hu hd => ?_, ?_⟩
    · simp only [Act.put, List.setIfInBounds_toArray, List.set_cons_zero, List.set_cons_succ]
      have e12 : f1 12 = .pointer (some ⟨hb', 0, none⟩) := hd 12 (by kernel_rfl)
      go_simp
      exact ⟨Ext.refl _, rfl⟩
    refine ⟨fun u hu hd => ?_, ?_⟩
    · simp only [Act.put, List.setIfInBounds_toArray, List.set_cons_zero, List.set_cons_succ]
      have e13 : f1 13 = .pointer (some ⟨hb', 5, none⟩) := hd 13 (by kernel_rfl)
      go_simp
      exact ⟨Ext.refl _, rfl⟩
    refine ⟨fun u hu hd => ?_, ?_⟩
    · simp only [Act.put, List.setIfInBounds_toArray, List.set_cons_zero, List.set_cons_succ]
      have e14 : f1 14 = .pointer (some ⟨hb', 5 + 0, none⟩) := hd 14 (by kernel_rfl)
      have hu2 := Ext.trans (Ext.drew w) hu
      have q0 := ext_cell hu2 m5
      go_simp
      exact ⟨Ext.refl _, rfl⟩
    refine ⟨fun u hu hd => ?_, ?_⟩
    · simp only [Act.put, List.setIfInBounds_toArray, List.set_cons_zero, List.set_cons_succ]
      have e7 : f1 7 = xa := hd 7 (by kernel_rfl)
      go_simp
      exact ⟨Ext.refl _, rfl⟩
    refine ⟨fun u hu hd => ?_, ?_⟩
    · simp only [Act.put, List.setIfInBounds_toArray, List.set_cons_zero, List.set_cons_succ]
      have e15 : f1 15 = xb := hd 15 (by kernel_rfl)
      go_simp
      exact ⟨Ext.refl _, rfl⟩
    trivial
end Go.Proofs.YtpfaoiickmpmjaaDoor

/- skip's Copy. -/
namespace Go.Proofs.YtpfaoiickmpmjaaDoor
open Go.ChangeShapes Go.WideShapes Go.ChangeAt Go.RowKit Go.Shelf
attribute [local go_sem] Oper.semAt_some

/-- The new list's blocks: New's, and those that rounds made. -/
def NewD (a b n : Nat) (w : World) (q : Nat) : Prop := (a ≤ q ∧ q < b) ∨ (n ≤ q ∧ q < w.heap.size)
/-- Between two rounds. -/
structure ScI (T : List Tw) (a b lb2 hb2 : Nat) (w0 : World) (n₁ k : Nat) (A : World) : Prop where
  sk : ∃ T2, Sk A (NewD a b n₁ A) lb2 hb2 T2 ∧ T2.map Tw.e = (T.map Tw.e).take k
  keep : Chg (fun q => a ≤ q ∧ q < b) w0 A
  z1 : n₁ ≤ A.heap.size

theorem all_rows {w : World} {D : Nat → Prop} {lb hb : Nat} {T : List Tw} (h : Sk w D lb hb T) : rowOf T nobodyE 0 = T := by
  unfold rowOf
  rw [cut_is (q := nobodyE) (k := 0) (Nat.zero_le _) (fun j e hj => by omega) (fun e _ => rfl), List.drop_zero]
  refine List.filter_eq_self.2 fun t ht => ?_
  have h1 := h.hts t ht
  have h2 := hgt_le t.e.key t.e.seq
  simp; omega

theorem putE_last {l : List Ent} {x : Ent} (h : Asc (l ++ [x])) (hm : x.may = true) : putE l x = (l ++ [x], 0) := by
  have hc : cutOf (aheadE x.key x.seq) l = l.length := cut_is (Nat.le_refl _) (fun j e hj he => by
    rw [aheadE_cmp]
    exact decide_eq_true ((List.pairwise_append.1 h).2.2 e (List.mem_of_getElem? he) x (by simp))) (fun e he => by rw [List.getElem?_eq_none (Nat.le_refl _)] at he; cases he)
  rw [putE_new hm (fun e he => by rw [hc, List.getElem?_eq_none (Nat.le_refl _)] at he; cases he), hc]
  simp
theorem Asc.take {l : List Ent} (h : Asc l) (k : Nat) : Asc (l.take k) := List.Pairwise.sublist (List.take_sublist _ _) h
set_option maxRecDepth 100000 in
set_option maxHeartbeats 16000000 in
theorem scopy_any {w : World} {D : Nat → Prop} {lb hb : Nat} {T : List Tw} (h : Sk w D lb hb T) (hD : ∀ k, D k → k < w.heap.size) (hT : Tab w) (hfew : T.length ≤ 1000000) :
    Calls Tryd.prog 29 #[.pointer (some ⟨lb, 0, none⟩)] w fun e w' => ∃ (lb2 hb2 : Nat) (T2 : List Tw), e = .returned (.pointer (some ⟨lb2, 0, none⟩)) ∧ Sk w' (fun k => w.heap.size ≤ k ∧ k < w'.heap.size) lb2 hb2 T2 ∧ T2.map Tw.e = T.map Tw.e ∧ Ext w w' := by
  have H := Lib.hid h
  have HD := Lib.hid hD
  have HTB := Lib.hid hT
  have HF := Lib.hid hfew
  have HN := Lib.hid (none_no h.list)
  clear h hD hT hfew
  have hf1 : Fence.wide.fn 40 := trivial
  have hf2 : Fence.wide.fn 34 := trivial
  have hf3 : Fence.wide.fn 44 := trivial
  have hf4 : Fence.wide.fn 30 := trivial
  refine (callsIn_wide (n := 6)).1 ?_
  refine callsIn_of_wp_marks Tryd.func29 rfl trivial ?_
  simp only [Tryd.ntmps29, List.size_toArray, List.length_cons, List.length_nil, Nat.reduceAdd, Nat.reduceSub, Array.replicate_succ, Array.replicate_zero, List.push_toArray, List.append_toArray, List.nil_append, List.cons_append]
  refine wpIn_wide.2 ?_
  go_wp2_with fail
  refine Calls.mono HN.out ?_
  rintro e w' ⟨rfl, hw'⟩
  have hw' := hw'.symm
  subst hw'
  clear HN
  go_wp2_with fail
  refine Calls.mono (new_any w) ?_
  rintro e w1 ⟨rfl, hs1, hx1⟩
  have HS1 : Hid (Sk w1 (fun q => w.heap.size ≤ q ∧ q < w1.heap.size) (w.heap.size + 1) w.heap.size []) := Sk.wide hs1 (fun k hk hd => ⟨hd, hk⟩)
  have HX1 : Hid (Ext w w1) := hx1
  obtain ⟨lb2, hlb2⟩ : ∃ lb2, lb2 = w.heap.size + 1 := ⟨_, rfl⟩
  rw [← hlb2] at HS1
  rw [← hlb2]
  clear hs1 hx1 hlb2
  go_upto_region 4 with (fail)
  obtain ⟨w2, hw2⟩ : ∃ w2, w2 = w1.alloc (.cells #[.pointer (some ⟨lb2, 0, none⟩)] 28) := ⟨_, rfl⟩
  have HX2 : Hid (Ext w1 w2) := by rw [hw2]; exact ext_alloc _ _
  have HZ2 : Hid (w2.heap.size = w1.heap.size + 1) := by rw [hw2]; simp [Hid]
  have HB2 : Hid (Boxed w2 w1.heap.size 28 (.pointer (some ⟨lb2, 0, none⟩))) := by rw [hw2]; exact heap_at _ _ rfl
  rw [← hw2]
  clear hw2
  go_wp2_with fail
  refine Calls.mono (srow_any _ _ _ _ _) ?_
  rintro e w3 ⟨rfl, hw3⟩
  have HX3 : Hid (Ext w2 w3) := by rw [hw3]; exact row3 _ _ _ _ _ _ _
  have HZ3 : Hid (w3.heap.size = w2.heap.size + 3) := by rw [hw3]; simp [Hid]
  have hbx := row_boxes w2 (.pointer (some ⟨lb, 0, none⟩)) (.int .i64 0) (.func (.func 51) #[] #[]) 28 3 75
  rw [← hw3] at hbx
  have HIT : Hid (Iter Tryd.prog 62 #[.pointer (some ⟨w2.heap.size, 0, none⟩), .pointer (some ⟨w2.heap.size + 1, 0, none⟩), .pointer (some ⟨w2.heap.size + 2, 0, none⟩)] T.length rowV (RowOk T w.heap.size) (RowC w3 D w2.heap.size (w2.heap.size + 1) (w2.heap.size + 2)) w3) := by
    have h1 := row_iterN (N := w.heap.size) (n := 0) (H.out.ext (Ext.trans HX1.out (Ext.trans HX2.out HX3.out))) (nobody_fn w3) (nobody_pair _) (by decide) (fun k hk _ => HD.out k hk) hbx.1 hbx.2.1 hbx.2.2
    rwa [all_rows H.out] at h1
  clear hw3 hbx
  go_wp2_with fail
  rename_i ak
  refine (wpIn_wide (n := 6)).1 ?_
  refine wpIn_over rfl enters_row1 HIT.out (fun _ => rfl) (ScI T w.heap.size w1.heap.size lb2 w.heap.size w3) (fun _ _ => False) (fun n₁ k A h => ?hC) ?hI ?hIx ?h0 ?round ?done ?stop
  case hC =>
    intro q hq hlt
    have z2 := HZ2.out
    refine h.keep.block q hlt (fun hs => ?_)
    rcases hq with hq | hq
    · have := HD.out q hq; omega
    · omega
  case hI =>
    intro n₁ k A1 A2 hn hi hc
    obtain ⟨⟨T2, hs, ht⟩, hk, hz⟩ := hi
    have z2 := HZ2.out
    have z3 := HZ3.out
    refine ⟨⟨T2, (hs.keep hc (fun q hq hd => ?_)).wide (fun q _ hd => ?_), ht⟩, hk.trans_new hc (fun q hq hb => ?_), Nat.le_trans hz hc.size⟩
    · have h1 := hq.1; have h2 := hq.2
      rcases hd with hd | hd <;> omega
    · rcases hd with hd | hd
      · exact .inl hd
      · exact .inr ⟨hd.1, Nat.lt_of_lt_of_le hd.2 hc.size⟩
    · have h1 := hb.1; omega
  case hIx => intro c A1 A2 h _; exact h.elim
  case h0 =>
    intro A1 hx
    exact ⟨⟨[], (HS1.out.ext (Ext.trans HX2.out (Ext.trans HX3.out hx))).wide (fun q _ hd => Or.inl hd), by simp⟩, Chg.of_ext hx, Nat.le_refl _⟩
  case round =>
    rintro l2 n₁ k ⟨e, g⟩ A1 hl1 hl2 hn hnA hi hk ⟨t, htk, he, hem⟩
    have he' : e = t.e := he
    subst he'
    have HI1 := Lib.hid hi
    have HN1 := Lib.hid hn
    have HL12 := Lib.hid (And.intro hl1 hl2)
    have HTK := Lib.hid htk
    have HEM := Lib.hid hem
    have HINE := Lib.hid (H.out.ins t (List.mem_of_getElem? htk))
    obtain ⟨e, he⟩ : ∃ e, e = t.e := ⟨_, rfl⟩
    have HEQ := Lib.hid he
    dsimp only at HEM
    rw [← he] at HEM HINE ⊢
    clear hl1 hl2 hn hnA hi hk htk hem he
    dsimp only [rowV, Ent.at_]
    gi_wp2
    obtain ⟨A2, hA2⟩ : ∃ A2, A2 = A1.alloc (.cells #[.slice g.kA e.key.length g.kc, .int .i64 e.seq, .int .i64 e.kind, .slice g.vA e.val.length g.vc] 40) := ⟨_, rfl⟩
    rw [← hA2]
    have HXA : Hid (Ext A1 A2) := by rw [hA2]; exact ext_alloc _ _
    have HBE : Hid (A2.heap[A1.heap.size]? = some (.cells #[.slice g.kA e.key.length g.kc, .int .i64 e.seq, .int .i64 e.kind, .slice g.vA e.val.length g.vc] 40 (0, 0))) := by rw [hA2]; exact heap_at _ _ rfl
    clear hA2
    refine ⟨Step.of_chg (S := fun _ => False) (Chg.of_ext HXA.out) HI1.out.z1 (fun _ _ _ h => h), fun A3 hc => ?_⟩
    have HCH : Hid (Chg (fun i => i = l2) A1 A3) := (Chg.of_ext HXA.out).trans hc
    have HZA : Hid (n₁ ≤ A3.heap.size ∧ w3.heap.size ≤ A1.heap.size ∧ A1.heap.size ≤ A3.heap.size) := Lib.hid ⟨Nat.le_trans HI1.out.z1 HCH.out.size, HI1.out.keep.size, HCH.out.size⟩
    have HW : Hid (w.heap.size ≤ w1.heap.size ∧ w1.heap.size + 4 = w3.heap.size) := by
      have h1 := HX1.out.size; have h2 := HZ2.out; have h3 := HZ3.out
      exact Lib.hid ⟨h1, by omega⟩
    have HE3 : Hid (Em A3 0 w.heap.size e g) := HEM.out.keepC (by have := HW.out; have := HZA.out; omega) HCH.out (fun i hi => .inr (by have := HL12.out; have := HW.out; omega))
    have HBE3 : Hid (A3.heap[A1.heap.size]? = some (.cells #[.slice g.kA e.key.length g.kc, .int .i64 e.seq, .int .i64 e.kind, .slice g.vA e.val.length g.vc] 40 (0, 0))) :=
      (hc.block _ (Array.getElem?_eq_some_iff.1 HBE.out).1 (fun e => by have := HI1.out.z1; have := HL12.out.2; omega)).trans HBE.out
    have HBX3 : Hid (Boxed A3 w1.heap.size 28 (.pointer (some ⟨lb2, 0, none⟩))) := by
      have h1 := ext_heap HX3.out HB2.out
      have h2 := (HI1.out.keep.block w1.heap.size (by have := HW.out; omega) (fun h => by have := h.2; omega)).trans h1
      exact (HCH.out.block w1.heap.size (by have := HW.out; have := HZA.out; omega) (fun h => by have := HL12.out; have := HW.out; omega)).trans h2
    obtain ⟨T2, hs2, ht2⟩ := HI1.out.sk
    have HS3 : Hid (Sk A3 (NewD w.heap.size w1.heap.size n₁ A3) lb2 w.heap.size T2) := (hs2.keep HCH.out (fun q hq hd => by
      have h1 := HL12.out; have h2 := HW.out
      rcases hd with hd | hd <;> omega)).wide (fun q _ hd => by
        rcases hd with hd | hd
        · exact Or.inl hd
        · exact Or.inr ⟨hd.1, Nat.lt_of_lt_of_le hd.2 HCH.out.size⟩)
    have HT2 := Lib.hid ht2
    have HBW : Hid (Below w.heap.size w A3) := by
      have h0 : Ext w w3 := Ext.trans HX1.out (Ext.trans HX2.out HX3.out)
      have h1 : Below w.heap.size w A1 := Below.trans (B := w.heap.size) h0 (HI1.out.keep.below (fun q h => h.1) h0.size)
      exact h1.trans (HCH.out.below (fun q h => by have := HL12.out; have := HW.out; omega) h1.size)
    have HTL := Tab.lt HTB.out
    have HKL : Hid (k < T.length) := (List.getElem?_eq_some_iff.1 HTK.out).1
    have HT2L : Hid (T2.length = k) := by
      have h1 := congrArg List.length HT2.out
      have h2 := HKL.out
      simp only [List.length_map, List.length_take] at h1
      unfold Hid; omega
    have HPUT := Lib.hid (sput_any HS3.out HE3.out HBW.out.size (fun q hd => .inr (by have h1 := HN1.out; have h2 := HW.out; rcases hd with hd | hd <;> omega)) (Tab.below HTB.out HBW.out HTL)
      (fun hd => by have h1 := HN1.out; have h2 := HW.out; rcases hd with hd | hd <;> omega) (by have h1 := HT2L.out; have h2 := HKL.out; have h3 := HF.out; omega) (by have := HINE.out.s; omega) (by have := HINE.out.s; omega))
    unfold Ent.at_ at HPUT
    have q0 := HBX3.out.cell
    have e0 := cell_of HBE3.out (k := 0) rfl
    have e1 := cell_of HBE3.out (k := 1) rfl
    have e2 := cell_of HBE3.out (k := 2) rfl
    have e3 := cell_of HBE3.out (k := 3) rfl
    clear hs2 ht2 hc HTL
    gi_wp2_with (gi_at_call 30; go_loud (refine CallsIn.mono (CallsIn.inRound l2 (callsIn_wide.2 HPUT.out)) ?_; rintro x A4 ⟨T3, cc, hput, rfl, hs4, hc4⟩; have HPE := Lib.hid hput; have HS4 := Lib.hid hs4; have HC4 := Lib.hid hc4; clear hput hs4 hc4 q0 e0 e1 e2 e3))
    have HTN : Hid (T3.map Tw.e = (T.map Tw.e).take (k + 1)) := by
      have h1 : (T.map Tw.e).take (k + 1) = (T.map Tw.e).take k ++ [e] := by
        rw [List.take_add_one, List.getElem?_map, HTK.out, HEQ.out]; rfl
      have h2 := HPE.out
      rw [HT2.out, putE_last (by rw [← h1]; exact H.out.asc.take _) HINE.out.may] at h2
      injection h2 with h2 _
      rw [h1]; exact h2.symm
    refine ⟨Step.of_chg HC4.out HZA.out.1 (fun q h1 h2 h3 => ?_), ⟨T3, HS4.out.wide (fun q hq hd => ?_), HTN.out⟩, ?_, Nat.le_trans HZA.out.1 HC4.out.size⟩
    · have h4 := HW.out
      rcases h3.1 with hd | hd <;> omega
    · rcases hd with hd | hd
      · rcases hd with hd | hd
        · exact Or.inl hd
        · exact Or.inr ⟨hd.1, hq⟩
      · exact Or.inr ⟨Nat.le_trans HZA.out.1 hd, hq⟩
    · have hk1 : Chg (fun q => w.heap.size ≤ q ∧ q < w1.heap.size) w3 A3 := HI1.out.keep.trans_new HCH.out (fun i hi he => by have := HL12.out; omega)
      exact hk1.trans_new HC4.out (fun i hi hs => by
        have h1 := HN1.out
        rcases hs.1 with hd | hd
        · exact hd
        · omega)
  case done =>
    rintro D' n₁ W' hDl hDn hn hi hD
    have HDL := Lib.hid (And.intro hDl hDn)
    have HDD := Lib.hid hD
    have HI := Lib.hid hi
    have HW : Hid (w.heap.size ≤ w1.heap.size ∧ w1.heap.size + 4 = w3.heap.size) := by
      have h1 := HX1.out.size; have h2 := HZ2.out; have h3 := HZ3.out
      exact Lib.hid ⟨h1, by omega⟩
    have HBX3 : Hid (Boxed W' w1.heap.size 28 (.pointer (some ⟨lb2, 0, none⟩))) := by
      have h1 := ext_heap HX3.out HB2.out
      exact (HI.out.keep.block w1.heap.size (by have := HW.out; omega) (fun h => by have := h.2; omega)).trans h1
    have q0 := HBX3.out.cell
    clear hDl hDn hn hi hD
    refine ak _ _ ?_
    go_wp2_with fail
    refine ⟨by simp, .inl ⟨_, _, rfl, run_takeDeferred HDD.out, ?_⟩⟩
    have hch := putObj_chg W' D' (.cells #[] 0 (0, 0))
    obtain ⟨T2, hs2, ht2⟩ := HI.out.sk
    refine ⟨_, results_tmp rfl _ _ _, ⟨lb2, w.heap.size, T2, rfl, ?_, ?_, ?_⟩⟩
    · refine (hs2.keep (putObj_chg W' D' _) (fun q hq hd => ?_)).wide (fun q hq hd => ?_)
      · have h1 := HDL.out; have h2 := HW.out
        rcases hd with hd | hd <;> omega
      · have h2 := HW.out; have h1 := HDL.out
        refine ⟨?_, hq⟩
        rcases hd with hd | hd <;> omega
    · rw [ht2, List.take_of_length_le (by simp)]
    · have h0 : Ext w w3 := Ext.trans HX1.out (Ext.trans HX2.out HX3.out)
      have h1 : Below w.heap.size w W' := Below.trans (B := w.heap.size) h0 (HI.out.keep.below (fun q h => h.1) h0.size)
      exact h1.trans ((putObj_chg W' D' _).below (fun q h => by have := HDL.out; have := HW.out; omega) h1.size)
  case stop =>
    rintro D' c W' hDl hf hD
    exact hf.elim
end Go.Proofs.YtpfaoiickmpmjaaDoor
