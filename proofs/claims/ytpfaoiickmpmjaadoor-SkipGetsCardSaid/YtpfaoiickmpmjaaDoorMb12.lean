/- Srget, joined. -/
import Derived.Test.YtpfaoiickmpmjaaDoorMb5
import Derived.Test.YtpfaoiickmpmjaaDoorMb11

/- The reference's Get. -/
namespace Go.Proofs.YtpfaoiickmpmjaaDoor
open Go.ChangeShapes Go.WideShapes Go.ChangeAt Go.RowKit

/-- What the reference's Get answers. -/
def RGetAns (w : World) (hi : Nat) (o : Option Ent) (e : Ending) (w' : World) : Prop :=
  Ext w w' ∧ match o with
    | some x => ∃ g : Hd, e = .returned (.tuple #[x.at_ g, .int .i64 0]) ∧ Em w 0 hi x g
    | none => e = .returned (.tuple #[zeroE.at_ ⟨none, 0, none, 0⟩, .int .i64 6])
/-- Is it this key's, and not too late? -/
def seenE (k : List Nat) (s : Int) (e : Ent) : Bool := decide (e.key = k) && decide (e.seq ≤ s)
set_option maxRecDepth 100000 in
set_option maxHeartbeats 8000000 in
theorem rget_any {w : World} {lo2 hi hi2 : Nat} {A kA : Option Addr} {c kc : Nat} {R : List (Ent × Hd)} {key : List Nat} {s : Int} (h : Es w 0 hi A R) (hhi : hi ≤ w.heap.size) (hlen : R.length ≤ 1000000)
    (hk : Bs w lo2 hi2 (.slice kA key.length kc) key) (hhi2 : hi2 ≤ w.heap.size) (bk : ∀ x ∈ key, x < 256) :
    Calls Tryd.prog 21 #[.slice A R.length c, .slice kA key.length kc, .int .i64 s] w (RGetAns w hi ((R.map Prod.fst).find? (seenE key s))) := by
  obtain ⟨oo, hoo⟩ : ∃ oo, oo = (R.map Prod.fst).find? (seenE key s) := ⟨_, rfl⟩
  rw [← hoo]
  have HOO := Lib.hid hoo
  clear hoo
  obtain ⟨w1, hw1⟩ : ∃ w1, w1 = w.alloc (.cells #[.slice none 0 0, .int .i64 0, .int .i64 0, .slice none 0 0] 40) := ⟨_, rfl⟩
  have HX1 : Hid (Ext w w1) := by rw [hw1]; exact ext_alloc _ _
  have HB1 : Hid (w1.heap[w.heap.size]? = some (.cells #[.slice none 0 0, .int .i64 0, .int .i64 0, .slice none 0 0] 40 (0, 0))) := by rw [hw1]; exact heap_at _ _ rfl
  have HE := Lib.hid h
  have HHI := Lib.hid hhi
  have HK := Lib.hid hk
  have HHI2 := Lib.hid hhi2
  have HBK := Lib.hid bk
  have hlI : (R.length : Int) ≤ 1000000 := by omega
  clear h hhi hk hhi2 bk hlen
  go_enter Tryd.func21, Tryd.ntmps21
  go_upto_region 1 with (fail)
  try rw [← hw1]
  clear hw1
  go_wp2_with fail
  go_loopw [8] (fun i wr => ∃ k : Nat, k ≤ R.length ∧ i = .int .i64 (k : Int) ∧ Hid (∀ j e, j < k → (R.map Prod.fst)[j]? = some e → seenE key s e = false) ∧ Hid (Ext w1 wr)) (fun i _ => R.length - (intOf i).toNat)
  case atStart => exact ⟨0, Nat.zero_le _, rfl, Lib.hid (fun j _ hj => by omega), Lib.hid (Ext.refl _)⟩
  case round =>
    obtain ⟨k, hk, rfl, HJ, HXR⟩ := hrel
    have HX : Hid (Ext w wr) := Ext.trans HX1.out HXR.out
    by_cases hlt : k < R.length
    · have d : decide ((k : Int) < (R.length : Int)) = true := decide_eq_true (by omega)
      have dn : decide (k < R.length) = true := decide_eq_true hlt
      obtain ⟨b, o, hA⟩ := HE.out.base (by omega)
      subst hA
      obtain ⟨p, hp⟩ : ∃ p, R[k]? = some p := ⟨_, List.getElem?_eq_getElem hlt⟩
      obtain ⟨c0, c1, c2, c3⟩ := (HE.out.below HX.out HHI.out).get hp
      have HP := Lib.hid hp
      have n1 : (0 : Int) ≤ (k : Int) := by omega
      have n2 : (k : Int) < (R.length : Int) := by omega
      have HLT := Lib.hid hlt
      have HWW : Hid (∀ u, Ext wr u → Em u 0 hi p.1 p.2 ∧ Bs u lo2 hi2 (.slice kA key.length kc) key) := fun u hu => by
        have hx := Ext.trans HX.out hu
        exact ⟨(HE.out.below hx HHI.out).each p (List.mem_of_getElem? HP.out), HK.out.below hx HHI2.out⟩
      obtain ⟨z, hz⟩ : ∃ z, z = decide (p.1.key = key) := ⟨_, rfl⟩
      have HT : Hid (((tx p.1.key).toList == (tx key).toList) = z) := by
        have h1 := tx_same (HWW.out wr (Ext.refl _)).1.bk HBK.out
        rw [hz]; exact h1
      obtain ⟨y, hy⟩ : ∃ y, y = decide (p.1.seq ≤ s) := ⟨_, rfl⟩
      have HY := Lib.hid hy
      have HSE : Hid (seenE key s p.1 = (z && y)) := by unfold seenE; rw [← hz, ← hy]; exact rfl
      clear hp hlt hz hy
      cases z with
      | false =>
        go_upto_region 4 with (fail)
        refine flow (by kernel_rfl) [Is (.slice (some ⟨b, o, none⟩) R.length c), Is (.int .i64 (k : Int)), Is (.pointer (some ⟨b, o + k * 4, none⟩)), Is (.pointer (some ⟨b, o + k * 4, none⟩)), Is (.slice p.2.kA p.1.key.length p.2.kc), Is (.string (tx p.1.key)), Is (.slice kA key.length kc), Is (.string (tx key)), Is (.bool false), Is (.bool false), Is undef, Is undef, Is undef, Is undef, Is undef, Is undef, Is undef, Is (.bool false)] (by kernel_rfl) (by kernel_rfl) ?mono (fun f1 => ?obl) ?fin
        case mono =>
          simp only [List.forall_mem_cons, List.not_mem_nil, false_imp_iff, implies_true, and_true]
          exact ⟨.is _, .is _, .is _, .is _, .is _, .is _, .is _, .is _, .is _, .is _, .is _, .is _, .is _, .is _, .is _, .is _, .is _, .is _⟩
        case fin =>
          intro g1 w5 hu hg
          simp only [puts, Act.put, List.setIfInBounds_toArray, List.set_cons_zero, List.set_cons_succ]
          have h17 : g1 17 = .bool false := hg 17 (by decide)
          rw [h17]
          have HX5 : Hid (Ext w1 w5) := Ext.trans HXR.out (Ext.trans (Ext.drew wr) hu)
          clear h17 hg hu c0 c1 c2 c3
          go_wp2_with fail
          go_roundw
          case rel =>
            refine ⟨k + 1, by have := HLT.out; omega, by go_num, Lib.hid (fun j e hj he => ?_), HX5⟩
            by_cases hjk : j = k
            · subst hjk
              rw [List.getElem?_map, HP.out] at he; injection he with he; subst he
              rw [HSE.out]; rfl
            · exact HJ.out j e (by omega) he
          case measure => have := HLT.out; simp [intOf]; omega
        case obl =>
          refine ⟨fun u hu hd => ?_, ?_⟩
          · go_simp
            exact ⟨Ext.refl _, rfl⟩
          refine ⟨fun u hu hd => ?_, ?_⟩
          · simp only [Act.put, List.setIfInBounds_toArray, List.set_cons_zero, List.set_cons_succ]
            go_simp
            exact ⟨Ext.refl _, rfl⟩
          refine ⟨fun u hu hd => ?_, ?_⟩
          · simp only [Act.put, List.setIfInBounds_toArray, List.set_cons_zero, List.set_cons_succ]
            have e0 : f1 0 = .slice (some ⟨b, o, none⟩) R.length c := hd 0 (by kernel_rfl)
            have e1 : f1 1 = .int .i64 (k : Int) := hd 1 (by kernel_rfl)
            go_simp
            exact ⟨Ext.refl _, rfl⟩
          refine ⟨fun u hu hd => ?_, ?_⟩
          · simp only [Act.put, List.setIfInBounds_toArray, List.set_cons_zero, List.set_cons_succ]
            have e2 : f1 2 = .pointer (some ⟨b, o + k * 4, none⟩) := hd 2 (by kernel_rfl)
            go_simp
            exact ⟨Ext.refl _, rfl⟩
          refine ⟨fun u hu hd => ?_, ?_⟩
          · simp only [Act.put, List.setIfInBounds_toArray, List.set_cons_zero, List.set_cons_succ]
            have e3 : f1 3 = .pointer (some ⟨b, o + k * 4, none⟩) := hd 3 (by kernel_rfl)
            have hu2 := Ext.trans (Ext.drew wr) hu
            have q0 := ext_cell hu2 c0
            go_simp
            exact ⟨Ext.refl _, rfl⟩
          refine ⟨fun u hu hd => ?_, ?_⟩
          · simp only [Act.put, List.setIfInBounds_toArray, List.set_cons_zero, List.set_cons_succ]
            have e4 : f1 4 = .slice p.2.kA p.1.key.length p.2.kc := hd 4 (by kernel_rfl)
            have hu2 := Ext.trans (Ext.drew wr) hu
            have q1 := cv_any (HWW.out u hu2).1.k
            go_simp
            exact ⟨Ext.refl _, rfl⟩
          refine ⟨fun u hu hd => ?_, ?_⟩
          · simp only [Act.put, List.setIfInBounds_toArray, List.set_cons_zero, List.set_cons_succ]
            go_simp
            exact ⟨Ext.refl _, rfl⟩
          refine ⟨fun u hu hd => ?_, ?_⟩
          · simp only [Act.put, List.setIfInBounds_toArray, List.set_cons_zero, List.set_cons_succ]
            have e6 : f1 6 = .slice kA key.length kc := hd 6 (by kernel_rfl)
            have hu2 := Ext.trans (Ext.drew wr) hu
            have q1 := cv_any (HWW.out u hu2).2
            go_simp
            exact ⟨Ext.refl _, rfl⟩
          refine ⟨fun u hu hd => ?_, ?_⟩
          · simp only [Act.put, List.setIfInBounds_toArray, List.set_cons_zero, List.set_cons_succ]
            have e5 : f1 5 = .string (tx p.1.key) := hd 5 (by kernel_rfl)
            have e7 : f1 7 = .string (tx key) := hd 7 (by kernel_rfl)
            have q1 := HT.out
            go_simp
            exact ⟨Ext.refl _, rfl⟩
          refine ⟨fun u hu hd => ?_, ?_⟩
          · simp only [Act.put, List.setIfInBounds_toArray, List.set_cons_zero, List.set_cons_succ]
            have e8 : f1 8 = .bool false := hd 8 (by kernel_rfl)
            go_simp
            exact ⟨Ext.refl _, rfl⟩
          refine ⟨fun u hu hd => ?_, ?_⟩
          · simp only [Act.put, List.setIfInBounds_toArray, List.set_cons_zero, List.set_cons_succ]
            have e9 : f1 9 = .bool false := hd 9 (by kernel_rfl)
            go_simp
            rfl
          refine ⟨fun u hu hd => ?_, ?_⟩
          · simp only [Act.put, List.setIfInBounds_toArray, List.set_cons_zero, List.set_cons_succ]
            have e9 : f1 9 = .bool false := hd 9 (by kernel_rfl)
            go_simp
            rfl
          refine ⟨fun u hu hd => ?_, ?_⟩
          · simp only [Act.put, List.setIfInBounds_toArray, List.set_cons_zero, List.set_cons_succ]
            have e9 : f1 9 = .bool false := hd 9 (by kernel_rfl)
            go_simp
            rfl
          refine ⟨fun u hu hd => ?_, ?_⟩
          · simp only [Act.put, List.setIfInBounds_toArray, List.set_cons_zero, List.set_cons_succ]
            have e9 : f1 9 = .bool false := hd 9 (by kernel_rfl)
            go_simp
            rfl
          refine ⟨fun u hu hd => ?_, ?_⟩
          · simp only [Act.put, List.setIfInBounds_toArray, List.set_cons_zero, List.set_cons_succ]
            have e9 : f1 9 = .bool false := hd 9 (by kernel_rfl)
            go_simp
            rfl
          refine ⟨fun u hu hd => ?_, ?_⟩
          · simp only [Act.put, List.setIfInBounds_toArray, List.set_cons_zero, List.set_cons_succ]
            have e9 : f1 9 = .bool false := hd 9 (by kernel_rfl)
            go_simp
            rfl
          refine ⟨fun u hu hd => ?_, ?_⟩
          · simp only [Act.put, List.setIfInBounds_toArray, List.set_cons_zero, List.set_cons_succ]
            have e9 : f1 9 = .bool false := hd 9 (by kernel_rfl)
            go_simp
            rfl
          refine ⟨fun u hu hd => ?_, ?_⟩
          · simp only [Act.put, List.setIfInBounds_toArray, List.set_cons_zero, List.set_cons_succ]
            have e9 : f1 9 = .bool false := hd 9 (by kernel_rfl)
            go_simp
            exact ⟨Ext.refl _, rfl⟩
          trivial
      | true =>
        go_upto_region 4 with (fail)
        refine flow (by kernel_rfl) [Is (.slice (some ⟨b, o, none⟩) R.length c), Is (.int .i64 (k : Int)), Is (.pointer (some ⟨b, o + k * 4, none⟩)), Is (.pointer (some ⟨b, o + k * 4, none⟩)), Is (.slice p.2.kA p.1.key.length p.2.kc), Is (.string (tx p.1.key)), Is (.slice kA key.length kc), Is (.string (tx key)), Is (.bool true), Is (.bool true), Is (.slice (some ⟨b, o, none⟩) R.length c), Is (.int .i64 (k : Int)), Is (.pointer (some ⟨b, o + k * 4, none⟩)), Is (.pointer (some ⟨b, o + k * 4 + 1, none⟩)), Is (.int .i64 p.1.seq), Is (.int .i64 s), Is (.bool y), Is (.bool y)] (by kernel_rfl) (by kernel_rfl) ?mono (fun f1 => ?obl) ?fin
        case mono =>
          simp only [List.forall_mem_cons, List.not_mem_nil, false_imp_iff, implies_true, and_true]
          exact ⟨.is _, .is _, .is _, .is _, .is _, .is _, .is _, .is _, .is _, .is _, .is _, .is _, .is _, .is _, .is _, .is _, .is _, .is _⟩
        case fin =>
          intro g1 w5 hu hg
          simp only [puts, Act.put, List.setIfInBounds_toArray, List.set_cons_zero, List.set_cons_succ]
          have h17 : g1 17 = .bool y := hg 17 (by decide)
          rw [h17]
          have HX5 : Hid (Ext w1 w5) := Ext.trans HXR.out (Ext.trans (Ext.drew wr) hu)
          clear h17 hg hu c0 c1 c2 c3
          cases y with
          | false =>
            go_wp2_with fail
            go_roundw
            case rel =>
              refine ⟨k + 1, by have := HLT.out; omega, by go_num, Lib.hid (fun j e hj he => ?_), HX5⟩
              by_cases hjk : j = k
              · subst hjk
                rw [List.getElem?_map, HP.out] at he; injection he with he; subst he
                rw [HSE.out]; rfl
              · exact HJ.out j e (by omega) he
            case measure => have := HLT.out; simp [intOf]; omega
          | true =>
            have HXW : Hid (Ext w w5) := Ext.trans HX1.out HX5.out
            obtain ⟨c0, c1, c2, c3⟩ := (HE.out.below HXW.out HHI.out).get HP.out
            have HFD : Hid ((R.map Prod.fst).find? (seenE key s) = some p.1) := find_at (i := k) (by rw [List.getElem?_map, HP.out]; rfl) HSE.out HJ.out
            have HBR : Hid (w5.heap[w.heap.size]? = some (.cells #[.slice none 0 0, .int .i64 0, .int .i64 0, .slice none 0 0] 40 (0, 0))) := ext_heap HX5.out HB1.out
            have r0 := cell_of (v := .slice none 0 0) HBR.out (k := 0) rfl
            have r1 := cell_of (v := .int .i64 0) HBR.out (k := 1) rfl
            have r2 := cell_of (v := .int .i64 0) HBR.out (k := 2) rfl
            have r3 := cell_of (v := .slice none 0 0) HBR.out (k := 3) rfl
            have z0 := frozen_four (j := 0) HBR.out
            have z1 := frozen_four (j := 1) HBR.out
            have z2 := frozen_four (j := 2) HBR.out
            have z3 := frozen_four (j := 3) HBR.out
            obtain rfl : oo = some p.1 := by rw [HOO.out, HFD.out]
            go_wp2_with fail
            refine entry_ret2 (p := 6) (q := 7) (by kernel_rfl) rfl rfl rfl (set_four HBR.out) ⟨?_, p.2, rfl, HE.out.each p (List.mem_of_getElem? HP.out)⟩
            have e := Nat.le_refl w.heap.size
            exact Below.setCell (Below.setCell (Below.setCell (Below.setCell HXW.out e _) e _) e _) e _
        case obl =>
          refine ⟨fun u hu hd => ?_, ?_⟩
          · go_simp
            exact ⟨Ext.refl _, rfl⟩
          refine ⟨fun u hu hd => ?_, ?_⟩
          · simp only [Act.put, List.setIfInBounds_toArray, List.set_cons_zero, List.set_cons_succ]
            go_simp
            exact ⟨Ext.refl _, rfl⟩
          refine ⟨fun u hu hd => ?_, ?_⟩
          · simp only [Act.put, List.setIfInBounds_toArray, List.set_cons_zero, List.set_cons_succ]
            have e0 : f1 0 = .slice (some ⟨b, o, none⟩) R.length c := hd 0 (by kernel_rfl)
            have e1 : f1 1 = .int .i64 (k : Int) := hd 1 (by kernel_rfl)
            go_simp
            exact ⟨Ext.refl _, rfl⟩
          refine ⟨fun u hu hd => ?_, ?_⟩
          · simp only [Act.put, List.setIfInBounds_toArray, List.set_cons_zero, List.set_cons_succ]
            have e2 : f1 2 = .pointer (some ⟨b, o + k * 4, none⟩) := hd 2 (by kernel_rfl)
            go_simp
            exact ⟨Ext.refl _, rfl⟩
          refine ⟨fun u hu hd => ?_, ?_⟩
          · simp only [Act.put, List.setIfInBounds_toArray, List.set_cons_zero, List.set_cons_succ]
            have e3 : f1 3 = .pointer (some ⟨b, o + k * 4, none⟩) := hd 3 (by kernel_rfl)
            have hu2 := Ext.trans (Ext.drew wr) hu
            have q0 := ext_cell hu2 c0
            go_simp
            exact ⟨Ext.refl _, rfl⟩
          refine ⟨fun u hu hd => ?_, ?_⟩
          · simp only [Act.put, List.setIfInBounds_toArray, List.set_cons_zero, List.set_cons_succ]
            have e4 : f1 4 = .slice p.2.kA p.1.key.length p.2.kc := hd 4 (by kernel_rfl)
            have hu2 := Ext.trans (Ext.drew wr) hu
            have q1 := cv_any (HWW.out u hu2).1.k
            go_simp
            exact ⟨Ext.refl _, rfl⟩
          refine ⟨fun u hu hd => ?_, ?_⟩
          · simp only [Act.put, List.setIfInBounds_toArray, List.set_cons_zero, List.set_cons_succ]
            go_simp
            exact ⟨Ext.refl _, rfl⟩
          refine ⟨fun u hu hd => ?_, ?_⟩
          · simp only [Act.put, List.setIfInBounds_toArray, List.set_cons_zero, List.set_cons_succ]
            have e6 : f1 6 = .slice kA key.length kc := hd 6 (by kernel_rfl)
            have hu2 := Ext.trans (Ext.drew wr) hu
            have q1 := cv_any (HWW.out u hu2).2
            go_simp
            exact ⟨Ext.refl _, rfl⟩
          refine ⟨fun u hu hd => ?_, ?_⟩
          · simp only [Act.put, List.setIfInBounds_toArray, List.set_cons_zero, List.set_cons_succ]
            have e5 : f1 5 = .string (tx p.1.key) := hd 5 (by kernel_rfl)
            have e7 : f1 7 = .string (tx key) := hd 7 (by kernel_rfl)
            have q1 := HT.out
            go_simp
            exact ⟨Ext.refl _, rfl⟩
          refine ⟨fun u hu hd => ?_, ?_⟩
          · simp only [Act.put, List.setIfInBounds_toArray, List.set_cons_zero, List.set_cons_succ]
            have e8 : f1 8 = .bool true := hd 8 (by kernel_rfl)
            go_simp
            exact ⟨Ext.refl _, rfl⟩
          refine ⟨fun u hu hd => ?_, ?_⟩
          · simp only [Act.put, List.setIfInBounds_toArray, List.set_cons_zero, List.set_cons_succ]
            have e9 : f1 9 = .bool true := hd 9 (by kernel_rfl)
            go_simp
            exact ⟨Ext.refl _, rfl⟩
          refine ⟨fun u hu hd => ?_, ?_⟩
          · simp only [Act.put, List.setIfInBounds_toArray, List.set_cons_zero, List.set_cons_succ]
            have e9 : f1 9 = .bool true := hd 9 (by kernel_rfl)
            go_simp
            exact ⟨Ext.refl _, rfl⟩
          refine ⟨fun u hu hd => ?_, ?_⟩
          · simp only [Act.put, List.setIfInBounds_toArray, List.set_cons_zero, List.set_cons_succ]
            have e9 : f1 9 = .bool true := hd 9 (by kernel_rfl)
            have e10 : f1 10 = .slice (some ⟨b, o, none⟩) R.length c := hd 10 (by kernel_rfl)
            have e11 : f1 11 = .int .i64 (k : Int) := hd 11 (by kernel_rfl)
            go_simp
            exact ⟨Ext.refl _, rfl⟩
          refine ⟨fun u hu hd => ?_, ?_⟩
          · simp only [Act.put, List.setIfInBounds_toArray, List.set_cons_zero, List.set_cons_succ]
            have e9 : f1 9 = .bool true := hd 9 (by kernel_rfl)
            have e12 : f1 12 = .pointer (some ⟨b, o + k * 4, none⟩) := hd 12 (by kernel_rfl)
            go_simp
            exact ⟨Ext.refl _, rfl⟩
          refine ⟨fun u hu hd => ?_, ?_⟩
          · simp only [Act.put, List.setIfInBounds_toArray, List.set_cons_zero, List.set_cons_succ]
            have e9 : f1 9 = .bool true := hd 9 (by kernel_rfl)
            have e13 : f1 13 = .pointer (some ⟨b, o + k * 4 + 1, none⟩) := hd 13 (by kernel_rfl)
            have hu2 := Ext.trans (Ext.drew wr) hu
            have q0 := ext_cell hu2 c1
            go_simp
            exact ⟨Ext.refl _, rfl⟩
          refine ⟨fun u hu hd => ?_, ?_⟩
          · simp only [Act.put, List.setIfInBounds_toArray, List.set_cons_zero, List.set_cons_succ]
            have e9 : f1 9 = .bool true := hd 9 (by kernel_rfl)
            go_simp
            exact ⟨Ext.refl _, rfl⟩
          refine ⟨fun u hu hd => ?_, ?_⟩
          · simp only [Act.put, List.setIfInBounds_toArray, List.set_cons_zero, List.set_cons_succ]
            have e9 : f1 9 = .bool true := hd 9 (by kernel_rfl)
            have e14 : f1 14 = .int .i64 p.1.seq := hd 14 (by kernel_rfl)
            have e15 : f1 15 = .int .i64 s := hd 15 (by kernel_rfl)
            have q1 := HY.out.symm
            go_simp
            exact ⟨Ext.refl _, rfl⟩
          refine ⟨fun u hu hd => ?_, ?_⟩
          · simp only [Act.put, List.setIfInBounds_toArray, List.set_cons_zero, List.set_cons_succ]
            have e9 : f1 9 = .bool true := hd 9 (by kernel_rfl)
            have e16 : f1 16 = .bool y := hd 16 (by kernel_rfl)
            go_simp
            exact ⟨Ext.refl _, rfl⟩
          trivial
    · have d : decide ((k : Int) < (R.length : Int)) = false := decide_eq_false (by omega)
      have dn : decide (k < R.length) = false := decide_eq_false hlt
      have HNO : Hid ((R.map Prod.fst).find? (seenE key s) = none) := List.find?_eq_none.2 fun e he => by
        obtain ⟨j, hj⟩ := List.getElem?_of_mem he
        have hjl := (List.getElem?_eq_some_iff.1 hj).1
        rw [List.length_map] at hjl
        rw [HJ.out j e (by omega) hj]; simp
      have HBR : Hid (wr.heap[w.heap.size]? = some (.cells #[.slice none 0 0, .int .i64 0, .int .i64 0, .slice none 0 0] 40 (0, 0))) := ext_heap HXR.out HB1.out
      have r0 := cell_of (v := .slice none 0 0) HBR.out (k := 0) rfl
      have r1 := cell_of (v := .int .i64 0) HBR.out (k := 1) rfl
      have r2 := cell_of (v := .int .i64 0) HBR.out (k := 2) rfl
      have r3 := cell_of (v := .slice none 0 0) HBR.out (k := 3) rfl
      have z0 := frozen_four (j := 0) HBR.out
      have z1 := frozen_four (j := 1) HBR.out
      have z2 := frozen_four (j := 2) HBR.out
      have z3 := frozen_four (j := 3) HBR.out
      clear hlt hk
      obtain rfl : oo = none := by rw [HOO.out, HNO.out]
      go_wp2_with fail
      refine entry_ret2 (p := 6) (q := 7) (by kernel_rfl) rfl rfl rfl (set_four HBR.out) ⟨?_, rfl⟩
      have e := Nat.le_refl w.heap.size
      exact Below.setCell (Below.setCell (Below.setCell (Below.setCell HX.out e _) e _) e _) e _
end Go.Proofs.YtpfaoiickmpmjaaDoor
