/- Krget Kget Ircopy Kfrom Kiter Kgoes, joined. -/
import Derived.Test.YtbafmfdlbicadaaMb8
import Derived.Test.YtbafmfdlbicadaaMb9
import Derived.Test.YtbafmfdlbicadaaMb5
import Derived.Test.YtbafmfdlbicadaaMb4
import Derived.Laws.ResultCell
import Derived.Laws.AppendOwn

/- The reference's From and Get (out of XSrlev and XSrget). -/
namespace Go.Proofs.Ytbafmfdlbicadaa
open Go.ChangeShapes Go.WideShapes Go.ChangeAt Go.RowKit

theorem entry_ret2 {fn : Func} {tmps : Array Value} {w : World} {g : Nat} {p q : Tmp} {c : Array Value} {k : Value} {R : Ending → World → Prop} (hr : fn.results = #[.cell p 46, .tmp q]) (h2 : tmps.getD p undef = .pointer (some ⟨g, 0, none⟩)) (h3 : tmps.getD q undef = k)
    (hc : c.size = 4) (hg : w.heap[g]? = some (.cells c 46 (0, 0))) (h : R (.returned (.tuple #[.agg c, k])) w) : bodyPost Try.prog fn R .ret { tmps := tmps, defers := [] } w := by
  refine ⟨rfl, .tuple #[.agg c, k], ?_, h⟩
  have hi : (Try.prog.info? 46).map (·.size) = some 4 := by kernel_rfl
  have hl := run_loadVar_row (P := Try.prog) w g 46 46 c (0, 0) _ hg Try.underlying46 rfl (by rw [hc]; exact hi)
  have ha : (asAddr (.pointer (some ⟨g, 0, none⟩))).run Try.prog w = .ok ⟨g, 0, none⟩ w := rfl
  rw [results_cell_tmp hr, h2, h3, ha, Result.andThen_ok, hl, Result.andThen_ok]


set_option maxRecDepth 100000 in
set_option maxHeartbeats 4000000 in
theorem rfrom_any {w : World} {lo hi lo2 hi2 : Nat} {A : Option Addr} {c : Nat} {R : List (Ent × Hd)} {v : Value} {key : List Nat} (h : Es w lo hi A R) (hhi : hi ≤ w.heap.size) (hc : R.length ≤ c) (hlen : R.length ≤ 1000000) (hkl : ∀ p ∈ R, p.1.key.length ≤ 140737488351232)
    (hk : Bs w lo2 hi2 v key) (hhi2 : hi2 ≤ w.heap.size) (bk : ∀ x ∈ key, x < 256) (hl : key.length ≤ 140737488351232) :
    Calls Try.prog 27 #[.slice A R.length c, v] w fun e w' => ∃ (X : Option Addr) (d : Nat), e = .returned (.slice X (R.drop (cutOf (belowK key) (R.map Prod.fst))).length d) ∧ Es w lo hi X (R.drop (cutOf (belowK key) (R.map Prod.fst))) ∧ Ext w w' := by
  have HE := Lib.hid h
  have HHI := Lib.hid hhi
  have HC := Lib.hid hc
  have HK := Lib.hid hk
  have HHI2 := Lib.hid hhi2
  have HBK := Lib.hid bk
  have HL := Lib.hid hl
  have HKL := Lib.hid hkl
  have hlI : (R.length : Int) ≤ 1000000 := by omega
  clear h hhi hc hk hhi2 bk hl hkl
  go_enter Try.func27, Try.ntmps27
  go_wp2_with fail
  go_loopw [5] (fun i wr => ∃ k : Nat, k ≤ R.length ∧ i = .int .i64 (k : Int) ∧ Hid (∀ j e, j < k → (R.map Prod.fst)[j]? = some e → belowK key e = true) ∧ Hid (Ext w wr)) (fun i _ => R.length - (intOf i).toNat)
  case atStart => exact ⟨0, Nat.zero_le _, rfl, Lib.hid (fun j _ hj => by omega), Lib.hid (Ext.refl _)⟩
  case round =>
    obtain ⟨k, hk, rfl, HJ, HX⟩ := hrel
    by_cases hlt : k < R.length
    · have d : decide ((k : Int) < (R.length : Int)) = true := decide_eq_true (by omega)
      have dn : decide (k < R.length) = true := decide_eq_true hlt
      obtain ⟨b, o, hA⟩ := HE.out.base (by omega)
      obtain ⟨X, hX⟩ : ∃ X : Option Addr, X = if c = k then A else Option.map (fun q : Addr => q.add (k * 4)) A := ⟨_, rfl⟩
      have HS := Lib.hid (fun W => eslice_from A R.length c k hk HC.out W)
      rw [← hX] at HS
      have HEX : Hid (Es w lo hi X (R.drop k)) := by rw [hX]; exact HE.out.drop hk HC.out
      subst hA
      clear hX
      obtain ⟨p, hp⟩ : ∃ p, R[k]? = some p := ⟨_, List.getElem?_eq_getElem hlt⟩
      obtain ⟨c0, c1, c2, c3⟩ := (HE.out.below HX.out HHI.out).get hp
      have HP := Lib.hid hp
      have n1 : (0 : Int) ≤ (k : Int) := by omega
      have n2 : (k : Int) < (R.length : Int) := by omega
      have HLT := Lib.hid hlt
      have hem := (HE.out.below HX.out HHI.out).each p (List.mem_of_getElem? hp)
      have HCM := Lib.hid (rkeys_any hem.k (HK.out.below HX.out HHI2.out) hem.bk HBK.out (Nat.le_trans HHI.out HX.out.size) (Nat.le_trans HHI2.out HX.out.size) (HKL.out p (List.mem_of_getElem? hp)) HL.out)
      obtain ⟨s, hs⟩ : ∃ s, s = cmpK p.1.key key := ⟨_, rfl⟩
      have HSS := Lib.hid hs
      rw [← hs] at HCM
      obtain ⟨y, hy⟩ : ∃ y, y = decide (0 ≤ s) := ⟨_, rfl⟩
      have HY := Lib.hid hy
      have hyn : decide (s < 0) = !y := by rw [hy]; by_cases h : s < 0 <;> simp [h] <;> omega
      have hys := hy.symm
      clear hp hlt hem hs hy
      go_wp2_with fail
      refine HCM.out.mono ?_
      rintro e w1 ⟨rfl, hx1⟩
      have HX1 : Hid (Ext w w1) := Ext.trans HX.out hx1
      clear hx1 HCM c0 c1 c2 c3
      cases y with
      | true =>
        have HCUT : Hid (cutOf (belowK key) (R.map Prod.fst) = k) := cut_is (by rw [List.length_map]; omega) HJ.out (fun e he => by
          rw [List.getElem?_map, HP.out] at he; injection he with he; subst he
          unfold belowK; rw [← HSS.out]; exact decide_eq_false (by have := of_decide_eq_true hys; omega))
        have hsl := HS.out
        clear hyn
        go_wp2_with fail
        go_ret
        refine ⟨X, c - k, ?_, ?_, HX1.out⟩
        · rw [HCUT.out, List.length_drop]; rfl
        · rw [HCUT.out]; exact HEX.out
      | false =>
        go_wp2_with fail
        go_roundw
        case rel =>
          refine ⟨k + 1, by have := HLT.out; omega, by go_num, Lib.hid (fun j e hj he => ?_), HX1⟩
          by_cases hjk : j = k
          · subst hjk
            rw [List.getElem?_map, HP.out] at he; injection he with he; subst he
            unfold belowK; rw [← HSS.out]; exact decide_eq_true (by have := of_decide_eq_false hys; omega)
          · exact HJ.out j e (by omega) he
        case measure => have := HLT.out; simp [intOf]; omega
    · have d : decide ((k : Int) < (R.length : Int)) = false := decide_eq_false (by omega)
      have dn : decide (k < R.length) = false := decide_eq_false hlt
      have HCUT : Hid (R.drop (cutOf (belowK key) (R.map Prod.fst)) = []) := by
        have h1 : cutOf (belowK key) (R.map Prod.fst) = R.length := cut_is (by rw [List.length_map]; omega) (fun j e hj he => HJ.out j e (by omega) he) (fun e he => by
          rw [List.getElem?_eq_none (by rw [List.length_map]; exact Nat.le_refl _)] at he; cases he)
        unfold Hid; rw [h1]; exact List.drop_length ..
      clear hlt hk
      go_wp2_with fail
      go_ret
      refine ⟨none, 0, ?_, ?_, HX.out⟩
      · rw [HCUT.out]; rfl
      · rw [HCUT.out]; exact ⟨Sl.nil _ _ _ _, fun p hp => by cases hp⟩


/-- What the reference's Get answers. -/
def RGetAns (w : World) (lo hi : Nat) (o : Option Ent) (e : Ending) (w' : World) : Prop :=
  Ext w w' ∧ match o with
    | some x => ∃ g : Hd, e = .returned (.tuple #[x.at_ g, .int .i64 0]) ∧ Em w lo hi x g
    | none => e = .returned (.tuple #[zeroE.at_ ⟨none, 0, none, 0⟩, .int .i64 6])
/-- Is it this key's, and not too late? -/
def seenE (k : List Nat) (s : Int) (e : Ent) : Bool := decide (e.key = k) && decide (e.seq ≤ s)
set_option maxRecDepth 100000 in
set_option maxHeartbeats 8000000 in
theorem rget_any {w : World} {lo1 lo2 hi hi2 : Nat} {A kA : Option Addr} {c kc : Nat} {R : List (Ent × Hd)} {key : List Nat} {s : Int} (h : Es w lo1 hi A R) (hhi : hi ≤ w.heap.size) (hlen : R.length ≤ 1000000)
    (hk : Bs w lo2 hi2 (.slice kA key.length kc) key) (hhi2 : hi2 ≤ w.heap.size) (bk : ∀ x ∈ key, x < 256) :
    Calls Try.prog 46 #[.slice A R.length c, .slice kA key.length kc, .int .i64 s] w (RGetAns w lo1 hi ((R.map Prod.fst).find? (seenE key s))) := by
  obtain ⟨oo, hoo⟩ : ∃ oo, oo = (R.map Prod.fst).find? (seenE key s) := ⟨_, rfl⟩
  rw [← hoo]
  have HOO := Lib.hid hoo
  clear hoo
  obtain ⟨w1, hw1⟩ : ∃ w1, w1 = w.alloc (.cells #[.slice none 0 0, .int .i64 0, .int .i64 0, .slice none 0 0] 46) := ⟨_, rfl⟩
  have HX1 : Hid (Ext w w1) := by rw [hw1]; exact ext_alloc _ _
  have HB1 : Hid (w1.heap[w.heap.size]? = some (.cells #[.slice none 0 0, .int .i64 0, .int .i64 0, .slice none 0 0] 46 (0, 0))) := by rw [hw1]; exact heap_at _ _ rfl
  have HE := Lib.hid h
  have HHI := Lib.hid hhi
  have HK := Lib.hid hk
  have HHI2 := Lib.hid hhi2
  have HBK := Lib.hid bk
  have hlI : (R.length : Int) ≤ 1000000 := by omega
  clear h hhi hk hhi2 bk hlen
  go_enter Try.func46, Try.ntmps46
  go_upto_region 1 with (fail)
  try rw [← hw1]
  clear hw1
  go_wp2_with fail
  go_loopw [8] (fun i wr => ∃ k : Nat, k ≤ R.length ∧ i = .int .i64 (k : Int) ∧ Hid (∀ j e, j < k → (R.map Prod.fst)[j]? = some e → seenE key s e = false) ∧ Hid (Ext w1 wr)) (fun i _ => R.length - (intOf i).toNat)
  case atStart => exact ⟨0, Nat.zero_le _, rfl, Lib.hid (fun j _ hj => by omega), Lib.hid (Ext.refl _)⟩
  case round =>
    obtain ⟨k, hk, rfl, HJ, HXR⟩ := hrel
    have HX : Hid (Ext w wr) := Ext.trans HX1.out HXR.out
    by_cases hlt : k < R.length
    · have d : decide ((k : Int) < (R.length : Int)) = true := decide_eq_true (by omega)
      have dn : decide (k < R.length) = true := decide_eq_true hlt
      obtain ⟨b, o, hA⟩ := HE.out.base (by omega)
      subst hA
      obtain ⟨p, hp⟩ : ∃ p, R[k]? = some p := ⟨_, List.getElem?_eq_getElem hlt⟩
      obtain ⟨c0, c1, c2, c3⟩ := (HE.out.below HX.out HHI.out).get hp
      have HP := Lib.hid hp
      have n1 : (0 : Int) ≤ (k : Int) := by omega
      have n2 : (k : Int) < (R.length : Int) := by omega
      have HLT := Lib.hid hlt
      have HWW : Hid (∀ u, Ext wr u → Em u lo1 hi p.1 p.2 ∧ Bs u lo2 hi2 (.slice kA key.length kc) key) := fun u hu => by
        have hx := Ext.trans HX.out hu
        exact ⟨(HE.out.below hx HHI.out).each p (List.mem_of_getElem? HP.out), HK.out.below hx HHI2.out⟩
      obtain ⟨z, hz⟩ : ∃ z, z = decide (p.1.key = key) := ⟨_, rfl⟩
      have HT : Hid (((tx p.1.key).toList == (tx key).toList) = z) := by
        have h1 := tx_same (HWW.out wr (Ext.refl _)).1.bk HBK.out
        rw [hz]; exact h1
      obtain ⟨y, hy⟩ : ∃ y, y = decide (p.1.seq ≤ s) := ⟨_, rfl⟩
      have HY := Lib.hid hy
      have HSE : Hid (seenE key s p.1 = (z && y)) := by unfold seenE; rw [← hz, ← hy]; exact rfl
      clear hp hlt hz hy
      cases z with
      | false =>
        go_upto_region 4 with (fail)
        refine flow (by kernel_rfl) [Is (.slice (some ⟨b, o, none⟩) R.length c), Is (.int .i64 (k : Int)), Is (.pointer (some ⟨b, o + k * 4, none⟩)), Is (.pointer (some ⟨b, o + k * 4, none⟩)), Is (.slice p.2.kA p.1.key.length p.2.kc), Is (.string (tx p.1.key)), Is (.slice kA key.length kc), Is (.string (tx key)), Is (.bool false), Is (.bool false), Is undef, Is undef, Is undef, Is undef, Is undef, Is undef, Is undef, Is (.bool false)] (by kernel_rfl) (by kernel_rfl) ?mono (fun f1 => ?obl) ?fin
        case mono =>
          simp only [List.forall_mem_cons, List.not_mem_nil, false_imp_iff, implies_true, and_true]
          exact ⟨.is _, .is _, .is _, .is _, .is _, .is _, .is _, .is _, .is _, .is _, .is _, .is _, .is _, .is _, .is _, .is _, .is _, .is _⟩
        case fin =>
          intro g1 w5 hu hg
          simp only [puts, Act.put, List.setIfInBounds_toArray, List.set_cons_zero, List.set_cons_succ]
          have h17 : g1 17 = .bool false := hg 17 (by decide)
          rw [h17]
          have HX5 : Hid (Ext w1 w5) := Ext.trans HXR.out (Ext.trans (Ext.drew wr) hu)
          clear h17 hg hu c0 c1 c2 c3
          go_wp2_with fail
          go_roundw
          case rel =>
            refine ⟨k + 1, by have := HLT.out; omega, by go_num, Lib.hid (fun j e hj he => ?_), HX5⟩
            by_cases hjk : j = k
            · subst hjk
              rw [List.getElem?_map, HP.out] at he; injection he with he; subst he
              rw [HSE.out]; rfl
            · exact HJ.out j e (by omega) he
          case measure => have := HLT.out; simp [intOf]; omega
        case obl =>
          refine ⟨fun u hu hd => ?_, ?_⟩
          · go_simp
            exact ⟨Ext.refl _, rfl⟩
          refine ⟨fun u hu hd => ?_, ?_⟩
          · simp only [Act.put, List.setIfInBounds_toArray, List.set_cons_zero, List.set_cons_succ]
            go_simp
            exact ⟨Ext.refl _, rfl⟩
          refine ⟨fun u hu hd => ?_, ?_⟩
          · simp only [Act.put, List.setIfInBounds_toArray, List.set_cons_zero, List.set_cons_succ]
            have e0 : f1 0 = .slice (some ⟨b, o, none⟩) R.length c := hd 0 (by kernel_rfl)
            have e1 : f1 1 = .int .i64 (k : Int) := hd 1 (by kernel_rfl)
            go_simp
            exact ⟨Ext.refl _, rfl⟩
          refine ⟨fun u hu hd => ?_, ?_⟩
          · simp only [Act.put, List.setIfInBounds_toArray, List.set_cons_zero, List.set_cons_succ]
            have e2 : f1 2 = .pointer (some ⟨b, o + k * 4, none⟩) := hd 2 (by kernel_rfl)
            go_simp
            exact ⟨Ext.refl _, rfl⟩
          refine ⟨fun u hu hd => ?_, ?_⟩
          · simp only [Act.put, List.setIfInBounds_toArray, List.set_cons_zero, List.set_cons_succ]
            have e3 : f1 3 = .pointer (some ⟨b, o + k * 4, none⟩) := hd 3 (by kernel_rfl)
            have hu2 := Ext.trans (Ext.drew wr) hu
            have q0 := ext_cell hu2 c0
            go_simp
            exact ⟨Ext.refl _, rfl⟩
          refine ⟨fun u hu hd => ?_, ?_⟩
          · simp only [Act.put, List.setIfInBounds_toArray, List.set_cons_zero, List.set_cons_succ]
            have e4 : f1 4 = .slice p.2.kA p.1.key.length p.2.kc := hd 4 (by kernel_rfl)
            have hu2 := Ext.trans (Ext.drew wr) hu
            have q1 := cv_any (HWW.out u hu2).1.k
            go_simp
            exact ⟨Ext.refl _, rfl⟩
          refine ⟨fun u hu hd => ?_, ?_⟩
          · simp only [Act.put, List.setIfInBounds_toArray, List.set_cons_zero, List.set_cons_succ]
            go_simp
            exact ⟨Ext.refl _, rfl⟩
          refine ⟨fun u hu hd => ?_, ?_⟩
          · simp only [Act.put, List.setIfInBounds_toArray, List.set_cons_zero, List.set_cons_succ]
            have e6 : f1 6 = .slice kA key.length kc := hd 6 (by kernel_rfl)
            have hu2 := Ext.trans (Ext.drew wr) hu
            have q1 := cv_any (HWW.out u hu2).2
            go_simp
            exact ⟨Ext.refl _, rfl⟩
          refine ⟨fun u hu hd => ?_, ?_⟩
          · simp only [Act.put, List.setIfInBounds_toArray, List.set_cons_zero, List.set_cons_succ]
            have e5 : f1 5 = .string (tx p.1.key) := hd 5 (by kernel_rfl)
            have e7 : f1 7 = .string (tx key) := hd 7 (by kernel_rfl)
            have q1 := HT.out
            go_simp
            exact ⟨Ext.refl _, rfl⟩
          refine ⟨fun u hu hd => ?_, ?_⟩
          · simp only [Act.put, List.setIfInBounds_toArray, List.set_cons_zero, List.set_cons_succ]
            have e8 : f1 8 = .bool false := hd 8 (by kernel_rfl)
            go_simp
            exact ⟨Ext.refl _, rfl⟩
          refine ⟨fun u hu hd => ?_, ?_⟩
          · simp only [Act.put, List.setIfInBounds_toArray, List.set_cons_zero, List.set_cons_succ]
            have e9 : f1 9 = .bool false := hd 9 (by kernel_rfl)
            go_simp
            rfl
          refine ⟨fun u hu hd => ?_, ?_⟩
          · simp only [Act.put, List.setIfInBounds_toArray, List.set_cons_zero, List.set_cons_succ]
            have e9 : f1 9 = .bool false := hd 9 (by kernel_rfl)
            go_simp
            rfl
          refine ⟨fun u hu hd => ?_, ?_⟩
          · simp only [Act.put, List.setIfInBounds_toArray, List.set_cons_zero, List.set_cons_succ]
            have e9 : f1 9 = .bool false := hd 9 (by kernel_rfl)
            go_simp
            rfl
          refine ⟨fun u hu hd => ?_, ?_⟩
          · simp only [Act.put, List.setIfInBounds_toArray, List.set_cons_zero, List.set_cons_succ]
            have e9 : f1 9 = .bool false := hd 9 (by kernel_rfl)
            go_simp
            rfl
          refine ⟨fun u hu hd => ?_, ?_⟩
          · simp only [Act.put, List.setIfInBounds_toArray, List.set_cons_zero, List.set_cons_succ]
            have e9 : f1 9 = .bool false := hd 9 (by kernel_rfl)
            go_simp
            rfl
          refine ⟨fun u hu hd => ?_, ?_⟩
          · simp only [Act.put, List.setIfInBounds_toArray, List.set_cons_zero, List.set_cons_succ]
            have e9 : f1 9 = .bool false := hd 9 (by kernel_rfl)
            go_simp
            rfl
          refine ⟨fun u hu hd => ?_, ?_⟩
          · simp only [Act.put, List.setIfInBounds_toArray, List.set_cons_zero, List.set_cons_succ]
            have e9 : f1 9 = .bool false := hd 9 (by kernel_rfl)
            go_simp
            rfl
          refine ⟨fun u hu hd => ?_, ?_⟩
          · simp only [Act.put, List.setIfInBounds_toArray, List.set_cons_zero, List.set_cons_succ]
            have e9 : f1 9 = .bool false := hd 9 (by kernel_rfl)
            go_simp
            exact ⟨Ext.refl _, rfl⟩
          trivial
      | true =>
        go_upto_region 4 with (fail)
        refine flow (by kernel_rfl) [Is (.slice (some ⟨b, o, none⟩) R.length c), Is (.int .i64 (k : Int)), Is (.pointer (some ⟨b, o + k * 4, none⟩)), Is (.pointer (some ⟨b, o + k * 4, none⟩)), Is (.slice p.2.kA p.1.key.length p.2.kc), Is (.string (tx p.1.key)), Is (.slice kA key.length kc), Is (.string (tx key)), Is (.bool true), Is (.bool true), Is (.slice (some ⟨b, o, none⟩) R.length c), Is (.int .i64 (k : Int)), Is (.pointer (some ⟨b, o + k * 4, none⟩)), Is (.pointer (some ⟨b, o + k * 4 + 1, none⟩)), Is (.int .i64 p.1.seq), Is (.int .i64 s), Is (.bool y), Is (.bool y)] (by kernel_rfl) (by kernel_rfl) ?mono (fun f1 => ?obl) ?fin
        case mono =>
          simp only [List.forall_mem_cons, List.not_mem_nil, false_imp_iff, implies_true, and_true]
          exact ⟨.is _, .is _, .is _, .is _, .is _, .is _, .is _, .is _, .is _, .is _, .is _, .is _, .is _, .is _, .is _, .is _, .is _, .is _⟩
        case fin =>
          intro g1 w5 hu hg
          simp only [puts, Act.put, List.setIfInBounds_toArray, List.set_cons_zero, List.set_cons_succ]
          have h17 : g1 17 = .bool y := hg 17 (by decide)
          rw [h17]
          have HX5 : Hid (Ext w1 w5) := Ext.trans HXR.out (Ext.trans (Ext.drew wr) hu)
          clear h17 hg hu c0 c1 c2 c3
          cases y with
          | false =>
            go_wp2_with fail
            go_roundw
            case rel =>
              refine ⟨k + 1, by have := HLT.out; omega, by go_num, Lib.hid (fun j e hj he => ?_), HX5⟩
              by_cases hjk : j = k
              · subst hjk
                rw [List.getElem?_map, HP.out] at he; injection he with he; subst he
                rw [HSE.out]; rfl
              · exact HJ.out j e (by omega) he
            case measure => have := HLT.out; simp [intOf]; omega
          | true =>
            have HXW : Hid (Ext w w5) := Ext.trans HX1.out HX5.out
            obtain ⟨c0, c1, c2, c3⟩ := (HE.out.below HXW.out HHI.out).get HP.out
            have HFD : Hid ((R.map Prod.fst).find? (seenE key s) = some p.1) := find_at (i := k) (by rw [List.getElem?_map, HP.out]; rfl) HSE.out HJ.out
            have HBR : Hid (w5.heap[w.heap.size]? = some (.cells #[.slice none 0 0, .int .i64 0, .int .i64 0, .slice none 0 0] 46 (0, 0))) := ext_heap HX5.out HB1.out
            have r0 := cell_of (v := .slice none 0 0) HBR.out (k := 0) rfl
            have r1 := cell_of (v := .int .i64 0) HBR.out (k := 1) rfl
            have r2 := cell_of (v := .int .i64 0) HBR.out (k := 2) rfl
            have r3 := cell_of (v := .slice none 0 0) HBR.out (k := 3) rfl
            have z0 := frozen_four (j := 0) HBR.out
            have z1 := frozen_four (j := 1) HBR.out
            have z2 := frozen_four (j := 2) HBR.out
            have z3 := frozen_four (j := 3) HBR.out
            obtain rfl : oo = some p.1 := by rw [HOO.out, HFD.out]
            go_wp2_with fail
            refine entry_ret2 (p := 6) (q := 7) (by kernel_rfl) rfl rfl rfl (set_four HBR.out) ⟨?_, p.2, rfl, HE.out.each p (List.mem_of_getElem? HP.out)⟩
            have e := Nat.le_refl w.heap.size
            exact Below.setCell (Below.setCell (Below.setCell (Below.setCell HXW.out e _) e _) e _) e _
        case obl =>
          refine ⟨fun u hu hd => ?_, ?_⟩
          · go_simp
            exact ⟨Ext.refl _, rfl⟩
          refine ⟨fun u hu hd => ?_, ?_⟩
          · simp only [Act.put, List.setIfInBounds_toArray, List.set_cons_zero, List.set_cons_succ]
            go_simp
            exact ⟨Ext.refl _, rfl⟩
          refine ⟨fun u hu hd => ?_, ?_⟩
          · simp only [Act.put, List.setIfInBounds_toArray, List.set_cons_zero, List.set_cons_succ]
            have e0 : f1 0 = .slice (some ⟨b, o, none⟩) R.length c := hd 0 (by kernel_rfl)
            have e1 : f1 1 = .int .i64 (k : Int) := hd 1 (by kernel_rfl)
            go_simp
            exact ⟨Ext.refl _, rfl⟩
          refine ⟨fun u hu hd => ?_, ?_⟩
          · simp only [Act.put, List.setIfInBounds_toArray, List.set_cons_zero, List.set_cons_succ]
            have e2 : f1 2 = .pointer (some ⟨b, o + k * 4, none⟩) := hd 2 (by kernel_rfl)
            go_simp
            exact ⟨Ext.refl _, rfl⟩
          refine ⟨fun u hu hd => ?_, ?_⟩
          · simp only [Act.put, List.setIfInBounds_toArray, List.set_cons_zero, List.set_cons_succ]
            have e3 : f1 3 = .pointer (some ⟨b, o + k * 4, none⟩) := hd 3 (by kernel_rfl)
            have hu2 := Ext.trans (Ext.drew wr) hu
            have q0 := ext_cell hu2 c0
            go_simp
            exact ⟨Ext.refl _, rfl⟩
          refine ⟨fun u hu hd => ?_, ?_⟩
          · simp only [Act.put, List.setIfInBounds_toArray, List.set_cons_zero, List.set_cons_succ]
            have e4 : f1 4 = .slice p.2.kA p.1.key.length p.2.kc := hd 4 (by kernel_rfl)
            have hu2 := Ext.trans (Ext.drew wr) hu
            have q1 := cv_any (HWW.out u hu2).1.k
            go_simp
            exact ⟨Ext.refl _, rfl⟩
          refine ⟨fun u hu hd => ?_, ?_⟩
          · simp only [Act.put, List.setIfInBounds_toArray, List.set_cons_zero, List.set_cons_succ]
            go_simp
            exact ⟨Ext.refl _, rfl⟩
          refine ⟨fun u hu hd => ?_, ?_⟩
          · simp only [Act.put, List.setIfInBounds_toArray, List.set_cons_zero, List.set_cons_succ]
            have e6 : f1 6 = .slice kA key.length kc := hd 6 (by kernel_rfl)
            have hu2 := Ext.trans (Ext.drew wr) hu
            have q1 := cv_any (HWW.out u hu2).2
            go_simp
            exact ⟨Ext.refl _, rfl⟩
          refine ⟨fun u hu hd => ?_, ?_⟩
          · simp only [Act.put, List.setIfInBounds_toArray, List.set_cons_zero, List.set_cons_succ]
            have e5 : f1 5 = .string (tx p.1.key) := hd 5 (by kernel_rfl)
            have e7 : f1 7 = .string (tx key) := hd 7 (by kernel_rfl)
            have q1 := HT.out
            go_simp
            exact ⟨Ext.refl _, rfl⟩
          refine ⟨fun u hu hd => ?_, ?_⟩
          · simp only [Act.put, List.setIfInBounds_toArray, List.set_cons_zero, List.set_cons_succ]
            have e8 : f1 8 = .bool true := hd 8 (by kernel_rfl)
            go_simp
            exact ⟨Ext.refl _, rfl⟩
          refine ⟨fun u hu hd => ?_, ?_⟩
          · simp only [Act.put, List.setIfInBounds_toArray, List.set_cons_zero, List.set_cons_succ]
            have e9 : f1 9 = .bool true := hd 9 (by kernel_rfl)
            go_simp
            exact ⟨Ext.refl _, rfl⟩
          refine ⟨fun u hu hd => ?_, ?_⟩
          · simp only [Act.put, List.setIfInBounds_toArray, List.set_cons_zero, List.set_cons_succ]
            have e9 : f1 9 = .bool true := hd 9 (by kernel_rfl)
            go_simp
            exact ⟨Ext.refl _, rfl⟩
          refine ⟨fun u hu hd => ?_, ?_⟩
          · simp only [Act.put, List.setIfInBounds_toArray, List.set_cons_zero, List.set_cons_succ]
            have e9 : f1 9 = .bool true := hd 9 (by kernel_rfl)
            have e10 : f1 10 = .slice (some ⟨b, o, none⟩) R.length c := hd 10 (by kernel_rfl)
            have e11 : f1 11 = .int .i64 (k : Int) := hd 11 (by kernel_rfl)
            go_simp
            exact ⟨Ext.refl _, rfl⟩
          refine ⟨fun u hu hd => ?_, ?_⟩
          · simp only [Act.put, List.setIfInBounds_toArray, List.set_cons_zero, List.set_cons_succ]
            have e9 : f1 9 = .bool true := hd 9 (by kernel_rfl)
            have e12 : f1 12 = .pointer (some ⟨b, o + k * 4, none⟩) := hd 12 (by kernel_rfl)
            go_simp
            exact ⟨Ext.refl _, rfl⟩
          refine ⟨fun u hu hd => ?_, ?_⟩
          · simp only [Act.put, List.setIfInBounds_toArray, List.set_cons_zero, List.set_cons_succ]
            have e9 : f1 9 = .bool true := hd 9 (by kernel_rfl)
            have e13 : f1 13 = .pointer (some ⟨b, o + k * 4 + 1, none⟩) := hd 13 (by kernel_rfl)
            have hu2 := Ext.trans (Ext.drew wr) hu
            have q0 := ext_cell hu2 c1
            go_simp
            exact ⟨Ext.refl _, rfl⟩
          refine ⟨fun u hu hd => ?_, ?_⟩
          · simp only [Act.put, List.setIfInBounds_toArray, List.set_cons_zero, List.set_cons_succ]
            have e9 : f1 9 = .bool true := hd 9 (by kernel_rfl)
            go_simp
            exact ⟨Ext.refl _, rfl⟩
          refine ⟨fun u hu hd => ?_, ?_⟩
          · simp only [Act.put, List.setIfInBounds_toArray, List.set_cons_zero, List.set_cons_succ]
            have e9 : f1 9 = .bool true := hd 9 (by kernel_rfl)
            have e14 : f1 14 = .int .i64 p.1.seq := hd 14 (by kernel_rfl)
            have e15 : f1 15 = .int .i64 s := hd 15 (by kernel_rfl)
            have q1 := HY.out.symm
            go_simp
            exact ⟨Ext.refl _, rfl⟩
          refine ⟨fun u hu hd => ?_, ?_⟩
          · simp only [Act.put, List.setIfInBounds_toArray, List.set_cons_zero, List.set_cons_succ]
            have e9 : f1 9 = .bool true := hd 9 (by kernel_rfl)
            have e16 : f1 16 = .bool y := hd 16 (by kernel_rfl)
            go_simp
            exact ⟨Ext.refl _, rfl⟩
          trivial
    · have d : decide ((k : Int) < (R.length : Int)) = false := decide_eq_false (by omega)
      have dn : decide (k < R.length) = false := decide_eq_false hlt
      have HNO : Hid ((R.map Prod.fst).find? (seenE key s) = none) := List.find?_eq_none.2 fun e he => by
        obtain ⟨j, hj⟩ := List.getElem?_of_mem he
        have hjl := (List.getElem?_eq_some_iff.1 hj).1
        rw [List.length_map] at hjl
        rw [HJ.out j e (by omega) hj]; simp
      have HBR : Hid (wr.heap[w.heap.size]? = some (.cells #[.slice none 0 0, .int .i64 0, .int .i64 0, .slice none 0 0] 46 (0, 0))) := ext_heap HXR.out HB1.out
      have r0 := cell_of (v := .slice none 0 0) HBR.out (k := 0) rfl
      have r1 := cell_of (v := .int .i64 0) HBR.out (k := 1) rfl
      have r2 := cell_of (v := .int .i64 0) HBR.out (k := 2) rfl
      have r3 := cell_of (v := .slice none 0 0) HBR.out (k := 3) rfl
      have z0 := frozen_four (j := 0) HBR.out
      have z1 := frozen_four (j := 1) HBR.out
      have z2 := frozen_four (j := 2) HBR.out
      have z3 := frozen_four (j := 3) HBR.out
      clear hlt hk
      obtain rfl : oo = none := by rw [HOO.out, HNO.out]
      go_wp2_with fail
      refine entry_ret2 (p := 6) (q := 7) (by kernel_rfl) rfl rfl rfl (set_four HBR.out) ⟨?_, rfl⟩
      have e := Nat.le_refl w.heap.size
      exact Below.setCell (Below.setCell (Below.setCell (Below.setCell HX.out e _) e _) e _) e _
end Go.Proofs.Ytbafmfdlbicadaa

/- Get: a block's entry that one sees who reads at a number. -/
namespace Go.Proofs.Ytbafmfdlbicadaa
open Go.ChangeShapes Go.WideShapes Go.ChangeAt Go.RowKit

/-- What Get answers. -/
def BGetAns (w : World) (b key : List Nat) (s : Int) (x : Ending) (w' : World) : Prop :=
  Ext w w' ∧ ((∀ L, ¬ IsB b L) ∧ x = .returned (.tuple #[noE, .int .i64 4]) ∨ ∃ L, IsB b L ∧ match L.find? (seenE key s) with
    | some e => ∃ g : Hd, x = .returned (.tuple #[e.at_ g, .int .i64 0]) ∧ Em w' 0 w'.heap.size e g
    | none => x = .returned (.tuple #[noE, .int .i64 6]))

theorem cut_find {L : List Ent} {key : List Nat} {s : Int} {n : Nat} (hr : Rise L) (h : Cut L ⟨key, s, 0, []⟩ n) : L.find? (seenE key s) = if h : n < L.length then (if L[n].key = key then some L[n] else none) else none := by
  have hahead : ∀ j a, j < n → L[j]? = some a → seenE key s a = false := fun j a hj ha => by
    have h1 := h.lo j a hj ha
    unfold seenE
    rw [Bool.and_eq_false_iff]
    by_cases hk : a.key = key
    · right
      rw [decide_eq_false_iff_not]
      intro hs
      unfold cmpE at h1
      rw [if_pos (by rw [hk]; exact cmpK_self _)] at h1
      unfold cmpS at h1
      dsimp only at h1
      split at h1
      · omega
      · split at h1 <;> omega
    · left; exact decide_eq_false hk
  have hsplit : L.find? (seenE key s) = (L.drop n).find? (seenE key s) := by
    conv => lhs; rw [← List.take_append_drop n L]
    rw [List.find?_append]
    have : (L.take n).find? (seenE key s) = none := by
      rw [List.find?_eq_none]
      intro a ha
      obtain ⟨j, hj, rfl⟩ := List.getElem_of_mem ha
      rw [List.length_take] at hj
      rw [List.getElem_take, hahead j _ (by omega) (List.getElem?_eq_getElem (by omega))]
      decide
    rw [this]; rfl
  rw [hsplit]
  split
  · rename_i hn
    rw [List.drop_eq_getElem_cons hn, List.find?_cons]
    have h1 := h.hi n L[n] (Nat.le_refl _) (List.getElem?_eq_getElem hn)
    by_cases hk : L[n].key = key
    · rw [if_pos hk]
      have : seenE key s L[n] = true := by
        unfold seenE
        rw [Bool.and_eq_true, decide_eq_true_eq, decide_eq_true_eq]
        refine ⟨hk, ?_⟩
        unfold cmpE at h1
        rw [if_pos (by rw [hk]; exact cmpK_self _)] at h1
        unfold cmpS at h1
        dsimp only at h1
        split at h1
        · omega
        · split at h1 <;> omega
      rw [this]
    · rw [if_neg hk]
      have h0 : seenE key s L[n] = false := by
        unfold seenE
        rw [Bool.and_eq_false_iff]; left; exact decide_eq_false hk
      rw [h0]
      show (L.drop (n + 1)).find? (seenE key s) = none
      rw [List.find?_eq_none]
      intro a ha hs
      obtain ⟨j, hj, rfl⟩ := List.getElem_of_mem ha
      rw [List.length_drop] at hj
      rw [List.getElem_drop] at hs
      have h2 := rise_at hr (show n < n + 1 + j by omega) (List.getElem?_eq_getElem hn) (List.getElem?_eq_getElem (show n + 1 + j < L.length by omega))
      unfold seenE at hs
      rw [Bool.and_eq_true, decide_eq_true_eq] at hs
      unfold cmpE at h1 h2
      dsimp only at h1
      rw [hs.1] at h2
      split at h1
      · rename_i h3; exact hk (cmpK_zero h3)
      · rename_i h3
        rw [if_neg h3] at h2
        omega
  · rename_i hn
    rw [List.drop_eq_nil_of_le (by omega)]; rfl

theorem chg_four (g : Nat) (w1 : World) (a b c d : Value) : Chg (fun i => i = g) w1 ((((w1.setCell ⟨g, 0, none⟩ a).setCell ⟨g, 1, none⟩ b).setCell ⟨g, 2, none⟩ c).setCell ⟨g, 3, none⟩ d) :=
  (((Chg.setCell (S := fun i => i = g) w1 ⟨g, 0, none⟩ a rfl).trans (Chg.setCell _ ⟨g, 1, none⟩ b rfl)).trans (Chg.setCell _ ⟨g, 2, none⟩ c rfl)).trans (Chg.setCell _ ⟨g, 3, none⟩ d rfl)
theorem get_four {w w1 : World} (h : Ext w w1) (a b c d : Value) : Ext w ((((w1.setCell ⟨w.heap.size, 0, none⟩ a).setCell ⟨w.heap.size, 1, none⟩ b).setCell ⟨w.heap.size, 2, none⟩ c).setCell ⟨w.heap.size, 3, none⟩ d) :=
  Below.trans h ((((Chg.setCell (S := fun i => i = w.heap.size) w1 ⟨w.heap.size, 0, none⟩ a rfl).trans (Chg.setCell _ ⟨w.heap.size, 1, none⟩ b rfl)).trans (Chg.setCell _ ⟨w.heap.size, 2, none⟩ c rfl)).trans (Chg.setCell _ ⟨w.heap.size, 3, none⟩ d rfl) |>.below (fun i e => by omega) h.size)

set_option maxRecDepth 100000 in
set_option maxHeartbeats 8000000 in
theorem bget_any {w : World} {lo hi lo2 hi2 kc : Nat} {v : Value} {kA : Option Addr} {b key : List Nat} {s : Int} (hv : Bs w lo hi v b) (hhi : hi ≤ w.heap.size) (hb : ∀ x ∈ b, x < 256) (hl : b.length ≤ 1000000000) (hk : Bs w lo2 hi2 (.slice kA key.length kc) key) (hhi2 : hi2 ≤ w.heap.size) (bk : ∀ x ∈ key, x < 256) (hs1 : -9223372036854775808 ≤ s) (hs2 : s ≤ 9223372036854775807) :
    Calls Try.prog 24 #[v, .slice kA key.length kc, .int .i64 s] w (BGetAns w b key s) := by
  obtain ⟨w1, hw1⟩ : ∃ w1, w1 = w.alloc (.cells #[.slice none 0 0, .int .i64 0, .int .i64 0, .slice none 0 0] 46) := ⟨_, rfl⟩
  have HX1 : Hid (Ext w w1) := by rw [hw1]; exact ext_alloc _ _
  have HB1 : Hid (w1.heap[w.heap.size]? = some (.cells #[.slice none 0 0, .int .i64 0, .int .i64 0, .slice none 0 0] 46 (0, 0))) := by rw [hw1]; exact heap_at _ _ rfl
  have HZ1 : Hid (w1.heap.size = w.heap.size + 1) := by rw [hw1]; simp [Hid]
  have HR := Lib.hid (bread_any (hv.below HX1.out hhi) (Nat.le_trans hhi HX1.out.size) hb hl)
  have HK := Lib.hid hk
  have HH := Lib.hid hhi2
  have HBK := Lib.hid bk
  have HS := Lib.hid (And.intro hs1 hs2)
  obtain ⟨A, c, rfl, _, _, _, _⟩ := hv
  clear hhi hb hl hk hhi2 bk hs1 hs2
  go_enter Try.func24, Try.ntmps24
  go_wp2_with fail
  rw [← hw1]
  clear hw1
  refine HR.out.mono ?_
  rintro x w2 ⟨hx2, (⟨R, X, cR, his, rfl, hgot⟩ | ⟨hno, rfl⟩)⟩
  rotate_left
  · have HX2 := Lib.hid (Ext.trans HX1.out hx2)
    have HB2 : Hid (w2.heap[w.heap.size]? = some (.cells #[.slice none 0 0, .int .i64 0, .int .i64 0, .slice none 0 0] 46 (0, 0))) := ext_heap hx2 HB1.out
    have HNO := Lib.hid hno
    clear hx2 hno
    have c0 := cell_of HB2.out (k := 0) rfl
    have c1 := cell_of HB2.out (k := 1) rfl
    have c2 := cell_of HB2.out (k := 2) rfl
    have c3 := cell_of HB2.out (k := 3) rfl
    have z0 := frozen_four (j := 0) HB2.out
    have z1 := frozen_four (j := 1) HB2.out
    have z2 := frozen_four (j := 2) HB2.out
    have z3 := frozen_four (j := 3) HB2.out
    go_wp2_with fail
    refine entry_ret2 rfl rfl rfl rfl (set_four HB2.out) ?_
    exact ⟨get_four HX2.out _ _ _ _, .inl ⟨HNO.out, rfl⟩⟩
  have HX2 := Lib.hid (Ext.trans HX1.out hx2)
  have HX12 := Lib.hid hx2
  have HB2 : Hid (w2.heap[w.heap.size]? = some (.cells #[.slice none 0 0, .int .i64 0, .int .i64 0, .slice none 0 0] 46 (0, 0))) := ext_heap hx2 HB1.out
  have HIS := Lib.hid his
  have HG := Lib.hid hgot
  have HRL : Hid (1 ≤ R.length ∧ R.length ≤ 1024) := by have h1 := his.1.1; have h2 := his.1.2.1; rw [List.length_map] at h1 h2; exact ⟨h1, h2⟩
  have HFI := Lib.hid (first_any (c := cR) (x := ⟨key, s, 0, []⟩) (g := ⟨kA, kc, none, 0⟩) (lo2 := 0) (hi2 := w2.heap.size) hgot.rs (Nat.le_refl _) HRL.out.2 his.1.2.2.1 ⟨(HK.out.below (Ext.trans HX1.out hx2) HH.out).wide (Nat.zero_le _) (Nat.le_trans HH.out (Ext.trans HX1.out hx2).size), Bs.nil _ _ _, HBK.out, by simp, HS.out.1, HS.out.2, (by show (-9223372036854775808 : Int) ≤ 0; decide), (by show (0 : Int) ≤ 9223372036854775807; decide)⟩ (Nat.le_refl _))
  clear hx2 his hgot
  go_wp2_with fail
  refine HFI.out.mono ?_
  rintro x w3 ⟨n, hcut, rfl, hx3⟩
  have HX3 := Lib.hid (Ext.trans HX2.out hx3)
  have HX23 := Lib.hid hx3
  have HB3 : Hid (w3.heap[w.heap.size]? = some (.cells #[.slice none 0 0, .int .i64 0, .int .i64 0, .slice none 0 0] 46 (0, 0))) := ext_heap hx3 HB2.out
  have HG3 := Lib.hid (HG.out.below hx3)
  have HF := Lib.hid (cut_find HIS.out.1.2.2.1 hcut)
  have hnle := hcut.le
  rw [List.length_map] at hnle
  have c0 := cell_of HB3.out (k := 0) rfl
  have c1 := cell_of HB3.out (k := 1) rfl
  have c2 := cell_of HB3.out (k := 2) rfl
  have c3 := cell_of HB3.out (k := 3) rfl
  have z0 := frozen_four (j := 0) HB3.out
  have z1 := frozen_four (j := 1) HB3.out
  have z2 := frozen_four (j := 2) HB3.out
  have z3 := frozen_four (j := 3) HB3.out
  clear hx3 hcut
  by_cases hn : n = R.length
  · have d : ((n : Int) == (R.length : Int)) = true := by rw [beq_iff_eq, hn]
    have dn : (n == R.length) = true := by rw [beq_iff_eq, hn]
    have HN := Lib.hid hn
    clear hn hnle
    go_wp2_with fail
    refine entry_ret2 rfl rfl rfl rfl (set_four HB3.out) ?_
    refine ⟨get_four HX3.out _ _ _ _, .inr ⟨_, HIS.out, ?_⟩⟩
    have h1 := HF.out
    rw [dif_neg (by rw [List.length_map]; have := HN.out; omega)] at h1
    rw [h1]
    rfl
  · have d : ((n : Int) == (R.length : Int)) = false := by rw [beq_eq_false_iff_ne]; omega
    have dn : (n == R.length) = false := by rw [beq_eq_false_iff_ne]; exact hn
    have hlt : n < R.length := by omega
    obtain ⟨p, hp⟩ : ∃ p, R[n]? = some p := ⟨_, List.getElem?_eq_getElem hlt⟩
    have HP := Lib.hid hp
    have HLT := Lib.hid hlt
    obtain ⟨bb, oo, rfl⟩ := HG3.out.rs.base (by omega)
    obtain ⟨p0, p1, p2, p3⟩ := HG3.out.rs.get hp
    have n1 : (0 : Int) ≤ (n : Int) := Int.natCast_nonneg _
    have n2 : (n : Int) < (R.length : Int) := Int.ofNat_lt.2 hlt
    have HKC := Lib.hid (keys_any (HG3.out.rs.each p (List.mem_of_getElem? hp)).k (HK.out.below HX3.out HH.out) (HG3.out.rs.each p (List.mem_of_getElem? hp)).bk HBK.out)
    have HFP : Hid ((R.map Prod.fst).find? (seenE key s) = if p.1.key = key then some p.1 else none) := by
      have h1 := HF.out
      rw [dif_pos (by rw [List.length_map]; exact hlt)] at h1
      have h2 : (R.map Prod.fst)[n]'(by rw [List.length_map]; exact hlt) = p.1 := by rw [List.getElem_map]; rw [List.getElem?_eq_getElem hlt] at hp; injection hp with hp; rw [hp]
      rw [h2] at h1
      exact h1
    clear hn hnle hlt hp
    go_wp2_with fail
    refine HKC.out.mono ?_
    rintro x w4 ⟨rfl, rfl⟩
    by_cases hk : p.1.key = key
    · have dk : (cmpK p.1.key key != 0) = false := by rw [hk, cmpK_self]; rfl
      have HKE := Lib.hid hk
      clear hk
      go_wp2_with fail
      refine entry_ret2 rfl rfl rfl rfl (set_four HB3.out) ?_
      refine ⟨get_four HX3.out _ _ _ _, .inr ⟨_, HIS.out, ?_⟩⟩
      rw [HFP.out, if_pos HKE.out]
      refine ⟨p.2, rfl, ?_⟩
      have hm := HG3.out.each p (List.mem_of_getElem? HP.out)
      exact (hm.chg (chg_four _ _ _ _ _ _) (fun k hk e => by have := HZ1.out; omega)).em
    · have dk : (cmpK p.1.key key != 0) = true := by rw [bne_iff_ne]; exact fun h => hk (cmpK_zero h)
      have HKE := Lib.hid hk
      clear hk
      go_wp2_with fail
      refine entry_ret2 rfl rfl rfl rfl (set_four HB3.out) ?_
      refine ⟨get_four HX3.out _ _ _ _, .inr ⟨_, HIS.out, ?_⟩⟩
      rw [HFP.out, if_neg HKE.out]
      rfl
end Go.Proofs.Ytbafmfdlbicadaa

/- The reference's Copy. -/
namespace Go.Proofs.Ytbafmfdlbicadaa
open Go.ChangeShapes Go.WideShapes Go.ChangeAt Go.RowKit

set_option maxRecDepth 100000 in
/-- 'append([]byte(nil), s...)' as a run. -/
theorem clone_run {u : World} {lo hi : Nat} {A : Option Addr} {c : Nat} {l : List Nat} (h : Bs u lo hi (.slice A l.length c) l) (hl : l.length ≤ 1099511627776) :
    ∃ v w, (Builtin.append_ #[22, 22] 22 #[.slice none 0 0, .slice A l.length c]).run Try.prog u = .ok v w ∧ Ext u w ∧ Own u.heap.size l v w := by
  obtain ⟨i0, hi0, ix0, ix1, ix2⟩ := info_parts t5info
  obtain ⟨A', c', he, h1, h2, hnil, hby⟩ := h
  injection he with e1 _ e3
  subst e1 e3
  rcases A with _ | ad
  · obtain rfl := hnil rfl
    have hl0 : l = [] := List.eq_nil_of_length_eq_zero (by omega)
    subst hl0
    refine ⟨.slice none 0 0, u, ?_, Ext.refl _, Own.nil _ _⟩
    simp [Builtin.append_, run_underlying Try.underlying22, sizeOf, typeInfo, hi0, Builtin.lenOf, Builtin.firstCells]
  · obtain ⟨v', w', hr, ho, hg, _⟩ := run_append_own (P := Try.prog) u u.heap.size 22 22 5 i0 (.int .u8 0) 1 1 Try.underlying22 hi0 ix0 ix1 ix2 rfl (by omega) (.slice none 0 0) 0 [] (World.ownsRow_nil _ _ _ _) ad l.length c (bv l) (by rw [bv_length]; omega) (fun j q hj => by
        rcases hby with hby | ⟨b, o, he2, _, _, hc⟩
        · rw [hby] at hj; simp at hj
        · rw [Option.some.inj he2, addr_add]
          exact hc j q hj) (bv_one l) (by unfold maxLen; omega) (by omega) (Nat.le_refl _)
    refine ⟨v', w', hr, (Below.refl _ _).grown hg (Nat.le_refl _) (fun k hk => by cases hk), ?_⟩
    unfold Own
    simpa using ho

/-- The same, where a region draws its order. -/
theorem clone_obl {o : Oper} {a : Act} {x : Operand} {X : Prop} {u : World} {lo hi d : Nat} {A : Option Addr} {c : Nat} {l : List Nat} {R : Value → World → Prop} (_hg : o.guard = none) (ho : o.op = .call { callee := .builtin .append, args := #[.const (.slice none 0 0), x], argTypes := #[22, 22] })
    (ht : o.type = 22) (hd : o.dst = some d) (hx : a.eval x = .slice A l.length c) (hb : Bs u lo hi (.slice A l.length c) l) (hl : l.length ≤ 1099511627776) (hR : ∀ v w, Ext u w → Own u.heap.size l v w → R v w) {Z : Prop} [Decidable Z] (hZ : Z) :
    if Z then GivesR Try.prog ((execOp a.eval o).run Try.prog u) (fun v u' => Ext u u' ∧ R (kept o v) u') else X := by
  rw [if_pos hZ]
  obtain ⟨v, w, hr, h1, h2⟩ := clone_run hb hl
  have h0 : (execOp a.eval o).run Try.prog u = .ok (.value v) w := by
    have hc : a.eval (.const (.slice none 0 0)) = .slice none 0 0 := rfl
    unfold execOp
    simp only [ho, ht, resolve, invoke, builtin, Sem.run_bind, Sem.run_pure, Result.andThen_ok, List.map_toArray, List.map_cons, List.map_nil, hc, hx, hr]
  rw [h0]
  have hk : kept o v = v := by unfold kept; rw [hd]
  show Ext u w ∧ R (kept o v) w
  rw [hk]
  exact ⟨h1, hR _ _ h1 h2⟩

set_option maxRecDepth 100000 in
set_option maxHeartbeats 4000000 in
theorem rcopy_any {w : World} {lo hi : Nat} {e : Ent} {g : Hd} (hm : Em w lo hi e g) (hhi : hi ≤ w.heap.size) (hk : e.key.length ≤ 1099511627776) (hv : e.val.length ≤ 1099511627776) : Calls Try.prog 32 #[e.at_ g] w (CopyAns w e) := by
  obtain ⟨w1, hw1⟩ : ∃ w1, w1 = (w.alloc (.cells #[.slice g.kA e.key.length g.kc, .int .i64 e.seq, .int .i64 e.kind, .slice g.vA e.val.length g.vc] 46)).alloc (.cells #[.slice none 0 0, .int .i64 0, .int .i64 0, .slice none 0 0] 46) := ⟨_, rfl⟩
  have HX : Hid (Ext w w1) := by rw [hw1]; exact Ext.trans (ext_alloc _ _) (ext_alloc _ _)
  have HZ1 : Hid (w1.heap.size = w.heap.size + 2) := by rw [hw1]; simp [Hid]
  have HBX : Hid (w1.heap[w.heap.size]? = some (.cells #[.slice g.kA e.key.length g.kc, .int .i64 e.seq, .int .i64 e.kind, .slice g.vA e.val.length g.vc] 46 (0, 0))) := by rw [hw1]; exact ext_heap (ext_alloc _ _) (heap_at _ _ rfl)
  have HRX : Hid (w1.heap[w.heap.size + 1]? = some (.cells #[.slice none 0 0, .int .i64 0, .int .i64 0, .slice none 0 0] 46 (0, 0))) := by rw [hw1]; exact heap_at _ _ (by simp)
  have HM := Lib.hid hm
  have HHI := Lib.hid hhi
  have HK := Lib.hid hk
  have HV := Lib.hid hv
  clear hm hhi hk hv
  have c0 := cell_of HBX.out (k := 0) rfl
  have c3 := cell_of HBX.out (k := 3) rfl
  unfold Ent.at_
  go_enter Try.func32, Try.ntmps32
  go_upto_region 1 with (fail)
  rw [← hw1]
  clear hw1
  refine flow_tail (by kernel_rfl) [Is (.pointer (some ⟨w.heap.size, 0, none⟩)), Is (.slice g.kA e.key.length g.kc), Own w1.heap.size e.key, Is (.pointer (some ⟨w.heap.size, 3, none⟩)), Is (.slice g.vA e.val.length g.vc), Own w1.heap.size e.val, Is (.pointer (some ⟨w.heap.size, 0, none⟩))] 7 (by kernel_rfl) (by kernel_rfl) (by kernel_rfl) (by kernel_rfl) ?mono (fun f => ?obl) ?fin
  case mono =>
    simp only [List.forall_mem_cons, List.not_mem_nil, false_imp_iff, implies_true, and_true]
    exact ⟨.is _, .is _, .own _ _, .is _, .is _, .own _ _, .is _⟩
  case fin =>
    intro g1 u hu hg
    simp only [List.take_succ_cons, List.take_zero, List.drop_succ_cons, List.drop_zero, puts, Act.put, List.setIfInBounds_toArray, List.set_cons_zero, List.set_cons_succ]
    have h2 : Own w1.heap.size e.key (g1 2) u := hg 2 (by decide)
    have h5 : Own w1.heap.size e.val (g1 5) u := hg 5 (by decide)
    have h6 : g1 6 = .pointer (some ⟨w.heap.size, 0, none⟩) := hg 6 (by decide)
    obtain ⟨v2, e2⟩ : ∃ v, v = g1 2 := ⟨_, rfl⟩
    obtain ⟨v5, e5⟩ : ∃ v, v = g1 5 := ⟨_, rfl⟩
    rw [h6]
    rw [← e2] at h2 ⊢
    rw [← e5] at h5 ⊢
    have H2 := Lib.hid h2
    have H5 := Lib.hid h5
    obtain ⟨A2, c2, rfl⟩ := h2.slice
    obtain ⟨A5, c5, rfl⟩ := h5.slice
    have HU : Hid (Ext w1 u) := Ext.trans (Ext.drew w1) hu
    have hb1 := ext_heap HU.out HBX.out
    have hb2 := ext_heap HU.out HRX.out
    have q0 := cell_of hb1 (k := 0) rfl
    have q1 := cell_of hb1 (k := 1) rfl
    have q2 := cell_of hb1 (k := 2) rfl
    have q3 := cell_of hb1 (k := 3) rfl
    have z0 := frozen_four hb1 (j := 0)
    have z3 := frozen_four hb1 (j := 3)
    have r0 := cell_of hb2 (k := 0) rfl
    have r1 := cell_of hb2 (k := 1) rfl
    have r2 := cell_of hb2 (k := 2) rfl
    have r3 := cell_of hb2 (k := 3) rfl
    have y0 := frozen_four hb2 (j := 0)
    have y1 := frozen_four hb2 (j := 1)
    have y2 := frozen_four hb2 (j := 2)
    have y3 := frozen_four hb2 (j := 3)
    have HB2 := Lib.hid hb2
    clear h2 h5 h6 e2 e5 hb1 hb2 hg hu c0 c3
    go_wp2_with fail
    have n1 : w.heap.size < w1.heap.size := by have := HZ1.out; omega
    have n2 : w.heap.size + 1 < w1.heap.size := by have := HZ1.out; omega
    have n3 : w.heap.size ≤ w1.heap.size := Nat.le_of_lt n1
    have HUW := Ext.trans HX.out HU.out
    refine entry_ret1 (p := 2) (by kernel_rfl) rfl rfl (set_four (a := .slice none 0 0) (b := .int .i64 0) (c := .int .i64 0) (d := .slice none 0 0) ?_) ?_
    · rw [Below.heap_setCell _ _ _ _ (by simp), Below.heap_setCell _ _ _ _ (by simp)]; exact HB2.out
    · refine ⟨Below.setCell (Below.setCell (Below.setCell (Below.setCell (Below.setCell (Below.setCell HUW (Nat.le_refl _) _) (Nat.le_refl _) _) (Nat.le_succ _) _) (Nat.le_succ _) _) (Nat.le_succ _) _) (Nat.le_succ _) _, ⟨A2, c2, A5, c5⟩, rfl, ?_, ?_⟩
      · exact ((((((H2.out.far n1).far n1).far n2).far n2).far n2).far n2).base n3
      · exact ((((((H5.out.far n1).far n1).far n2).far n2).far n2).far n2).base n3
  case obl =>
    refine ⟨fun u hu hd => ?_, ?_⟩
    · go_simp
      exact ⟨Ext.refl _, rfl⟩
    refine ⟨fun u hu hd => ?_, ?_⟩
    · simp only [Act.put, List.setIfInBounds_toArray, List.set_cons_zero, List.set_cons_succ]
      have e0 : f 0 = (.pointer (some ⟨w.heap.size, 0, none⟩)) := hd 0 (by kernel_rfl)
      have q := ext_cell hu c0
      go_simp
      exact ⟨Ext.refl _, rfl⟩
    refine ⟨fun u hu hd => ?_, ?_⟩
    · simp only [Act.put, List.setIfInBounds_toArray, List.set_cons_zero, List.set_cons_succ]
      have e1 : f 1 = (.slice g.kA e.key.length g.kc) := hd 1 (by kernel_rfl)
      have hb := HM.out.k.below (Ext.trans HX.out (Ext.trans (Ext.drew w1) hu)) HHI.out
      refine clone_obl (x := .tmp 4) rfl rfl rfl rfl (by exact e1) hb HK.out (fun v w9 hx9 hown => hown.base (Ext.trans (Ext.drew w1) hu).size) (by kernel_rfl)
    refine ⟨fun u hu hd => ?_, ?_⟩
    · simp only [Act.put, List.setIfInBounds_toArray, List.set_cons_zero, List.set_cons_succ]
      go_simp
      exact ⟨Ext.refl _, rfl⟩
    refine ⟨fun u hu hd => ?_, ?_⟩
    · simp only [Act.put, List.setIfInBounds_toArray, List.set_cons_zero, List.set_cons_succ]
      have e3 : f 3 = (.pointer (some ⟨w.heap.size, 3, none⟩)) := hd 3 (by kernel_rfl)
      have q := ext_cell hu c3
      go_simp
      exact ⟨Ext.refl _, rfl⟩
    refine ⟨fun u hu hd => ?_, ?_⟩
    · simp only [Act.put, List.setIfInBounds_toArray, List.set_cons_zero, List.set_cons_succ]
      have e4 : f 4 = (.slice g.vA e.val.length g.vc) := hd 4 (by kernel_rfl)
      have hb := HM.out.v.below (Ext.trans HX.out (Ext.trans (Ext.drew w1) hu)) HHI.out
      refine clone_obl (x := .tmp 7) rfl rfl rfl rfl (by exact e4) hb HV.out (fun v w9 hx9 hown => hown.base (Ext.trans (Ext.drew w1) hu).size) (by kernel_rfl)
    refine ⟨fun u hu hd => ?_, ?_⟩
    · simp only [Act.put, List.setIfInBounds_toArray, List.set_cons_zero, List.set_cons_succ]
      go_simp
      exact ⟨Ext.refl _, rfl⟩
    trivial
end Go.Proofs.Ytbafmfdlbicadaa

/- From: over a block's entries whose keys are not below. -/
namespace Go.Proofs.Ytbafmfdlbicadaa
open Go.ChangeShapes Go.WideShapes Go.ChangeAt Go.RowKit Go.Shelf

theorem bcut_is {L : List Ent} {key : List Nat} {n : Nat} (hm : ∀ e ∈ L, e.seq ≤ 2147483647) (h : Cut L ⟨key, 2147483647, 0, []⟩ n) : n = cutOf (belowK key) L := by
  have h1 : ∀ e ∈ L, (cmpE e ⟨key, 2147483647, 0, []⟩ < 0 ↔ belowK key e = true) := fun e he => by
    have hs := hm e he
    unfold cmpE belowK
    rw [decide_eq_true_eq]
    split
    · rename_i h0
      unfold cmpS
      dsimp only at h0 ⊢
      rw [if_neg (by omega)]
      split <;> omega
    · exact Iff.rfl
  unfold cutOf
  have e1 : L = L.take n ++ L.drop n := (List.take_append_drop n L).symm
  have h2 : ∀ a ∈ L.take n, belowK key a = true := fun a ha => by
    obtain ⟨j, hj, rfl⟩ := List.getElem_of_mem ha
    rw [List.length_take] at hj
    rw [List.getElem_take]
    exact (h1 _ (List.getElem_mem _)).1 (h.lo j _ (by omega) (List.getElem?_eq_getElem (by omega)))
  have h3 : (L.drop n).takeWhile (belowK key) = [] := by
    rcases Nat.lt_or_ge n L.length with hn | hn
    · rw [List.drop_eq_getElem_cons hn, List.takeWhile_cons]
      have h4 := h.hi n _ (Nat.le_refl _) (List.getElem?_eq_getElem hn)
      have h5 : ¬ belowK key L[n] = true := fun hb => by have := (h1 _ (List.getElem_mem _)).2 hb; omega
      rw [if_neg h5]
    · rw [List.drop_eq_nil_of_le hn]; rfl
  conv => rhs; rw [e1]
  rw [List.takeWhile_append_of_pos h2, h3, List.append_nil, List.length_take]
  have := h.le
  omega

/-- What From answers: a function that goes over these. -/
def FromAns (w : World) (b key : List Nat) (x : Ending) (w' : World) : Prop :=
  Ext w w' ∧ ∃ (bd : Nat) (X : Option Addr) (c : Nat) (S : List (Ent × Hd)), x = .returned (.func (.func 48) #[] #[.pointer (some ⟨bd, 0, none⟩)]) ∧ Boxed w' bd 26 (.slice X S.length c) ∧ Es w' 0 w'.heap.size X S ∧ S.length ≤ 1024 ∧ (∀ p ∈ S, InE p.1) ∧
    ((∃ L, IsB b L ∧ S.map Prod.fst = L.drop (cutOf (belowK key) L)) ∨ ((∀ L, ¬ IsB b L) ∧ S = []))
/-- What Read answers, for From. -/
theorem ReadBAns.all {w w' : World} {b : List Nat} {x : Ending} (h : ReadBAns w b x w') : Ext w w' ∧ ∃ (R : List (Ent × Hd)) (A : Option Addr) (c : Nat) (k : Int), x = .returned (.tuple #[.slice A R.length c, .int .i64 k]) ∧ Got w.heap.size (.slice A R.length c) R w' ∧ R.length ≤ 1024 ∧ Rise (R.map Prod.fst) ∧ (∀ p ∈ R, InE p.1) ∧ (IsB b (R.map Prod.fst) ∨ ((∀ L, ¬ IsB b L) ∧ R = [])) := by
  obtain ⟨hx, (⟨R, A, c, his, rfl, hg⟩ | ⟨hno, rfl⟩)⟩ := h
  · refine ⟨hx, R, A, c, 0, rfl, hg, ?_, his.1.2.2.1, fun p hp => ⟨(hg.each p hp).good.bk, (hg.each p hp).good.bv, his.1.2.2.2 _ (List.mem_map_of_mem hp)⟩, .inl his⟩
    have := his.1.2.1; rw [List.length_map] at this; exact this
  · exact ⟨hx, [], none, 0, 4, rfl, Got.nil _ _, by simp, fun j a b h => by simp at h, fun p hp => (by cases hp), .inr ⟨hno, rfl⟩⟩

def CutV (L : List Ent) (key : List Nat) (v : Value) (_ : World) : Prop := ∃ n : Nat, Cut L ⟨key, 2147483647, 0, []⟩ n ∧ v = .int .i64 (n : Int)
theorem CutV.mono (L : List Ent) (key : List Nat) : Mono (CutV L key) := fun _ _ _ h _ => h
def CutS (L : List Ent) (key : List Nat) (X : Option Addr) (m c : Nat) (v : Value) (_ : World) : Prop := ∃ n : Nat, Cut L ⟨key, 2147483647, 0, []⟩ n ∧ v = .slice (if c = n then X else X.map (·.add (n * 4))) (m - n) (c - n)
theorem CutS.mono (L : List Ent) (key : List Nat) (X : Option Addr) (m c : Nat) : Mono (CutS L key X m c) := fun _ _ _ h _ => h

set_option maxRecDepth 100000 in
set_option maxHeartbeats 8000000 in
theorem bfrom_any {w : World} {lo hi lo2 hi2 kc : Nat} {v : Value} {kA : Option Addr} {b key : List Nat} (hv : Bs w lo hi v b) (hhi : hi ≤ w.heap.size) (hb : ∀ x ∈ b, x < 256) (hl : b.length ≤ 1000000000) (hk : Bs w lo2 hi2 (.slice kA key.length kc) key) (hhi2 : hi2 ≤ w.heap.size) (bk : ∀ x ∈ key, x < 256) :
    Calls Try.prog 29 #[v, .slice kA key.length kc] w (FromAns w b key) := by
  have HR := Lib.hid (bread_any hv hhi hb hl)
  have HK := Lib.hid hk
  have HH := Lib.hid hhi2
  have HBK := Lib.hid bk
  have hmf := mkf
  obtain ⟨A, c, rfl, _, _, _, _⟩ := hv
  clear hhi hb hl hk hhi2 bk
  go_enter Try.func29, Try.ntmps29
  go_wp2_with fail
  refine HR.out.mono ?_
  intro x w2 hra
  obtain ⟨hx2, R, X, cR, k, rfl, hgot, hrl, hri, hin, hor⟩ := hra.all
  obtain ⟨w3, hw3⟩ : ∃ w3, w3 = w2.alloc (.cells #[.slice X R.length cR] 26) := ⟨_, rfl⟩
  have HX3 : Hid (Ext w2 w3) := by rw [hw3]; exact ext_alloc _ _
  have HXW : Hid (Ext w w3) := Ext.trans hx2 HX3.out
  have HB3 : Hid (Boxed w3 w2.heap.size 26 (.slice X R.length cR)) := by rw [hw3]; exact heap_at _ _ rfl
  have HG3 := Lib.hid (hgot.below HX3.out)
  have HRL := Lib.hid hrl
  have HRI := Lib.hid hri
  have HIN := Lib.hid hin
  have HOR := Lib.hid hor
  have HLO : Hid (w.heap.size ≤ w2.heap.size) := hx2.size
  clear hx2 hgot hrl hri hin hor hra
  go_upto_region 2 with (fail)
  rw [← hw3]
  clear hw3
  have b0 := HB3.out.cell
  have HCAP := Lib.hid HG3.out.capd
  have HFI : Hid (∀ u, Ext w3 u → Calls Try.prog 44 #[.slice X R.length cR, .agg #[.slice kA key.length kc, .int .i64 2147483647, .int .i64 0, .slice none 0 0]] u fun e w' => ∃ n : Nat, Cut (R.map Prod.fst) ⟨key, 2147483647, 0, []⟩ n ∧ e = .returned (.int .i64 (n : Int)) ∧ Ext u w') := fun u hu =>
    first_any (c := cR) (x := ⟨key, 2147483647, 0, []⟩) (g := ⟨kA, kc, none, 0⟩) (lo2 := 0) (hi2 := u.heap.size) (HG3.out.below hu).rs (Nat.le_refl _) HRL.out HRI.out ⟨(HK.out.below (Ext.trans HXW.out hu) HH.out).wide (Nat.zero_le _) (Nat.le_trans HH.out (Ext.trans HXW.out hu).size), Bs.nil _ _ _, HBK.out, by simp, (by show (-9223372036854775808 : Int) ≤ 2147483647; decide), (by show (2147483647 : Int) ≤ 9223372036854775807; decide), (by show (-9223372036854775808 : Int) ≤ 0; decide), (by show (0 : Int) ≤ 9223372036854775807; decide)⟩ (Nat.le_refl _)
  refine flow_tail (by kernel_rfl) [Is (.slice X R.length cR), Is (.slice X R.length cR), Is (.slice kA key.length kc), Is (.agg #[.slice kA key.length kc, .int .i64 2147483647, .int .i64 0, .slice none 0 0]), CutV (R.map Prod.fst) key, CutS (R.map Prod.fst) key X R.length cR] 6 (by kernel_rfl) (by kernel_rfl) (by kernel_rfl) (by kernel_rfl) ?mono (fun f1 => ?obl) ?fin
  case mono =>
    simp only [List.forall_mem_cons, List.not_mem_nil, false_imp_iff, implies_true, and_true]
    exact ⟨.is _, .is _, .is _, .is _, CutV.mono _ _, CutS.mono _ _ _ _ _⟩
  case fin =>
    intro g1 u hu hg
    simp only [List.take_succ_cons, List.take_zero, List.drop_succ_cons, List.drop_zero, puts, Act.put, List.setIfInBounds_toArray, List.set_cons_zero, List.set_cons_succ]
    obtain ⟨n, hc, hn⟩ := (show CutS (R.map Prod.fst) key X R.length cR (g1 5) u from hg 5 (by decide))
    rw [hn]
    have hxu := Ext.trans (Ext.drew w3) hu
    have HXU : Hid (Ext w3 u) := hxu
    have HCU := Lib.hid hc
    have hb : Boxed u w2.heap.size 26 (.slice X R.length cR) := ext_heap hxu HB3.out
    have HBU := Lib.hid hb
    have q0 := hb.cell
    have q1 := hb.frozen
    obtain ⟨Y, hY⟩ : ∃ Y, Y = (if cR = n then X else X.map (·.add (n * 4))) := ⟨_, rfl⟩
    rw [← hY]
    have HY := Lib.hid hY
    clear hc hn hxu hu hg hb b0 hY
    go_wp2_with fail
    go_ret
    have hle : n ≤ R.length := by have := HCU.out.le; rw [List.length_map] at this; exact this
    have hes : Es u 0 u.heap.size Y (R.drop n) := by rw [HY.out]; exact (HG3.out.below HXU.out).rs.drop hle HCAP.out.1
    have hl : (R.drop n).length = R.length - n := List.length_drop ..
    have hcg : Chg (fun i => i = w2.heap.size) u (u.setCell ⟨w2.heap.size, 0, none⟩ (.slice Y (R.length - n) (cR - n))) := Chg.setCell _ _ _ rfl
    have hgot := (HG3.out.below HXU.out)
    refine ⟨Below.trans (Ext.trans HXW.out HXU.out) (hcg.below (fun i e => by have := HLO.out; omega) (Ext.trans HXW.out HXU.out).size), w2.heap.size, Y, cR - n, R.drop n, rfl, by rw [hl]; exact HBU.out.set _, ?_, by rw [hl]; have := HRL.out; omega, fun p hp => HIN.out p (List.mem_of_mem_drop hp), ?_⟩
    · have h2 := (hgot.keepS hcg (fun bb hbb e => blk_box HBU.out hgot bb hbb e)).rs.drop hle HCAP.out.1
      rw [← HY.out] at h2
      exact h2
    · rcases HOR.out with h | ⟨h, rfl⟩
      · refine .inl ⟨_, h, ?_⟩
        have := bcut_is (fun e he => by obtain ⟨p, hp, rfl⟩ := List.mem_map.1 he; exact (HIN.out p hp).s.2.2.2.1) HCU.out
        rw [← this, List.map_drop]
      · exact .inr ⟨h, by simp⟩
  case obl =>
    refine ⟨fun u hu hd => ?_, ?_⟩
    · have hu2 := Ext.trans (Ext.drew w3) hu
      have q0 := ext_cell hu2 b0
      go_simp
      exact ⟨Ext.refl _, rfl⟩
    refine ⟨fun u hu hd => ?_, ?_⟩
    · simp only [Act.put, List.setIfInBounds_toArray, List.set_cons_zero, List.set_cons_succ]
      have hu2 := Ext.trans (Ext.drew w3) hu
      have q0 := ext_cell hu2 b0
      go_simp
      exact ⟨Ext.refl _, rfl⟩
    refine ⟨fun u hu hd => ?_, ?_⟩
    · simp only [Act.put, List.setIfInBounds_toArray, List.set_cons_zero, List.set_cons_succ]
      go_simp
      exact ⟨Ext.refl _, rfl⟩
    refine ⟨fun u hu hd => ?_, ?_⟩
    · simp only [Act.put, List.setIfInBounds_toArray, List.set_cons_zero, List.set_cons_succ]
      have e2 : f1 2 = .slice kA key.length kc := hd 2 (by kernel_rfl)
      go_simp
      exact ⟨Ext.refl _, rfl⟩
    refine ⟨fun u hu hd => ?_, ?_⟩
    · simp only [Act.put, List.setIfInBounds_toArray, List.set_cons_zero, List.set_cons_succ]
      have e1 : f1 1 = .slice X R.length cR := hd 1 (by kernel_rfl)
      have e3 : f1 3 = .agg #[.slice kA key.length kc, .int .i64 2147483647, .int .i64 0, .slice none 0 0] := hd 3 (by kernel_rfl)
      have hu2 := Ext.trans (Ext.drew w3) hu
      go_simp
      refine (HFI.out _ hu2).mono ?_
      rintro y w9 ⟨n, hc, rfl, hx9⟩
      exact ⟨_, rfl, hx9, n, hc, rfl⟩
    refine ⟨fun u hu hd => ?_, ?_⟩
    · simp only [Act.put, List.setIfInBounds_toArray, List.set_cons_zero, List.set_cons_succ]
      have e0 : f1 0 = .slice X R.length cR := hd 0 (by kernel_rfl)
      obtain ⟨n, hc, hn⟩ := (show CutV (R.map Prod.fst) key (f1 4) u from hd 4 (by kernel_rfl))
      have HN := Lib.hid hc
      have hle : n ≤ R.length := by have := hc.le; rw [List.length_map] at this; exact this
      have hsl := eslice_from X R.length cR n hle HCAP.out.1
      rw [hn]
      clear hc hn
      go_simp
      exact ⟨Ext.refl _, n, HN.out, rfl⟩
    trivial
end Go.Proofs.Ytbafmfdlbicadaa

/- From's function: over entries, copies of them. -/
namespace Go.Proofs.Ytbafmfdlbicadaa
open Go.ChangeShapes Go.WideShapes Go.ChangeAt Go.RowKit Go.Shelf
attribute [local go_sem] Oper.semAt_some

theorem enters_from1 : ∀ args w, (callFunc 48 args).run Try.prog w = .ok (.enter 48 args) w := enters_of Try.func48 (by kernel_rfl) rfl
theorem Iter.ext {P : Program} {α : Type} {gf : Nat} {lb : Array Value} {len : Nat} {encs : α → Array Value} {Ok : Nat → Nat → α → World → Prop} {C : World → Prop} {w w' : World} (h : Iter P gf lb len encs Ok C w) (hx : Ext w w') : Iter P gf lb len encs Ok C w' :=
  fun m l J Jx W hW => h m l J Jx W (Ext.trans hx hW)
def rowV (x : Ent × Hd) : Array Value := #[x.1.at_ x.2]
/-- The k-th that is handed over: a copy, in memory of its own. -/
def CopOk (L : List Tw) (n₁ k : Nat) (x : Ent × Hd) (A : World) : Prop := ∃ t, L[k]? = some t ∧ x.1 = t.e ∧ Own n₁ x.1.key (.slice x.2.kA x.1.key.length x.2.kc) A ∧ Own n₁ x.1.val (.slice x.2.vA x.1.val.length x.2.vc) A
/-- These entries as that list. -/
def tws (S : List (Ent × Hd)) : List Tw := S.map fun p => ⟨p.1, 0, 0⟩
theorem tws_e (S : List (Ent × Hd)) : (tws S).map Tw.e = S.map Prod.fst := by unfold tws; rw [List.map_map]; rfl
/-- What stays. -/
def FrmC (w : World) (A : World) : Prop := ∀ k, k < w.heap.size → A.heap[k]? = w.heap[k]?

set_option maxRecDepth 100000 in
set_option maxHeartbeats 8000000 in
theorem from_iter {w : World} {bd c : Nat} {X : Option Addr} {S : List (Ent × Hd)} (hbd : Boxed w bd 26 (.slice X S.length c)) (h : Es w 0 w.heap.size X S) (hl : S.length ≤ 1024) (hin : ∀ p ∈ S, InE p.1) :
    Iter Try.prog 48 #[.pointer (some ⟨bd, 0, none⟩)] S.length rowV (CopOk (tws S)) (FrmC w) w := by
  intro mm lab J Jx W hx hC hJ hJx h0 hY
  have HBD := Lib.hid hbd
  have HE := Lib.hid h
  have HL := Lib.hid hl
  have HIN := Lib.hid hin
  have HC := Lib.hid hC
  have HJ := Lib.hid hJ
  have HJ0 := Lib.hid (h0 W (Ext.refl _))
  have HY := Lib.hid hY
  have HXW := Lib.hid hx
  have b0 : W.cell? ⟨bd, 0, none⟩ = _ := Boxed.cell (ext_heap hx hbd)
  clear hbd h hl hin hC hJ hJx h0 hY hx
  refine (callsIn_wide (n := 6)).1 ?_
  refine callsIn_of_wp Try.func48 rfl trivial ?_ rfl
  simp only [Try.ntmps48, List.size_toArray, List.length_cons, List.length_nil, Nat.reduceAdd, Nat.reduceSub, Array.replicate_succ, Array.replicate_zero, List.push_toArray, List.append_toArray, List.nil_append, List.cons_append]
  gi_wp2
  gi_loopw [7] (fun x wr => ∃ k : Nat, k ≤ S.length ∧ x = .int .i64 (k : Int) ∧ Hid (J W.heap.size k wr) ∧ Hid (Step W.heap.size W.heap.size W wr))
    (fun x _ => S.length - (intOf x).toNat)
  case atStart => exact ⟨0, Nat.zero_le _, rfl, HJ0, Step.refl _ _ _⟩
  case round =>
    obtain ⟨k, hk, rfl, HJK, HST⟩ := hrel
    by_cases hlt : k < S.length
    · have d : decide ((k : Int) < (S.length : Int)) = true := by rw [decide_eq_true_eq]; exact Int.ofNat_lt.2 hlt
      have dn : decide (k < S.length) = true := by rw [decide_eq_true_eq]; exact hlt
      have hfr := HC.out _ _ _ HJK.out
      have HEr : Hid (Es wr 0 w.heap.size X S) := HE.out.keep fun p _ hp => World.cell?_of_block (hfr p.block hp)
      obtain ⟨p, hp⟩ : ∃ p, S[k]? = some p := ⟨_, List.getElem?_eq_getElem hlt⟩
      obtain ⟨b, o, rfl⟩ := HE.out.base (by omega)
      obtain ⟨c0, c1, c2, c3⟩ := HEr.out.get hp
      have n1 : (0 : Int) ≤ (k : Int) := Int.natCast_nonneg _
      have n2 : (k : Int) < (S.length : Int) := Int.ofNat_lt.2 hlt
      have HP := Lib.hid hp
      have HLT := Lib.hid hlt
      have HIP := Lib.hid (HIN.out p (List.mem_of_getElem? hp))
      obtain ⟨w4, hw4⟩ : ∃ w4, w4 = wr.alloc (.cells #[.slice p.2.kA p.1.key.length p.2.kc, .int .i64 p.1.seq, .int .i64 p.1.kind, .slice p.2.vA p.1.val.length p.2.vc] 46) := ⟨_, rfl⟩
      have HX4 : Hid (Ext wr w4) := by rw [hw4]; exact ext_alloc _ _
      have HE4 : Hid (w4.heap[wr.heap.size]? = some (.cells #[.slice p.2.kA p.1.key.length p.2.kc, .int .i64 p.1.seq, .int .i64 p.1.kind, .slice p.2.vA p.1.val.length p.2.vc] 46 (0, 0))) := by rw [hw4]; exact heap_at _ _ rfl
      have hwz : w.heap.size ≤ wr.heap.size := Nat.le_trans HXW.out.size HST.out.size
      have HCY := Lib.hid (copy_any (w := w4) (lo := 0) (hi := w.heap.size) (e := p.1) (g := p.2) ((HEr.out.each p (List.mem_of_getElem? hp)).below HX4.out hwz) (Nat.le_trans hwz HX4.out.size) (by have := HIP.out.s; omega) (by have := HIP.out.s; omega))
      have e0 := cell_of HE4.out (k := 0) rfl
      have e1 := cell_of HE4.out (k := 1) rfl
      have e2 := cell_of HE4.out (k := 2) rfl
      have e3 := cell_of HE4.out (k := 3) rfl
      unfold Ent.at_ at HCY
      clear hfr hlt hp hwz hk
      refine wpIn_wide.2 ?_
      go_upto_region 3 with (fail)
      rw [← hw4]
      clear hw4 c0 c1 c2 c3
      refine (wpIn_wide (n := 6)).1 ?_
      gi_wp2
      refine ⟨trivial, (callsIn_wide.2 HCY.out).mono ?_⟩
      rintro e A3 ⟨hx3, g3, rfl, ok, ov⟩
      have HX3 : Hid (Ext wr A3) := Ext.trans HX4.out hx3
      have hj1 := HJ.out _ _ _ _ (Nat.le_refl _) HJK.out (Chg.of_ext HX3.out)
      have hz4 : W.heap.size ≤ w4.heap.size := Nat.le_trans HST.out.size HX4.out.size
      obtain ⟨fn, tmps, assign, body, hy, hR⟩ := HY.out W.heap.size k (p.1, g3) A3 (Nat.le_refl _) (Nat.le_trans HST.out.size HX3.out.size) hj1 HLT.out ⟨⟨p.1, 0, 0⟩, by unfold tws; rw [List.getElem?_map, HP.out]; rfl, rfl, ok.base hz4, ov.base hz4⟩
      dsimp only [rowV, Ent.at_] at hy
      unfold Ent.at_
      have HR := Lib.hid (roundIn_any (m' := 5) hR)
      have hw1 := wrap_succ (n := k) (by have := HL.out; have := HLT.out; omega)
      have HW1 := Lib.hid hw1
      clear hR hj1 hz4 hx3 ok ov e0 e1 e2 e3 hw1
      gi_wp2
      refine RoundIn.mono HR.out ?_
      rintro e W3 ⟨hst, (⟨rfl, hj⟩ | ⟨rfl, hjx⟩)⟩
      · have HST3 := Lib.hid ((HST.out.trans (Step.of_chg (S := fun _ => False) (Chg.of_ext HX3.out) HST.out.size (fun _ _ _ h => h))).trans hst)
        have HJ3 := Lib.hid hj
        clear hst hj hy
        gi_wp2
        go_wp2_with fail
        refine ⟨⟨k + 1, HLT.out, by rw [HW1.out], HJ3, HST3⟩, ?_⟩
        rw [HW1.out]
        have := HLT.out
        simp [intOf]; omega
      · have HX9 := Lib.hid hjx
        clear hst hjx hy
        gi_wp2
        go_wp2_with fail
        refine bodyPost_ret (results_none rfl _ _ _) rfl ?_
        exact ⟨⟨_, rfl⟩, .inr HX9.out⟩
    · have d : decide ((k : Int) < (S.length : Int)) = false := by rw [decide_eq_false_iff_not]; exact fun h => hlt (Int.ofNat_lt.1 h)
      have dn : decide (k < S.length) = false := by rw [decide_eq_false_iff_not]; exact hlt
      have HLT : Hid (k = S.length) := by unfold Hid; omega
      clear hlt hk
      gi_wp2
      refine ⟨rfl, _, results_none rfl _ _ _, ⟨_, rfl⟩, .inl ⟨W.heap.size, Nat.le_refl _, ?_⟩⟩
      rw [← HLT.out]
      exact HJK.out
end Go.Proofs.Ytbafmfdlbicadaa

/- goes: a law goes over entries. -/
namespace Go.Proofs.Ytbafmfdlbicadaa
open Go.ChangeShapes Go.WideShapes Go.ChangeAt Go.RowKit Go.Shelf
attribute [local go_sem] Oper.semAt_some

theorem from_some (g : Nat) (w : World) : (binOp .eql 57 (.func (.func 48) #[] #[.pointer (some ⟨g, 0, none⟩)]) .nilFunc).run Try.prog w = .ok (.bool false) w := by kernel_rfl
/-- Between two rounds. -/
structure GoesI (w : World) (X : Option Addr) (N c : Nat) (most : Int) (n₁ k : Nat) (A : World) : Prop where
  below : Below w.heap.size w A
  num : Boxed A (w.heap.size + 3) 3 (.int .i64 (k : Int))
  res : Boxed A (w.heap.size + 2) 4 (.bool false)
  most : Boxed A (w.heap.size + 1) 3 (.int .i64 most)
  want : Boxed A w.heap.size 26 (.slice X N c)
  z1 : n₁ ≤ A.heap.size

set_option maxRecDepth 100000 in
set_option maxHeartbeats 8000000 in
theorem goes_any {w : World} {bd lo2 hi2 c2 : Nat} {X : Option Addr} {L2 : List (Ent × Hd)} {L : List Tw} {C : World → Prop} {most : Int} (hseq : Iter Try.prog 48 #[.pointer (some ⟨bd, 0, none⟩)] L.length rowV (CopOk L) C w) (hC : ∀ A, Below w.heap.size w A → C A) (hins : ∀ t ∈ L, InE t.e)
    (h2 : Es w lo2 hi2 X L2) (hhi2 : hi2 ≤ w.heap.size) (hl2 : L2.length ≤ 1000000000000) (hfit : L.map Tw.e = L2.map Prod.fst) :
    Calls Try.prog 28 #[.func (.func 48) #[] #[.pointer (some ⟨bd, 0, none⟩)], .slice X L2.length c2, .int .i64 most] w fun e w' => e = .returned (.bool true) ∧ Below w.heap.size w w' := by
  obtain ⟨w1, hw1⟩ : ∃ w1, w1 = (((w.alloc (.cells #[.slice X L2.length c2] 26)).alloc (.cells #[.int .i64 most] 3)).alloc (.cells #[.bool false] 4)).alloc (.cells #[.int .i64 0] 3) := ⟨_, rfl⟩
  have HX1 : Hid (Ext w w1) := by rw [hw1]; exact Ext.trans (Ext.trans (Ext.trans (ext_alloc _ _) (ext_alloc _ _)) (ext_alloc _ _)) (ext_alloc _ _)
  have HZ1 : Hid (w1.heap.size = w.heap.size + 4) := by rw [hw1]; simp [Hid]
  have HB0 : Hid (Boxed w1 w.heap.size 26 (.slice X L2.length c2)) := by rw [hw1]; exact ext_heap (Ext.trans (Ext.trans (ext_alloc _ _) (ext_alloc _ _)) (ext_alloc _ _)) (heap_at _ _ rfl)
  have HB1 : Hid (Boxed w1 (w.heap.size + 1) 3 (.int .i64 most)) := by rw [hw1]; exact ext_heap (Ext.trans (ext_alloc _ _) (ext_alloc _ _)) (heap_at _ _ (by simp))
  have HB2 : Hid (Boxed w1 (w.heap.size + 2) 4 (.bool false)) := by rw [hw1]; exact ext_heap (ext_alloc _ _) (heap_at _ _ (by simp))
  have HB3 : Hid (Boxed w1 (w.heap.size + 3) 3 (.int .i64 0)) := by rw [hw1]; exact heap_at _ _ (by simp)
  have HSEQ := Lib.hid hseq
  have HC := Lib.hid hC
  have HINS := Lib.hid hins
  have HE2 := Lib.hid h2
  have HHI2 := Lib.hid hhi2
  have HL2 := Lib.hid hl2
  have HFIT := Lib.hid hfit
  have hlen : L.length = L2.length := by have := congrArg List.length hfit; simpa using this
  have HLEN := Lib.hid hlen
  have hlI : (L2.length : Int) ≤ 1000000000000 := by omega
  have hfn := from_some bd
  clear hseq hC hins h2 hhi2 hl2 hfit hlen
  have hf2 : Fence.wide.fn 26 := trivial
  refine (callsIn_wide (n := 6)).1 ?_
  refine callsIn_of_wp_marks Try.func28 rfl trivial ?_
  simp only [Try.ntmps28, List.size_toArray, List.length_cons, List.length_nil, Nat.reduceAdd, Nat.reduceSub, Array.replicate_succ, Array.replicate_zero, List.push_toArray, List.append_toArray, List.nil_append, List.cons_append]
  gi_wp2_with fail
  rw [← hw1]
  clear hw1 hfn
  refine wpIn_over rfl enters_from1 (Iter.ext HSEQ.out HX1.out) (fun _ => rfl) (GoesI w X L2.length c2 most) (fun c A => c = .ret ∧ Boxed A (w.heap.size + 2) 4 (.bool true) ∧ Below w.heap.size w A) (fun _ _ _ h => HC.out _ h.below) ?hI ?hIx ?h0 ?round ?done ?stop
  case hI =>
    intro n₁ k A1 A2 hn hi hc
    have z1 := HZ1.out
    exact ⟨hi.below.trans (hc.below (fun i hb => by have := hb.1; omega) hi.below.size), boxed_chg hi.num hc (fun hb => by have := hb.1; omega), boxed_chg hi.res hc (fun hb => by have := hb.1; omega),
      boxed_chg hi.most hc (fun hb => by have := hb.1; omega), boxed_chg hi.want hc (fun hb => by have := hb.1; omega), Nat.le_trans hi.z1 hc.size⟩
  case hIx =>
    rintro c A1 A2 ⟨rfl, hb, hbl⟩ hc
    have z1 := HZ1.out
    exact ⟨rfl, boxed_chg hb hc (fun h => by have h : w1.heap.size ≤ _ := h; omega), hbl.trans (hc.below (fun i h => by have h : w1.heap.size ≤ i := h; omega) hbl.size)⟩
  case h0 =>
    intro A1 hx
    exact ⟨Ext.trans HX1.out hx, ext_heap hx HB3.out, ext_heap hx HB2.out, ext_heap hx HB1.out, ext_heap hx HB0.out, Nat.le_refl _⟩
  case round =>
    rintro l2 n₁ k ⟨e, g⟩ A1 hl1 hl2 hn hnA hi hk ⟨p, hp, he, hmk, hmv⟩
    have he' : e = p.e := he
    subst he'
    have HINE := Lib.hid (HINS.out p (List.mem_of_getElem? hp))
    have HMK := Lib.hid hmk
    have HMV := Lib.hid hmv
    have HI1 := Lib.hid hi
    have HN1 := Lib.hid hn
    have HL12 := Lib.hid (And.intro hl1 hl2)
    have HK1 := Lib.hid hk
    obtain ⟨q, hq⟩ : ∃ q, L2[k]? = some q := ⟨_, List.getElem?_eq_getElem (by have := HLEN.out; omega)⟩
    have heq : p.e = q.1 := by
      have h1 := congrArg (fun l => l[k]?) HFIT.out
      simp only [List.getElem?_map, hp, hq, Option.map_some] at h1
      injection h1 with h1
    have HQ := Lib.hid hq
    have HEQ := Lib.hid heq
    obtain ⟨e, he⟩ : ∃ e, e = p.e := ⟨_, rfl⟩
    rw [← he] at HINE HMK HMV HEQ ⊢
    clear hl1 hl2 hn hnA hi hk hp hmk hmv hq heq he
    dsimp only at HMK HMV
    dsimp only [rowV, Ent.at_]
    gi_wp2
    obtain ⟨A2, hA2⟩ : ∃ A2, A2 = A1.alloc (.cells #[.slice g.kA e.key.length g.kc, .int .i64 e.seq, .int .i64 e.kind, .slice g.vA e.val.length g.vc] 46) := ⟨_, rfl⟩
    rw [← hA2]
    have HX2 : Hid (Ext A1 A2) := by rw [hA2]; exact ext_alloc _ _
    have HBE : Hid (A2.heap[A1.heap.size]? = some (.cells #[.slice g.kA e.key.length g.kc, .int .i64 e.seq, .int .i64 e.kind, .slice g.vA e.val.length g.vc] 46 (0, 0))) := by rw [hA2]; exact heap_at _ _ rfl
    clear hA2
    refine ⟨Step.of_chg (S := fun _ => False) (Chg.of_ext HX2.out) HI1.out.z1 (fun _ _ _ h => h), fun A3 hc => ?_⟩
    have HCH : Hid (Chg (fun i => i = l2) A1 A3) := (Chg.of_ext HX2.out).trans hc
    have HI3 : Hid (GoesI w X L2.length c2 most n₁ k A3) := by
      have hi := HI1.out
      have h12 := HL12.out
      have hc := HCH.out
      have z1 := HZ1.out
      exact ⟨hi.below.trans (hc.below (fun i hb => by omega) hi.below.size), boxed_chg hi.num hc (fun hb => by omega), boxed_chg hi.res hc (fun hb => by omega),
        boxed_chg hi.most hc (fun hb => by omega), boxed_chg hi.want hc (fun hb => by omega), Nat.le_trans hi.z1 hc.size⟩
    have HM3 : Hid (Em A3 0 A3.heap.size e g) := by
      obtain ⟨a1, a2, a3, a4, a5⟩ := HINE.out.s
      have k3 : Own n₁ e.key (.slice g.kA e.key.length g.kc) A3 := row_chg HMK.out HCH.out (fun i h1 h2 => by have := HL12.out.2; omega)
      have v3 : Own n₁ e.val (.slice g.vA e.val.length g.vc) A3 := row_chg HMV.out HCH.out (fun i h1 h2 => by have := HL12.out.2; omega)
      exact k3.em v3 HINE.out.bk HINE.out.bv (by omega) (by omega) (by rcases a5 with ⟨a, _⟩ | ⟨a, _⟩ <;> omega) (by rcases a5 with ⟨a, _⟩ | ⟨a, _⟩ <;> omega)
    have HB3' : Hid (A3.heap[A1.heap.size]? = some (.cells #[.slice g.kA e.key.length g.kc, .int .i64 e.seq, .int .i64 e.kind, .slice g.vA e.val.length g.vc] 46 (0, 0))) :=
      (hc.block _ (Array.getElem?_eq_some_iff.1 HBE.out).1 (fun e => by have := HI1.out.z1; have := HL12.out.2; omega)).trans HBE.out
    have HE3 := Lib.hid (HE2.out.below HI3.out.below HHI2.out)
    obtain ⟨b, o, rfl⟩ := HE3.out.base (by have := (List.getElem?_eq_some_iff.1 HQ.out).1; omega)
    obtain ⟨d0, d1, d2, d3⟩ := HE3.out.get HQ.out
    have HRS : Hid (∀ u, Ext A3 u → Calls Try.prog 26 #[.agg #[.slice g.kA e.key.length g.kc, .int .i64 e.seq, .int .i64 e.kind, .slice g.vA e.val.length g.vc], .agg #[.slice q.2.kA q.1.key.length q.2.kc, .int .i64 q.1.seq, .int .i64 q.1.kind, .slice q.2.vA q.1.val.length q.2.vc]] u fun x w' => x = .returned (.bool true) ∧ Ext u w') := fun u hu => by
      refine (rsame_any (HM3.out.below hu (Nat.le_refl _)) (((HE3.out.below hu (Nat.le_trans HHI2.out HI3.out.below.size)).each q (List.mem_of_getElem? HQ.out))) hu.size (Nat.le_trans (Nat.le_trans HHI2.out HI3.out.below.size) hu.size)).mono ?_
      rintro x w' ⟨z, hz, rfl, hx⟩
      have : z = true := hz.2 HEQ.out
      subst this
      exact ⟨rfl, hx⟩
    have b0 := HI3.out.num.cell
    have f0 := HI3.out.num.frozen
    have b1 := HI3.out.want.cell
    have b2 := HI3.out.most.cell
    have e0 := cell_of HB3'.out (k := 0) rfl
    have e1 := cell_of HB3'.out (k := 1) rfl
    have e2 := cell_of HB3'.out (k := 2) rfl
    have e3 := cell_of HB3'.out (k := 3) rfl
    have hkl : k < L2.length := (List.getElem?_eq_some_iff.1 HQ.out).1
    have dk : decide ((L2.length : Int) ≤ (k : Int)) = false := by simp; omega
    have dkn : decide (L2.length ≤ k) = false := by simp; omega
    have n1 : (0 : Int) ≤ (k : Int) := by omega
    have n2 : (k : Int) < (L2.length : Int) := by omega
    have HKL := Lib.hid hkl
    have HMIX : Try.prog.follows .mixedOrders = true := by kernel_rfl
    clear hc hkl
    gi_wp2
    refine flow_in HMIX (by kernel_rfl) (fun _ _ h => h) [Is (.int .i64 (k : Int)), Is (.slice (some ⟨b, o, none⟩) L2.length c2), Is (.int .i64 (L2.length : Int)), Is (.bool false), Is (.bool false), Is (.agg #[.slice g.kA e.key.length g.kc, .int .i64 e.seq, .int .i64 e.kind, .slice g.vA e.val.length g.vc]), Is (.slice (some ⟨b, o, none⟩) L2.length c2), Is (.int .i64 (k : Int)), Is (.pointer (some ⟨b, o + k * 4, none⟩)), Is (.agg #[.slice q.2.kA q.1.key.length q.2.kc, .int .i64 q.1.seq, .int .i64 q.1.kind, .slice q.2.vA q.1.val.length q.2.vc]), Is (.bool true), Is (.bool false), Is (.bool false)] (by kernel_rfl) (by kernel_rfl) ?mono (fun f1 => ?obl) ?fin
    case mono =>
      simp only [List.forall_mem_cons, List.not_mem_nil, false_imp_iff, implies_true, and_true]
      exact ⟨.is _, .is _, .is _, .is _, .is _, .is _, .is _, .is _, .is _, .is _, .is _, .is _, .is _⟩
    case fin =>
      intro g1 u hu hg
      simp only [puts, Act.put, List.setIfInBounds_toArray, List.set_cons_zero, List.set_cons_succ]
      have h12 : g1 12 = .bool false := hg 12 (by decide)
      rw [h12]
      have HU : Hid (Ext A3 u) := Ext.trans (Ext.drew A3) hu
      have b0 := ext_cell HU.out b0
      have b2 := ext_cell HU.out b2
      have f0 : u.frozen? ⟨w.heap.size + 3, 0, none⟩ = false := Boxed.frozen (ext_heap HU.out HI3.out.num)
      have hres := ext_heap HU.out HI3.out.res
      have r0 := Boxed.cell hres
      have rf := Boxed.frozen hres
      have HRES := Lib.hid hres
      clear h12 hg hu e0 e1 e2 e3 d0 d1 d2 d3 hres
      have hi := HI3.out
      have hnum : Boxed u (w.heap.size + 3) 3 (.int .i64 (k : Int)) := ext_heap HU.out hi.num
      have HNUM := Lib.hid hnum
      clear hi hnum
      by_cases hm : (k : Int) + 1 = most
      · have dm : ((k : Int) + 1 == most) = true := by simpa using hm
        clear hm
        gi_wp2
        have hi := HI3.out
        have z1 := HZ1.out
        have hS : Chg (fun i => i = w.heap.size + 3 ∨ i = w.heap.size + 2) A3 ((u.setCell ⟨w.heap.size + 3, 0, none⟩ (.int .i64 ((k : Int) + 1))).setCell ⟨w.heap.size + 2, 0, none⟩ (.bool true)) := ((Chg.of_ext HU.out).trans (Chg.setCell _ _ _ (.inl rfl))).trans (Chg.setCell _ _ _ (.inr rfl))
        have hb2 : Boxed (u.setCell ⟨w.heap.size + 3, 0, none⟩ (.int .i64 ((k : Int) + 1))) (w.heap.size + 2) 4 (.bool false) := (Below.heap_setCell _ _ _ _ (by show w.heap.size + 2 ≠ w.heap.size + 3; omega)).trans HRES.out
        exact ⟨Step.of_chg hS hi.z1 (fun i h1 h2 h3 => by omega), rfl, hb2.set _, hi.below.trans (hS.below (fun i hb => by omega) hi.below.size)⟩
      · have dm : ((k : Int) + 1 == most) = false := by simpa using hm
        clear hm
        gi_wp2
        have hi := HI3.out
        have hS : Chg (fun i => i = w.heap.size + 3) A3 (u.setCell ⟨w.heap.size + 3, 0, none⟩ (.int .i64 ((k : Int) + 1))) := (Chg.of_ext HU.out).trans (Chg.setCell _ _ _ rfl)
        have z1 := HZ1.out
        exact ⟨Step.of_chg hS hi.z1 (fun i h1 h2 h3 => by omega), hi.below.trans (hS.below (fun i hb => by omega) hi.below.size), HNUM.out.set _, boxed_chg hi.res hS (fun hb => by omega),
          boxed_chg hi.most hS (fun hb => by omega), boxed_chg hi.want hS (fun hb => by omega), Nat.le_trans hi.z1 hS.size⟩
    case obl =>
      refine ⟨fun u hu hd => ?_, ?_⟩
      · have hu2 := Ext.trans (Ext.drew A3) hu
        have q1 := ext_cell hu2 b0
        go_simp
        exact ⟨Ext.refl _, rfl⟩
      refine ⟨fun u hu hd => ?_, ?_⟩
      · simp only [Act.put, List.setIfInBounds_toArray, List.set_cons_zero, List.set_cons_succ]
        have hu2 := Ext.trans (Ext.drew A3) hu
        have q1 := ext_cell hu2 b1
        go_simp
        exact ⟨Ext.refl _, rfl⟩
      refine ⟨fun u hu hd => ?_, ?_⟩
      · simp only [Act.put, List.setIfInBounds_toArray, List.set_cons_zero, List.set_cons_succ]
        have e1 : f1 1 = (.slice (some ⟨b, o, none⟩) L2.length c2) := hd 1 (by kernel_rfl)
        go_simp
        exact ⟨Ext.refl _, rfl⟩
      refine ⟨fun u hu hd => ?_, ?_⟩
      · simp only [Act.put, List.setIfInBounds_toArray, List.set_cons_zero, List.set_cons_succ]
        have e0 : f1 0 = (.int .i64 (k : Int)) := hd 0 (by kernel_rfl)
        have e2 : f1 2 = (.int .i64 (L2.length : Int)) := hd 2 (by kernel_rfl)
        go_simp
        exact ⟨Ext.refl _, rfl⟩
      refine ⟨fun u hu hd => ?_, ?_⟩
      · simp only [Act.put, List.setIfInBounds_toArray, List.set_cons_zero, List.set_cons_succ]
        have e3 : f1 3 = (.bool false) := hd 3 (by kernel_rfl)
        go_simp
        exact ⟨Ext.refl _, rfl⟩
      refine ⟨fun u hu hd => ?_, ?_⟩
      · simp only [Act.put, List.setIfInBounds_toArray, List.set_cons_zero, List.set_cons_succ]
        have e4' : f1 4 = .bool false := hd 4 (by kernel_rfl)
        have hu2 := Ext.trans (Ext.drew A3) hu
        have q0 := ext_cell hu2 e0
        have q1 := ext_cell hu2 e1
        have q2 := ext_cell hu2 e2
        have q3 := ext_cell hu2 e3
        go_simp
        exact ⟨Ext.refl _, rfl⟩
      refine ⟨fun u hu hd => ?_, ?_⟩
      · simp only [Act.put, List.setIfInBounds_toArray, List.set_cons_zero, List.set_cons_succ]
        have e4' : f1 4 = .bool false := hd 4 (by kernel_rfl)
        have hu2 := Ext.trans (Ext.drew A3) hu
        have q1 := ext_cell hu2 b1
        go_simp
        exact ⟨Ext.refl _, rfl⟩
      refine ⟨fun u hu hd => ?_, ?_⟩
      · simp only [Act.put, List.setIfInBounds_toArray, List.set_cons_zero, List.set_cons_succ]
        have e4' : f1 4 = .bool false := hd 4 (by kernel_rfl)
        have hu2 := Ext.trans (Ext.drew A3) hu
        have q1 := ext_cell hu2 b0
        go_simp
        exact ⟨Ext.refl _, rfl⟩
      refine ⟨fun u hu hd => ?_, ?_⟩
      · simp only [Act.put, List.setIfInBounds_toArray, List.set_cons_zero, List.set_cons_succ]
        have e4' : f1 4 = .bool false := hd 4 (by kernel_rfl)
        have e6 : f1 6 = (.slice (some ⟨b, o, none⟩) L2.length c2) := hd 6 (by kernel_rfl)
        have e7 : f1 7 = (.int .i64 (k : Int)) := hd 7 (by kernel_rfl)
        go_simp
        exact ⟨Ext.refl _, rfl⟩
      refine ⟨fun u hu hd => ?_, ?_⟩
      · simp only [Act.put, List.setIfInBounds_toArray, List.set_cons_zero, List.set_cons_succ]
        have e4' : f1 4 = .bool false := hd 4 (by kernel_rfl)
        have e8 : f1 8 = (.pointer (some ⟨b, o + k * 4, none⟩)) := hd 8 (by kernel_rfl)
        have hu2 := Ext.trans (Ext.drew A3) hu
        have q0 := ext_cell hu2 d0
        have q1 := ext_cell hu2 d1
        have q2 := ext_cell hu2 d2
        have q3 := ext_cell hu2 d3
        go_simp
        exact ⟨Ext.refl _, rfl⟩
      refine ⟨fun u hu hd => ?_, ?_⟩
      · simp only [Act.put, List.setIfInBounds_toArray, List.set_cons_zero, List.set_cons_succ]
        have e4' : f1 4 = .bool false := hd 4 (by kernel_rfl)
        have e5 : f1 5 = (.agg #[.slice g.kA e.key.length g.kc, .int .i64 e.seq, .int .i64 e.kind, .slice g.vA e.val.length g.vc]) := hd 5 (by kernel_rfl)
        have e9 : f1 9 = (.agg #[.slice q.2.kA q.1.key.length q.2.kc, .int .i64 q.1.seq, .int .i64 q.1.kind, .slice q.2.vA q.1.val.length q.2.vc]) := hd 9 (by kernel_rfl)
        have hu2 := Ext.trans (Ext.drew A3) hu
        go_simp
        refine (HRS.out u hu2).mono ?_
        rintro x w9 ⟨rfl, hx9⟩
        exact ⟨_, rfl, hx9, rfl⟩
      refine ⟨fun u hu hd => ?_, ?_⟩
      · simp only [Act.put, List.setIfInBounds_toArray, List.set_cons_zero, List.set_cons_succ]
        have e4' : f1 4 = .bool false := hd 4 (by kernel_rfl)
        have e10 : f1 10 = (.bool true) := hd 10 (by kernel_rfl)
        go_simp
        exact ⟨Ext.refl _, rfl⟩
      refine ⟨fun u hu hd => ?_, ?_⟩
      · simp only [Act.put, List.setIfInBounds_toArray, List.set_cons_zero, List.set_cons_succ]
        have e4' : f1 4 = .bool false := hd 4 (by kernel_rfl)
        have e11 : f1 11 = (.bool false) := hd 11 (by kernel_rfl)
        go_simp
        exact ⟨Ext.refl _, rfl⟩
      trivial
  case done =>
    rintro D' n₁ W' hDl hDn hn hi hD
    rw [HLEN.out] at hi
    have HDL := Lib.hid (And.intro hDl hDn)
    have HDD := Lib.hid hD
    have HI := Lib.hid hi
    have q0 := hi.num.cell
    have q1 := hi.want.cell
    have q2 := hi.res.cell
    have f2 := hi.res.frozen
    clear hDl hDn hn hi hD
    gi_wp2
    have hne : D' ≠ w.heap.size + 2 := by have h1 := HDL.out; have h2 := HZ1.out; omega
    have HD2 : Hid ((W'.setCell ⟨w.heap.size + 2, 0, none⟩ (.bool true)).heap[D']? = some (.deferred (some []))) := (Below.heap_setCell _ _ _ _ hne).trans HDD.out
    have HBR : Hid (Boxed (W'.setCell ⟨w.heap.size + 2, 0, none⟩ (.bool true)) (w.heap.size + 2) 4 (.bool true)) := HI.out.res.set _
    have HBW : Hid (Below w.heap.size w (W'.setCell ⟨w.heap.size + 2, 0, none⟩ (.bool true))) := Below.setCell HI.out.below (show w.heap.size ≤ w.heap.size + 2 by omega) _
    refine ⟨by simp, .inl ⟨_, _, rfl, run_takeDeferred HD2.out, ?_⟩⟩
    refine ⟨_, results_cell_bool Try.results28 _ _ (w.heap.size + 2) true rfl (Boxed.cell (boxed_chg HBR.out (putObj_chg _ D' _) (fun e => hne e.symm))), ⟨rfl, ?_⟩⟩
    exact HBW.out.trans ((putObj_chg _ D' _).below (fun i e => by have h1 := HDL.out; have h2 := HZ1.out; omega) HBW.out.size)
  case stop =>
    rintro D' c W' hDl ⟨rfl, hbr, hbl⟩ hD
    have HDL := Lib.hid hDl
    have HBR := Lib.hid hbr
    have HBW := Lib.hid hbl
    have HDD := Lib.hid hD
    clear hDl hbr hbl hD
    gi_wp2
    have hne : D' ≠ w.heap.size + 2 := by have h1 := HDL.out; have h2 := HZ1.out; omega
    refine ⟨by simp, .inl ⟨_, _, rfl, run_takeDeferred HDD.out, ?_⟩⟩
    refine ⟨_, results_cell_bool Try.results28 _ _ (w.heap.size + 2) true rfl (Boxed.cell (boxed_chg HBR.out (putObj_chg _ D' _) (fun e => hne e.symm))), ⟨rfl, ?_⟩⟩
    exact HBW.out.trans ((putObj_chg _ D' _).below (fun i e => by have h1 := HDL.out; have h2 := HZ1.out; omega) HBW.out.size)
end Go.Proofs.Ytbafmfdlbicadaa
