/- Srlev, joined. -/
import Derived.Test.YtpfaoiickmpmjaaDoorMb8
import Derived.Test.YtpfaoiickmpmjaaDoorMb10

/- The reference's From and Level. -/
namespace Go.Proofs.YtpfaoiickmpmjaaDoor
open Go.ChangeShapes Go.WideShapes Go.ChangeAt Go.RowKit

set_option maxRecDepth 100000 in
set_option maxHeartbeats 4000000 in
theorem rfrom_any {w : World} {lo hi lo2 hi2 : Nat} {A : Option Addr} {c : Nat} {R : List (Ent × Hd)} {v : Value} {key : List Nat} (h : Es w lo hi A R) (hhi : hi ≤ w.heap.size) (hc : R.length ≤ c) (hlen : R.length ≤ 1000000) (hkl : ∀ p ∈ R, p.1.key.length ≤ 140737488351232)
    (hk : Bs w lo2 hi2 v key) (hhi2 : hi2 ≤ w.heap.size) (bk : ∀ x ∈ key, x < 256) (hl : key.length ≤ 140737488351232) :
    Calls Tryd.prog 24 #[.slice A R.length c, v] w fun e w' => ∃ (X : Option Addr) (d : Nat), e = .returned (.slice X (R.drop (cutOf (belowK key) (R.map Prod.fst))).length d) ∧ Es w lo hi X (R.drop (cutOf (belowK key) (R.map Prod.fst))) ∧ Ext w w' := by
  have HE := Lib.hid h
  have HHI := Lib.hid hhi
  have HC := Lib.hid hc
  have HK := Lib.hid hk
  have HHI2 := Lib.hid hhi2
  have HBK := Lib.hid bk
  have HL := Lib.hid hl
  have HKL := Lib.hid hkl
  have hlI : (R.length : Int) ≤ 1000000 := by omega
  clear h hhi hc hk hhi2 bk hl hkl
  go_enter Tryd.func24, Tryd.ntmps24
  go_wp2_with fail
  go_loopw [5] (fun i wr => ∃ k : Nat, k ≤ R.length ∧ i = .int .i64 (k : Int) ∧ Hid (∀ j e, j < k → (R.map Prod.fst)[j]? = some e → belowK key e = true) ∧ Hid (Ext w wr)) (fun i _ => R.length - (intOf i).toNat)
  case atStart => exact ⟨0, Nat.zero_le _, rfl, Lib.hid (fun j _ hj => by omega), Lib.hid (Ext.refl _)⟩
  case round =>
    obtain ⟨k, hk, rfl, HJ, HX⟩ := hrel
    by_cases hlt : k < R.length
    · have d : decide ((k : Int) < (R.length : Int)) = true := decide_eq_true (by omega)
      have dn : decide (k < R.length) = true := decide_eq_true hlt
      obtain ⟨b, o, hA⟩ := HE.out.base (by omega)
      obtain ⟨X, hX⟩ : ∃ X : Option Addr, X = if c = k then A else Option.map (fun q : Addr => q.add (k * 4)) A := ⟨_, rfl⟩
      have HS := Lib.hid (fun W => eslice_from A R.length c k hk HC.out W)
      rw [← hX] at HS
      have HEX : Hid (Es w lo hi X (R.drop k)) := by rw [hX]; exact HE.out.drop hk HC.out
      subst hA
      clear hX
      obtain ⟨p, hp⟩ : ∃ p, R[k]? = some p := ⟨_, List.getElem?_eq_getElem hlt⟩
      obtain ⟨c0, c1, c2, c3⟩ := (HE.out.below HX.out HHI.out).get hp
      have HP := Lib.hid hp
      have n1 : (0 : Int) ≤ (k : Int) := by omega
      have n2 : (k : Int) < (R.length : Int) := by omega
      have HLT := Lib.hid hlt
      have hem := (HE.out.below HX.out HHI.out).each p (List.mem_of_getElem? hp)
      have HCM := Lib.hid (rkeys_any hem.k (HK.out.below HX.out HHI2.out) hem.bk HBK.out (Nat.le_trans HHI.out HX.out.size) (Nat.le_trans HHI2.out HX.out.size) (HKL.out p (List.mem_of_getElem? hp)) HL.out)
      obtain ⟨s, hs⟩ : ∃ s, s = cmpK p.1.key key := ⟨_, rfl⟩
      have HSS := Lib.hid hs
      rw [← hs] at HCM
      obtain ⟨y, hy⟩ : ∃ y, y = decide (0 ≤ s) := ⟨_, rfl⟩
      have HY := Lib.hid hy
      have hyn : decide (s < 0) = !y := by rw [hy]; by_cases h : s < 0 <;> simp [h] <;> omega
      have hys := hy.symm
      clear hp hlt hem hs hy
      go_wp2_with fail
      refine HCM.out.mono ?_
      rintro e w1 ⟨rfl, hx1⟩
      have HX1 : Hid (Ext w w1) := Ext.trans HX.out hx1
      clear hx1 HCM c0 c1 c2 c3
      cases y with
      | true =>
        have HCUT : Hid (cutOf (belowK key) (R.map Prod.fst) = k) := cut_is (by rw [List.length_map]; omega) HJ.out (fun e he => by
          rw [List.getElem?_map, HP.out] at he; injection he with he; subst he
          unfold belowK; rw [← HSS.out]; exact decide_eq_false (by have := of_decide_eq_true hys; omega))
        have hsl := HS.out
        clear hyn
        go_wp2_with fail
        go_ret
        refine ⟨X, c - k, ?_, ?_, HX1.out⟩
        · rw [HCUT.out, List.length_drop]; rfl
        · rw [HCUT.out]; exact HEX.out
      | false =>
        go_wp2_with fail
        go_roundw
        case rel =>
          refine ⟨k + 1, by have := HLT.out; omega, by go_num, Lib.hid (fun j e hj he => ?_), HX1⟩
          by_cases hjk : j = k
          · subst hjk
            rw [List.getElem?_map, HP.out] at he; injection he with he; subst he
            unfold belowK; rw [← HSS.out]; exact decide_eq_true (by have := of_decide_eq_false hys; omega)
          · exact HJ.out j e (by omega) he
        case measure => have := HLT.out; simp [intOf]; omega
    · have d : decide ((k : Int) < (R.length : Int)) = false := decide_eq_false (by omega)
      have dn : decide (k < R.length) = false := decide_eq_false hlt
      have HCUT : Hid (R.drop (cutOf (belowK key) (R.map Prod.fst)) = []) := by
        have h1 : cutOf (belowK key) (R.map Prod.fst) = R.length := cut_is (by rw [List.length_map]; omega) (fun j e hj he => HJ.out j e (by omega) he) (fun e he => by
          rw [List.getElem?_eq_none (by rw [List.length_map]; exact Nat.le_refl _)] at he; cases he)
        unfold Hid; rw [h1]; exact List.drop_length ..
      clear hlt hk
      go_wp2_with fail
      go_ret
      refine ⟨none, 0, ?_, ?_, HX.out⟩
      · rw [HCUT.out]; rfl
      · rw [HCUT.out]; exact ⟨Sl.nil _ _ _ _, fun p hp => by cases hp⟩

theorem wpList_addents {ops : Array Oper} {rest : List Oper} {o : Oper} {a : Act} {Q : Exit → Act → World → Prop} {u : World} (hgd : o.guard = none) (s x : Operand)
    (ho : o.op = .call { callee := .builtin .append, args := #[s, x], argTypes := #[26, 26] }) (C : Nat) (v : Value) (R : List (Ent × Hd)) (hs : a.eval s = v) (hrow : u.ownsRow C 40 4 v R.length (erow R))
    (lo hi : Nat) (A2 : Option Addr) (c2 : Nat) (L : List (Ent × Hd)) (hx : a.eval x = .slice A2 L.length c2) (hsl : Sl u lo hi A2 (erow L)) (hnil : A2 = none → c2 = 0 ∧ L = []) (hlen : R.length + L.length ≤ 1000000000000) (hB : C ≤ u.heap.size)
    (h : ∀ A' c' w', w'.ownsRow C 40 4 (.slice A' (R ++ L).length c') (R ++ L).length (erow (R ++ L)) → (∀ B p, Mine B p u → Mine B p w') → (∀ w0, Below C w0 u → Below C w0 w') → wpList Tryd.prog ops Q rest (a.put o.dst (.slice A' (R ++ L).length c')) w') : wpList Tryd.prog ops Q (o :: rest) a u :=
  wpList_plain hgd fun _ hK => wp_addents s x ho C v R hs hrow lo hi A2 c2 L hx hsl hnil hlen hB (fun A' c' w' h1 h2 h3 => hK _ _ (h A' c' w' h1 h2 h3))

theorem rowM_sl {w : World} {B c : Nat} {A : Option Addr} {M : List (Ent × Hd)} (h : w.ownsRow B 40 4 (.slice A M.length c) M.length (erow M)) : Sl w 0 w.heap.size A (erow M) := by
  rcases h.2 with ⟨h1, h2⟩ | ⟨g, cap, cur, hv, hg, hh, r⟩
  · injection h1 with e1 e2 _
    have : M = [] := List.eq_nil_of_length_eq_zero e2
    subst this; exact Sl.nil _ _ _ _
  · injection hv with e1 _ _
    subst e1
    refine .inr ⟨g, 0, rfl, Nat.zero_le _, (Array.getElem?_eq_some_iff.1 hh).1, fun i u hu => ?_⟩
    have := h.cells (g := g) rfl i u hu
    rwa [addr_add] at this
/-- Which towers stand in a level. -/
def highE (n : Int) (e : Ent) : Bool := decide (n < (hgt e.key e.seq : Int))
def levR (n : Int) (R : List (Ent × Hd)) : List (Ent × Hd) := if n < 0 then [] else R.filter fun p => highE n p.1
set_option maxRecDepth 100000 in
set_option maxHeartbeats 8000000 in
theorem rlevel_any {w : World} {A : Option Addr} {c : Nat} {R : List (Ent × Hd)} {n : Int} (h : Es w 0 w.heap.size A R) (hlen : R.length ≤ 1000000) (hkl : ∀ p ∈ R, p.1.key.length ≤ 1099511627776) :
    Calls Tryd.prog 25 #[.slice A R.length c, .int .i64 n] w fun e w' => ∃ (X : Option Addr) (d : Nat) (M : List (Ent × Hd)), e = .returned (.slice X M.length d) ∧ M = levR n R ∧ Es w' 0 w'.heap.size X M ∧ Ext w w' := by
  have HE := Lib.hid h
  have HKL := Lib.hid hkl
  have HRL := Lib.hid hlen
  have hlI : (R.length : Int) ≤ 1000000 := by omega
  clear h hkl
  by_cases hneg : n < 0
  · have e1 : decide ((0 : Int) ≤ n) = false := decide_eq_false (by omega)
    have HNEG := Lib.hid hneg
    go_enter Tryd.func25, Tryd.ntmps25
    go_wp2_with fail
    go_loopw [5, 6] (fun q i wr => q = .slice none 0 0 ∧ i = .int .i64 0 ∧ w = wr) (fun _ _ _ => 0)
    case atStart => exact ⟨rfl, rfl, rfl⟩
    case round =>
      obtain ⟨rfl, rfl, rfl⟩ := hrel
      by_cases h0 : 0 < R.length
      · have d : decide ((0 : Int) < (R.length : Int)) = true := decide_eq_true (by omega)
        have dn : decide (0 < R.length) = true := decide_eq_true h0
        clear hneg hlen
        go_wp2_with fail
        go_ret
        exact ⟨none, 0, [], rfl, by unfold levR; rw [if_pos HNEG.out], ⟨Sl.nil _ _ _ _, fun p hp => by cases hp⟩, Ext.refl _⟩
      · have d : decide ((0 : Int) < (R.length : Int)) = false := decide_eq_false (by omega)
        have dn : decide (0 < R.length) = false := decide_eq_false h0
        clear hneg hlen
        go_wp2_with fail
        go_ret
        exact ⟨none, 0, [], rfl, by unfold levR; rw [if_pos HNEG.out], ⟨Sl.nil _ _ _ _, fun p hp => by cases hp⟩, Ext.refl _⟩
  · have e1 : decide ((0 : Int) ≤ n) = true := decide_eq_true (by omega)
    have HNEG := Lib.hid hneg
    clear hneg
    go_enter Tryd.func25, Tryd.ntmps25
    go_wp2_with fail
    go_loopw [5, 6] (fun q i wr => ∃ (k : Nat) (M : List (Ent × Hd)) (X : Option Addr) (d : Nat), k ≤ R.length ∧ M.length ≤ k ∧ i = .int .i64 (k : Int) ∧ q = .slice X M.length d ∧ Hid (M = (R.take k).filter fun p => highE n p.1) ∧ Hid (wr.ownsRow w.heap.size 40 4 (.slice X M.length d) M.length (erow M)) ∧ Hid (Ext w wr)) (fun _ i _ => R.length - (intOf i).toNat)
    case atStart => exact ⟨0, [], none, 0, Nat.zero_le _, Nat.zero_le _, rfl, rfl, Lib.hid rfl, Lib.hid (World.ownsRow_nil _ _ _ _), Lib.hid (Ext.refl _)⟩
    case round =>
      obtain ⟨k, M, X, d0, hk, hmk, rfl, rfl, HM, HR, HX⟩ := hrel
      by_cases hlt : k < R.length
      · have d : decide ((k : Int) < (R.length : Int)) = true := decide_eq_true (by omega)
        have dn : decide (k < R.length) = true := decide_eq_true hlt
        obtain ⟨b, o, hA⟩ := HE.out.base (by omega)
        subst hA
        obtain ⟨p, hp⟩ : ∃ p, R[k]? = some p := ⟨_, List.getElem?_eq_getElem hlt⟩
        obtain ⟨c0, c1, c2, c3⟩ := (HE.out.below HX.out (Nat.le_refl _)).get hp
        have HP := Lib.hid hp
        have n1 : (0 : Int) ≤ (k : Int) := by omega
        have n2 : (k : Int) < (R.length : Int) := by omega
        have HLT := Lib.hid hlt
        have HMK := Lib.hid hmk
        have HWW : Hid (∀ u, Ext wr u → Em u 0 w.heap.size p.1 p.2) := fun u hu => (HE.out.below (Ext.trans HX.out hu) (Nat.le_refl _)).each p (List.mem_of_getElem? HP.out)
        have HPL := Lib.hid (HKL.out p (List.mem_of_getElem? hp))
        obtain ⟨s, hs⟩ : ∃ s, s = hgt p.1.key p.1.seq := ⟨_, rfl⟩
        have HS := Lib.hid hs
        obtain ⟨y, hy⟩ : ∃ y, y = decide (n < (s : Int)) := ⟨_, rfl⟩
        have HY := Lib.hid hy
        have HNEXT : Hid ((R.take (k + 1)).filter (fun p => highE n p.1) = M ++ (if y then [p] else [])) := by
          unfold Hid
          rw [List.take_add_one, HP.out, List.filter_append, ← HM.out]
          congr 1
          show [p].filter _ = _
          unfold highE
          simp only [List.filter_cons, List.filter_nil]
          rw [← hs, ← hy]
          all_goals (cases y <;> rfl)
        clear hp hlt hs hy hlen hmk
        go_upto_region 5 with (fail)
        refine flow (by kernel_rfl) [Is (.slice (some ⟨b, o, none⟩) R.length c), Is (.int .i64 (k : Int)), Is (.pointer (some ⟨b, o + k * 4, none⟩)), Is (.pointer (some ⟨b, o + k * 4, none⟩)), Is (.slice p.2.kA p.1.key.length p.2.kc), Is (.slice (some ⟨b, o, none⟩) R.length c), Is (.int .i64 (k : Int)), Is (.pointer (some ⟨b, o + k * 4, none⟩)), Is (.pointer (some ⟨b, o + k * 4 + 1, none⟩)), Is (.int .i64 p.1.seq), Is (.int .i64 (s : Int)), Is (.int .i64 n), Is (.bool y)] (by kernel_rfl) (by kernel_rfl) ?mono (fun f1 => ?obl) ?fin
        case mono =>
          simp only [List.forall_mem_cons, List.not_mem_nil, false_imp_iff, implies_true, and_true]
          exact ⟨.is _, .is _, .is _, .is _, .is _, .is _, .is _, .is _, .is _, .is _, .is _, .is _, .is _⟩
        case fin =>
          intro g1 w5 hu hg
          simp only [puts, Act.put, List.setIfInBounds_toArray, List.set_cons_zero, List.set_cons_succ]
          have h12 : g1 12 = .bool y := hg 12 (by decide)
          rw [h12]
          have HX5 : Hid (Ext w w5) := Ext.trans HX.out (Ext.trans (Ext.drew wr) hu)
          have HW5 : Hid (Ext wr w5) := Ext.trans (Ext.drew wr) hu
          clear h12 hg hu c0 c1 c2 c3
          cases y with
          | false =>
            go_wp2_with fail
            go_roundw
            case rel => exact ⟨k + 1, M, X, d0, by have := HLT.out; omega, by have := HMK.out; omega, by go_num, rfl, Lib.hid (by rw [HNEXT.out]; simp), Lib.hid (rowN_kept HR.out fun g' hg' => HW5.out.block g' (rowN_lt HR.out g' hg').2.1), HX5⟩
            case measure => have := HLT.out; simp [intOf]; omega
          | true =>
            obtain ⟨c0, c1, c2, c3⟩ := (HE.out.below HX5.out (Nat.le_refl _)).get HP.out
            have HR5 : Hid (w5.ownsRow w.heap.size 40 4 (.slice X M.length d0) M.length (erow M)) := rowN_kept HR.out fun g' hg' => HW5.out.block g' (rowN_lt HR.out g' hg').2.1
            go_wp2_with (at_builtin; refine wpList_addents rfl (.tmp 30) (.tmp 35) rfl w.heap.size (.slice X M.length d0) M rfl (rowN_kept HR5.out fun g' hg' => (ext_alloc w5 _).block g' (rowN_lt HR5.out g' hg').2.1) 0 (w5.heap.size + 1) (some ⟨w5.heap.size, 0, none⟩) 1 [p] rfl (.inr ⟨w5.heap.size, 0, rfl, Nat.zero_le _, Nat.lt_succ_self _, fun i v hv => ?cells⟩) (fun e => by cases e) ?len ?hB ?_)
            case cells => exact hv
            case len => have := HMK.out; have := HRL.out; have := HLT.out; first | omega | (simp only [List.length_cons, List.length_nil]; omega)
            case hB => exact Nat.le_trans HX5.out.size (Nat.le_succ _)
            intro A6 c6 w6 hrow6 _ hb6
            have HX6 : Hid (Ext w w6) := hb6 w (Ext.trans HX5.out (ext_alloc w5 _))
            have HR6 : Hid (w6.ownsRow w.heap.size 40 4 (.slice A6 (M ++ [p]).length c6) (M ++ [p]).length (erow (M ++ [p]))) := by unfold Hid; simpa using hrow6
            have HMN : Hid (M.length + 1 = (M ++ [p]).length) := by simp [Hid]
            clear hrow6 hb6 c0 c1 c2 c3
            go_wp2_with fail
            go_roundw
            case rel => exact ⟨k + 1, M ++ [p], A6, c6, by have := HLT.out; omega, by have := HMK.out; have := HMN.out; omega, by go_num, by simp, Lib.hid (by rw [HNEXT.out]; simp), HR6, HX6⟩
            case measure => have := HLT.out; simp [intOf]; omega
        case obl =>
          refine ⟨fun u hu hd => ?_, ?_⟩
          · go_simp
            exact ⟨Ext.refl _, rfl⟩
          refine ⟨fun u hu hd => ?_, ?_⟩
          · simp only [Act.put, List.setIfInBounds_toArray, List.set_cons_zero, List.set_cons_succ]
            go_simp
            exact ⟨Ext.refl _, rfl⟩
          refine ⟨fun u hu hd => ?_, ?_⟩
          · simp only [Act.put, List.setIfInBounds_toArray, List.set_cons_zero, List.set_cons_succ]
            have e0 : f1 0 = .slice (some ⟨b, o, none⟩) R.length c := hd 0 (by kernel_rfl)
            have e1 : f1 1 = .int .i64 (k : Int) := hd 1 (by kernel_rfl)
            go_simp
            exact ⟨Ext.refl _, rfl⟩
          refine ⟨fun u hu hd => ?_, ?_⟩
          · simp only [Act.put, List.setIfInBounds_toArray, List.set_cons_zero, List.set_cons_succ]
            have e2 : f1 2 = .pointer (some ⟨b, o + k * 4, none⟩) := hd 2 (by kernel_rfl)
            go_simp
            exact ⟨Ext.refl _, rfl⟩
          refine ⟨fun u hu hd => ?_, ?_⟩
          · simp only [Act.put, List.setIfInBounds_toArray, List.set_cons_zero, List.set_cons_succ]
            have e3 : f1 3 = .pointer (some ⟨b, o + k * 4, none⟩) := hd 3 (by kernel_rfl)
            have hu2 := Ext.trans (Ext.drew wr) hu
            have q0 := ext_cell hu2 c0
            go_simp
            exact ⟨Ext.refl _, rfl⟩
          refine ⟨fun u hu hd => ?_, ?_⟩
          · simp only [Act.put, List.setIfInBounds_toArray, List.set_cons_zero, List.set_cons_succ]
            go_simp
            exact ⟨Ext.refl _, rfl⟩
          refine ⟨fun u hu hd => ?_, ?_⟩
          · simp only [Act.put, List.setIfInBounds_toArray, List.set_cons_zero, List.set_cons_succ]
            go_simp
            exact ⟨Ext.refl _, rfl⟩
          refine ⟨fun u hu hd => ?_, ?_⟩
          · simp only [Act.put, List.setIfInBounds_toArray, List.set_cons_zero, List.set_cons_succ]
            have e5 : f1 5 = .slice (some ⟨b, o, none⟩) R.length c := hd 5 (by kernel_rfl)
            have e6 : f1 6 = .int .i64 (k : Int) := hd 6 (by kernel_rfl)
            go_simp
            exact ⟨Ext.refl _, rfl⟩
          refine ⟨fun u hu hd => ?_, ?_⟩
          · simp only [Act.put, List.setIfInBounds_toArray, List.set_cons_zero, List.set_cons_succ]
            have e7 : f1 7 = .pointer (some ⟨b, o + k * 4, none⟩) := hd 7 (by kernel_rfl)
            go_simp
            exact ⟨Ext.refl _, rfl⟩
          refine ⟨fun u hu hd => ?_, ?_⟩
          · simp only [Act.put, List.setIfInBounds_toArray, List.set_cons_zero, List.set_cons_succ]
            have e8 : f1 8 = .pointer (some ⟨b, o + k * 4 + 1, none⟩) := hd 8 (by kernel_rfl)
            have hu2 := Ext.trans (Ext.drew wr) hu
            have q0 := ext_cell hu2 c1
            go_simp
            exact ⟨Ext.refl _, rfl⟩
          refine ⟨fun u hu hd => ?_, ?_⟩
          · simp only [Act.put, List.setIfInBounds_toArray, List.set_cons_zero, List.set_cons_succ]
            have e4 : f1 4 = .slice p.2.kA p.1.key.length p.2.kc := hd 4 (by kernel_rfl)
            have e9 : f1 9 = .int .i64 p.1.seq := hd 9 (by kernel_rfl)
            have hu2 := Ext.trans (Ext.drew wr) hu
            have m1 := HWW.out u hu2
            have hr := rheight_any m1.k m1.bk m1.s1 m1.s2 HPL.out
            rw [← HS.out] at hr
            go_simp
            refine hr.mono ?_
            rintro x9 w9 ⟨rfl, rfl⟩
            exact ⟨_, rfl, Ext.refl _, rfl⟩
          refine ⟨fun u hu hd => ?_, ?_⟩
          · simp only [Act.put, List.setIfInBounds_toArray, List.set_cons_zero, List.set_cons_succ]
            go_simp
            exact ⟨Ext.refl _, rfl⟩
          refine ⟨fun u hu hd => ?_, ?_⟩
          · simp only [Act.put, List.setIfInBounds_toArray, List.set_cons_zero, List.set_cons_succ]
            have e10 : f1 10 = .int .i64 (s : Int) := hd 10 (by kernel_rfl)
            have e11 : f1 11 = .int .i64 n := hd 11 (by kernel_rfl)
            have q1 := HY.out.symm
            go_simp
            exact ⟨Ext.refl _, rfl⟩
          trivial
      · have d : decide ((k : Int) < (R.length : Int)) = false := decide_eq_false (by omega)
        have dn : decide (k < R.length) = false := decide_eq_false hlt
        have HKE : Hid (R.take k = R) := List.take_of_length_le (by omega)
        clear hlt hk hlen hmk
        go_wp2_with fail
        go_ret
        refine ⟨X, d0, M, rfl, ?_, ⟨?_, fun p hp => ?_⟩, HX.out⟩
        · unfold levR; rw [if_neg (by have := HNEG.out; omega), HM.out, HKE.out]
        · exact rowM_sl HR.out
        · rw [HM.out] at hp
          have hp2 := List.mem_of_mem_take (List.mem_filter.1 hp).1
          exact ((HE.out.each p hp2).below HX.out (Nat.le_refl _)).wide (Nat.le_refl _) HX.out.size
end Go.Proofs.YtpfaoiickmpmjaaDoor
