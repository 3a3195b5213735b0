/- Lkbounds Pkbounds, joined. -/
import Derived.Test.YtddfelahpiokjaaMb11
import Derived.Test.YtddfelahpiokjaaMb14
import Derived.Test.YtddfelahpiokjaaMb13
import Derived.Test.YtddfelahpiokjaaMb15
import Derived.Test.YtddfelahpiokjaaMb1

/- BlockBounds: the walk. -/
namespace Go.Proofs.Ytddfelahpiokjaa.kbounds
open Go.ChangeShapes Go.WideShapes Go.ChangeAt Go.RowKit Go.Joins

/-- The entries that the law makes. -/
def bl (i : Nat) : Ent := ⟨[107], 2000 - (i : Int), 2, []⟩
def bls (k : Nat) : List Ent := (List.range k).map bl
theorem bls_length (k : Nat) : (bls k).length = k := by simp [bls]
theorem bls_succ (k : Nat) : bls (k + 1) = bls k ++ [bl k] := by unfold bls; rw [List.range_succ, List.map_append]; rfl
theorem bls_at {k i : Nat} {e : Ent} (h : (bls k)[i]? = some e) : i < k ∧ e = bl i := by
  unfold bls at h
  rw [List.getElem?_map] at h
  cases hr : (List.range k)[i]? with
  | none => rw [hr] at h; cases h
  | some j =>
    rw [hr] at h
    injection h with h
    obtain ⟨h1, h2⟩ := List.getElem?_eq_some_iff.1 hr
    rw [List.getElem_range] at h2
    subst h2
    exact ⟨by simpa using h1, h.symm⟩
theorem bls_take (k : Nat) : (bls (k + 1)).take k = bls k := by
  rw [bls_succ, List.take_append_of_le_length (by rw [bls_length]; exact Nat.le_refl _), List.take_of_length_le (by rw [bls_length]; exact Nat.le_refl _)]
theorem bls_may : MayB (bls 1024) := by
  refine ⟨by rw [bls_length]; decide, by rw [bls_length]; exact Nat.le_refl _, fun j a b ha hb => ?_, fun e he => ?_⟩
  · obtain ⟨h1, rfl⟩ := bls_at ha
    obtain ⟨h2, rfl⟩ := bls_at hb
    unfold cmpE bl
    rw [if_pos (cmpK_self _)]
    unfold cmpS
    simp only []
    split
    · omega
    · split <;> omega
  · obtain ⟨i, hi, rfl⟩ := List.mem_iff_getElem.1 he
    have h1 := bls_at (List.getElem?_eq_getElem hi)
    rw [h1.2]
    have := h1.1
    unfold bl Ent.may
    exact mayN_iff.2 ⟨by simp, by simp, by simp only []; omega, by simp only []; omega, .inr ⟨rfl, rfl⟩⟩
theorem bls_no : ¬ MayB (bls 1025) := fun h => by
  have := h.2.1
  rw [bls_length] at this
  omega

def kC : List Nat := [0, 2, 97, 98, 5, 2, 1, 1, 99, 3, 2, 0, 0, 0, 6, 0, 0, 0, 1]
def kD : List Nat := [0, 2, 97, 98, 5, 2, 1, 1, 99, 3, 2, 0, 0, 0, 0, 0, 0, 0, 6, 0, 0, 0, 2]
def kT : List Nat := [0, 2, 97, 98, 5, 2, 0, 2, 97, 99, 3, 2, 0, 0, 0, 0, 0, 0, 0, 1]
def kBd : List Nat := [0, 2, 97, 98, 5, 2, 1, 1, 99, 3, 2]
def kTd : List Nat := [0, 2, 97, 98, 5, 2, 0, 2, 97, 99, 3, 2]
theorem bd_by : BodyIs [kAB, kAC] kBd := by
  have h := kis.body
  have e : bodyOf kBy = kBd := by decide
  rwa [e] at h
theorem noC (L : List Ent) : ¬ IsB kC L := fun h => by
  have hb := h.body
  have e : bodyOf kC = kBd := by decide
  rw [e] at hb
  have := body_unique hb bd_by
  subst this
  have h2 := kwr.symm.trans h.2
  exact absurd h2 (by decide)
theorem noD (L : List Ent) : ¬ IsB kD L := fun h => by
  have hb := h.body
  have e : bodyOf kD = kBd := by decide
  rw [e] at hb
  have := body_unique hb bd_by
  subst this
  have h2 := kwr.symm.trans h.2
  exact absurd h2 (by decide)
theorem noT (L : List Ent) : ¬ IsB kT L := fun h => by
  have hb := h.body
  have e : bodyOf kT = kTd := by decide
  rw [e] at hb
  have s0 : Stands [] kTd kAB [0, 2, 97, 99, 3, 2] := ⟨by decide, 0, Nat.zero_le _, Nat.zero_le _, rfl, by simp [kTd, kAB, bytesForm, form_lo]⟩
  have s1 : Stands kAB.key [0, 2, 97, 99, 3, 2] kAC [] := ⟨by decide, 0, Nat.zero_le _, Nat.zero_le _, rfl, by simp [kAC, bytesForm, form_lo]⟩
  obtain ⟨a1, l0⟩ := (Ahead.start kTd).next (by decide) (fun e' r' h' => h'.unique s0)
  obtain ⟨a2, l1⟩ := a1.next (by decide) (fun e' r' h' => h'.unique s1)
  have hl := a2.ends hb
  have g0 := l0 L hb
  have g1 := l1 L hb
  have hL : L = [kAB, kAC] := by
    match L, hl with
    | [x, y], _ => simp at g0 g1; rw [g0, g1]
  subst hL
  have h2 := bd_by.2.symm.trans hb.2
  exact absurd h2 (by decide)

set_option maxRecDepth 100000 in
set_option maxHeartbeats 8000000 in
theorem walk (W : World) : Calls Try.prog 5 #[] W fun e w' => e = .returned (.bool true) ∧ Below W.heap.size W w' := by
  go_enter Try.func5, Try.ntmps5
  go_wp2_with fail
  go_loopw [1, 2] (fun v i wr => ∃ R : List (Ent × Hd), R.length ≤ 1025 ∧ i = .int .i64 (R.length : Int) ∧ Hid (R.map Prod.fst = bls R.length) ∧ Hid (Held W.heap.size v R wr) ∧ Hid (Ext W wr)) (fun _ i _ => 1025 - (RowKit.intOf i).toNat)
  case atStart => exact ⟨[], Nat.zero_le _, rfl, rfl, Held.nil _ _, Ext.refl _⟩
  case round =>
    obtain ⟨R, hk, rfl, HM, HH, HX⟩ := hrel
    obtain ⟨A, c, rfl⟩ := rowN_slice HH.out.row
    by_cases hlt : R.length < 1025
    · have d1 : decide ((R.length : Int) < 1025) = true := decide_eq_true (by omega)
      have d1n : decide (R.length < 1025) = true := decide_eq_true hlt
      have hI : (R.length : Int) ≤ 1024 := by omega
      have HLT := Lib.hid hlt
      clear hlt hk
      go_wp2_with fail
      refine Calls.mono (lit_any (e := bl R.length) (k := [107]) rfl rfl (by decide) (by decide) (by have := HLT.out; omega) (by omega) wr) ?_
      rintro e w1 ⟨hx1, g, rfl, hm⟩
      have HX1 : Hid (Ext wr w1) := hx1
      have HM1 := Lib.hid hm
      have HH1 := Lib.hid (HH.out.below hx1)
      have HROW := Lib.hid (rowN_lt HH.out.row)
      clear hx1 hm
      unfold Ent.at_
      go_wp2_with (at_builtin; refine wpList_pushheld rfl (.tmp 23) (.tmp 27) rfl W.heap.size _ R rfl (HH1.out.below (ext_alloc _ _)) (bl R.length, g) w1.heap.size rfl ?blk ?each ?len ?hB ?_)
      case blk => exact heap_at _ _ rfl
      case each => exact ⟨wr.heap.size, HX.out.size, w1.heap.size, Nat.le_of_lt (by simp), HM1.out.below (ext_alloc _ _) (Nat.le_refl _), fun g' hg' => .inl (HROW.out g' hg').2.1⟩
      case len => have := HLT.out; omega
      case hB => exact Nat.le_trans (Nat.le_trans HX.out.size HX1.out.size) (ext_alloc _ _).size
      intro A6 c6 w6 hh6 hb6
      have HX6 : Hid (Ext W w6) := hb6 _ (Below.alloc (Ext.trans HX.out HX1.out) (Ext.trans HX.out HX1.out).size _)
      have HH6 := Lib.hid hh6
      have HM6 : Hid ((R ++ [(bl R.length, g)]).map Prod.fst = bls (R.length + 1)) := by
        unfold Hid
        rw [List.map_append, HM.out, bls_succ]; rfl
      clear hh6 hb6
      go_wp2_with fail
      go_roundw
      case rel => exact ⟨R ++ [(bl R.length, g)], by have := HLT.out; simp; omega, by simp; try go_num, by simpa using HM6, by simpa using HH6, HX6⟩
      case measure => have := HLT.out; simp [RowKit.intOf]; omega
    · have hR : R.length = 1025 := by omega
      have d1 : decide ((R.length : Int) < 1025) = false := decide_eq_false (by omega)
      have d1n : decide (R.length < 1025) = false := decide_eq_false hlt
      have HES : Hid (Es wr 0 wr.heap.size A R) := HH.out.es
      have HR := Lib.hid hR
      have hcap : R.length ≤ c := by
        rcases HH.out.row.2 with ⟨h1, h2⟩ | ⟨g, cap, cur, hv, _, hh, _, hcs⟩
        · omega
        · injection hv with e1 e2 e3; subst e3; omega
      have HCAP := Lib.hid hcap
      clear hlt hk hcap
      have HW1 : Hid (Calls Try.prog 12 #[.slice A 1024 c] wr (WriteAns wr (bls 1024))) := by
        have h := write_any (c := c) (HES.out.take (k := 1024) (by omega)) (Nat.le_refl _) (by rw [List.length_take]; have := HCAP.out; omega) (by rw [List.length_take]; omega)
        rw [List.length_take, hR, List.map_take, HM.out, hR, bls_take] at h
        exact h
      have HW2 : Hid (∀ u, Ext wr u → Calls Try.prog 12 #[.slice A R.length c] u (WriteAns u (bls 1025))) := fun u hu => by
        have h := write_any (c := c) (HES.out.below hu (Nat.le_refl _)) hu.size HCAP.out (by omega)
        rw [HM.out, hR] at h
        rw [hR]
        exact h
      have hcI : (1025 : Int) ≤ (c : Int) := by have := HCAP.out; omega
      have hcN : 1025 ≤ c := by have := HCAP.out; omega
      clear hR
      go_wp2_with fail
      refine HW1.out.mono ?_
      rintro x w1 ⟨hx1, (⟨_, DA, dc, rfl, hown⟩ | ⟨hm, _⟩)⟩
      rotate_left
      · exact absurd bls_may hm
      have HX1 : Hid (Ext wr w1) := hx1
      obtain ⟨D, hD⟩ : ∃ D, D = Go.Proofs.Ytddfelahpiokjaa.wr (bls 1024) := ⟨_, rfl⟩
      rw [← hD] at hown ⊢
      have HOD := Lib.hid hown
      have HIS : Hid (IsB D (bls 1024)) := ⟨bls_may, hD.symm⟩
      have HDL : Hid (D.length ≤ 1000000000) := by
        have h1 := wr_len (bls 1024)
        have h2 := upto_le bls_may.2.2.2 (bls 1024).length
        have h3 := ats_len (bls 1024) (bls 1024).length
        rw [bls_length] at h1 h2 h3
        rw [hD]
        unfold Hid
        omega
      have HDB : Hid (∀ x ∈ D, x < 256) := by
        rw [hD]
        exact wr_lt bls_may (fun e he => by
          obtain ⟨i, hi, rfl⟩ := List.mem_iff_getElem.1 he
          rw [(bls_at (List.getElem?_eq_getElem hi)).2]
          exact ⟨fun x hx => by simp [bl] at hx; omega, fun x hx => by simp [bl] at hx⟩)
      clear hx1 hown HW1 hD
      go_wp2_with fail
      refine (HW2.out w1 HX1.out).mono ?_
      rintro x w2 ⟨hx2, (⟨hm, _⟩ | ⟨_, rfl⟩)⟩
      · exact absurd hm bls_no
      have HX2 : Hid (Ext w1 w2) := hx2
      have HOD2 := Lib.hid (HOD.out.below hx2)
      have HRE := Lib.hid (restarts_any HOD2.out.bs (Nat.le_refl _) HDB.out HDL.out)
      clear hx2 HW2 HES HCAP hcI hcN
      go_wp2_with fail
      refine HRE.out.mono ?_
      rintro x w3 ⟨hx3, (⟨L3, RA, rc, his, rfl, hown⟩ | ⟨hno, _⟩)⟩
      rotate_left
      · exact absurd HIS.out (hno _)
      obtain rfl := his.unique HIS.out
      obtain ⟨AT, hAT⟩ : ∃ AT, AT = ats (bls 1024) (bls 1024).length := ⟨_, rfl⟩
      have hal : AT.length = 256 := by rw [hAT, ats_len, bls_length]
      have ha0 : AT[0]'(by omega) = 0 := by
        have h := ats_get (bls 1024) (bls 1024).length 0 (by rw [bls_length]; omega)
        rw [← hAT, List.getElem?_eq_getElem (by omega)] at h
        injection h with h
      rw [← hAT] at hown ⊢
      have hra : ∃ g, RA = some ⟨g, 0, none⟩ ∧ w3.cell? ⟨g, 0, none⟩ = some (.int .i64 0) := by
        have h' : w3.ownsRow w2.heap.size 3 1 (.slice RA AT.length rc) AT.length (iv AT) := hown
        rcases h'.2 with ⟨e, h0⟩ | ⟨g, cap, cur, e, _⟩
        · omega
        · injection e with e1 e2 e3
          subst e1 e3
          refine ⟨g, rfl, ?_⟩
          rw [h'.cellAt 0 (by omega)]
          simp [iv, List.getElem?_eq_getElem (show 0 < AT.length by omega), ha0]
      obtain ⟨ga, rfl, hc0⟩ := hra
      rw [hal]
      have HC0 := Lib.hid hc0
      have HX3 : Hid (Ext W w3) := Ext.trans HX.out (Ext.trans HX1.out (Ext.trans HX2.out hx3))
      clear hx3 hown his hAT hal ha0 hc0 HRE HOD2 HIS HDB HDL HOD HX1 HX2
      go_wp2_with fail
      refine Calls.mono (lit_any (e := kAB) (k := [97, 98]) rfl rfl (by decide) (by decide) (by decide) (by decide) w3) ?_
      rintro e w4 ⟨hx1, g1, rfl, hm1⟩
      have HX4 := Lib.hid hx1
      have HM1 := Lib.hid hm1
      clear hx1 hm1
      go_wp2_with fail
      refine Calls.mono (lit_any (e := kAC) (k := [97, 99]) rfl rfl (by decide) (by decide) (by decide) (by decide) w4) ?_
      rintro e w5 ⟨hx2, g2, rfl, hm2⟩
      obtain ⟨w6, hw6⟩ : ∃ w3, w3 = w5.alloc (.cells #[.slice g1.kA kAB.key.length g1.kc, .int .i64 kAB.seq, .int .i64 kAB.kind, .slice g1.vA kAB.val.length g1.vc, .slice g2.kA kAC.key.length g2.kc, .int .i64 kAC.seq, .int .i64 kAC.kind, .slice g2.vA kAC.val.length g2.vc] 37) := ⟨_, rfl⟩
      have HX6 : Hid (Ext w3 w6) := by rw [hw6]; exact Ext.trans (Ext.trans HX4.out hx2) (ext_alloc _ _)
      have HWR : Hid (Es w6 0 w6.heap.size (some ⟨w5.heap.size, 0, none⟩) [(kAB, g1), (kAC, g2)]) := by
        have hxa : Ext w5 w6 := by rw [hw6]; exact ext_alloc _ _
        refine two_es (by rw [hw6]; exact heap_at _ _ rfl) ?_ ?_
        · exact ((HM1.out.below (Ext.trans hx2 hxa) (Nat.le_refl _)).wide (Nat.zero_le _) (Ext.trans hx2 hxa).size)
        · exact ((hm2.below hxa (Nat.le_refl _)).wide (Nat.zero_le _) hxa.size)
      have HWC := Lib.hid (kwrite1 HWR.out)
      rw [hw6] at HWC
      clear hx2 hm2 HM1 HWR HX4
      unfold Ent.at_
      go_wp2_with fail
      refine HWC.out.mono ?_
      rw [← hw6]
      clear HWC hw6
      rintro x w7 ⟨hx7, BA, bc, rfl, hown⟩
      have HX7 : Hid (Ext w3 w7) := Ext.trans HX6.out hx7
      have HBO : Hid (Own w3.heap.size kBy (.slice BA 19 bc) w7) := hown.base HX6.out.size
      clear hx7 hown HX6
      go_wp2_with (at_builtin; refine wpList_addbytes rfl (.const (.slice none 0 0)) (.tmp 60) rfl w7.heap.size _ [] rfl (Own.nil _ _) _ _ _ kBy rfl (show Bs w7 0 w7.heap.size _ kBy from HBO.out.bs) ?l1 (Nat.le_refl _) ?_)
      case l1 => decide
      intro A8 c8 w8 ho hb
      rw [show kBy.length = 19 from rfl] at ho ⊢
      have HX8 : Hid (Ext w7 w8) := hb w7 (Below.refl _ _)
      have ho' : Own w7.heap.size kBy (.slice A8 19 c8) w8 := ho
      obtain ⟨g8, c8', e8, hg8, hg8b, _⟩ := ho'.block (by decide)
      have hA8 : A8 = some ⟨g8, 0, none⟩ := by injection e8
      clear e8
      subst hA8
      have cc : w8.cell? ⟨g8, 14, none⟩ = some (.int .u8 0) := ho'.cell (i := 14) (by decide)
      have cf := ho'.free 14
      have HOC := Lib.hid (ho'.set 14 6)
      have HG8 : Hid (w7.heap.size ≤ g8) := hg8
      have HPRE : Hid (Bs w8 0 w7.heap.size (.slice BA 11 bc) kBd) := by
        have h := (HBO.out.bs).below HX8.out (Nat.le_refl _)
        exact h.head (k := 11) (by decide)
      clear ho hb ho' hg8 hg8b
      go_upto_region 14 with (fail)
      obtain ⟨w9, hw9⟩ : ∃ w9, w9 = w8.setCell ⟨g8, 14, none⟩ (.int .u8 6) := ⟨_, rfl⟩
      have HOC9 : Hid (Own w7.heap.size kC (.slice (some ⟨g8, 0, none⟩) 19 c8) w9) := by rw [hw9]; exact HOC.out
      have HX9 : Hid (Ext w7 w9) := by rw [hw9]; exact Below.setCell HX8.out HG8.out _
      have HP9 : Hid (Bs w9 0 w7.heap.size (.slice BA 11 bc) kBd) := by rw [hw9]; exact HPRE.out.setCell (.inr HG8.out) _
      rw [← hw9]
      have hbc : 19 ≤ bc := by
        obtain ⟨g, c9, e9, _, _, h9⟩ := HBO.out.block (by decide)
        injection e9 with _ _ e9
        subst e9
        exact h9
      have hbcI : (19 : Int) ≤ (bc : Int) := by omega
      clear hw9 HPRE HOC cc cf HX8
      go_wp2_with (at_builtin; refine wpList_addbytes rfl (.const (.slice none 0 0)) (.tmp 65) rfl w9.heap.size _ [] rfl (Own.nil _ _) _ _ _ kBd rfl HP9.out ?l2 (Nat.le_refl _) ?_)
      case l2 => decide
      intro A10 c10 w10 ho hb
      rw [show kBd.length = 11 from rfl] at ho ⊢
      have HX10 : Hid (Ext w9 w10) := hb w9 (Below.refl _ _)
      have HO10 : Hid (Own w9.heap.size kBd (.slice A10 11 c10) w10) := ho
      have HLIT := Lib.hid (bs_mark w10 [0, 0, 0, 0, 0, 0, 0, 6, 0, 0, 0, 2] (by decide) (0, 0))
      clear ho hb
      go_wp2_with (at_builtin; refine wpList_addbytes rfl (.tmp 66) (.tmp 67) rfl w9.heap.size _ kBd rfl (HO10.out.below (ext_alloc _ _)) _ _ _ [0, 0, 0, 0, 0, 0, 0, 6, 0, 0, 0, 2] rfl HLIT.out ?l3 ?hB3 ?_)
      case l3 => decide
      case hB3 => exact Nat.le_trans HX10.out.size (ext_alloc _ _).size
      intro A11 c11 w11 ho hb
      have e11 : kBd.length + 12 = 23 := rfl
      rw [e11] at ho ⊢
      have HX11 : Hid (Ext w9 w11) := hb w9 (Below.alloc HX10.out HX10.out.size _)
      have HOD : Hid (Own w9.heap.size kD (.slice A11 23 c11) w11) := ho
      have HRC := Lib.hid (kread_no ((HOC9.out.below HX11.out).bs) (Nat.le_refl _) (by decide) (by decide) noC)
      have HXA : Hid (Ext w3 w11) := Ext.trans HX7.out (Ext.trans HX9.out HX11.out)
      clear ho hb e11 HLIT HO10 HP9 hbc hbcI
      go_wp2_with fail
      refine HRC.out.mono ?_
      rintro x w12 ⟨hx12, rfl⟩
      have HX12 : Hid (Ext w11 w12) := hx12
      have HRD := Lib.hid (kread_no ((HOD.out.below hx12).bs) (Nat.le_refl _) (by decide) (by decide) noD)
      clear hx12 HRC
      go_wp2_with fail
      refine HRD.out.mono ?_
      rintro x w13 ⟨hx13, rfl⟩
      have HX13 : Hid (Ext w11 w13) := Ext.trans HX12.out hx13
      clear hx13 HRD
      have cv1 : (convert 22 22 (.slice (some ⟨w13.heap.size, 0, none⟩) 20 20)).run Try.prog (w13.alloc (.cells #[.int .u8 0, .int .u8 2, .int .u8 97, .int .u8 98, .int .u8 5, .int .u8 2, .int .u8 0, .int .u8 2, .int .u8 97, .int .u8 99, .int .u8 3, .int .u8 2, .int .u8 0, .int .u8 0, .int .u8 0, .int .u8 0, .int .u8 0, .int .u8 0, .int .u8 0, .int .u8 1] 5)) = .ok (.slice (some ⟨w13.heap.size, 0, none⟩) 20 20) (w13.alloc (.cells #[.int .u8 0, .int .u8 2, .int .u8 97, .int .u8 98, .int .u8 5, .int .u8 2, .int .u8 0, .int .u8 2, .int .u8 97, .int .u8 99, .int .u8 3, .int .u8 2, .int .u8 0, .int .u8 0, .int .u8 0, .int .u8 0, .int .u8 0, .int .u8 0, .int .u8 0, .int .u8 1] 5 (20, 21))) := run_convert_bytes_const_at _ _ _ _ _ _ _ (rfl) Try.underlying22 Try.underlying5
      have HRT := Lib.hid (kread_no (bs_mark w13 kT (by decide) (20, 21)) (by simp) (by decide) (by decide) noT)
      go_wp2_with fail
      refine Calls.mono HRT.out ?_
      rintro x w14 ⟨hx14, rfl⟩
      have HX14 : Hid (Ext w3 w14) := Ext.trans HXA.out (Ext.trans HX13.out (Ext.trans (ext_alloc _ _) hx14))
      have c0 := ext_cell HX14.out HC0.out
      have HXW : Hid (Ext W w14) := Ext.trans HX3.out HX14.out
      clear hx14 HRT cv1
      go_wp2_with fail
      refine (knum _ _).mono ?_
      rintro x _ ⟨rfl, rfl⟩
      go_wp2_with fail
      refine (knum _ _).mono ?_
      rintro x _ ⟨rfl, rfl⟩
      go_wp2_with fail
      refine (knum _ _).mono ?_
      rintro x _ ⟨rfl, rfl⟩
      go_wp2_with fail
      refine (knum _ _).mono ?_
      rintro x _ ⟨rfl, rfl⟩
      go_wp2_with fail
      refine (knum _ _).mono ?_
      rintro x _ ⟨rfl, rfl⟩
      go_wp2_with fail
      refine (knum _ _).mono ?_
      rintro x _ ⟨rfl, rfl⟩
      go_wp2_with fail
      refine (known_any w14).mono ?_
      rintro x w15 ⟨rfl, hx⟩
      have HZ : Hid (Ext W w15) := Ext.trans HXW.out hx
      clear hx
      go_wp2_with fail
      go_ret
      exact ⟨rfl, HZ.out⟩
end Go.Proofs.Ytddfelahpiokjaa.kbounds

/- BlockBounds: from the walk to the statement. For every input the law answers true and leaves its arguments as they were. -/
namespace Go.Proofs.Ytddfelahpiokjaa.kbounds
open Go.ChangeShapes Go.WideShapes Go.ChangeAt Go.RowKit
set_option linter.unusedVariables false

set_option maxRecDepth 100000 in
theorem lifted (os : Os) (started : os.Started) (H : Type) (enc : TypeId × Value → H) :
    ReturnsInHanded {} Try.checked os 5 .any (Rows.blockBoundsSpec.pre6 enc Try.prog Try.f5 Rows.blockBoundsRow.domain false) (Rows.blockBoundsSpec.post enc Try.prog Try.f5 false true false false) := by
  refine returnsInHanded_of_change (C := Try.checked) own started (by kernel_rfl) Try.func5
    (ChangeSpec.witness6 (enc := enc) (C := Try.checked) false ⟨#[], #[], []⟩ 8 (by kernel_rfl) (by kernel_rfl) (by kernel_rfl) (by kernel_rfl)) ?_
  intro W base args ds gs before hval0 hW hcnd _
  have hval : ∀ (j : Nat) t v, Try.f5.params[j]? = some t → args[j]? = some v → Value.okWide Try.prog W .any base t v := hval0
  have hW' := hW
  obtain ⟨p, q, hA0, hV, rfl, hfz, hnd⟩ := hW
  have hA : DataW.TrodAll enc Try.prog W 0 (fun _ => true) true Try.f5.params.toList args.toList ds p := hA0
  obtain ⟨rfl, rfl, rfl⟩ := trodAll_none hA
  obtain ⟨rfl, rfl⟩ := trodVars_none hV
  clear hA0 hval0
  refine (walk W ).mono fun e W' ⟨he, bel⟩ => ?_
  subst he
  exact ⟨_, rfl, _, _, _, [], _, [], hW', trodAll_mk1 (shut_bool Try.underlying4 _), trodAll_mk0, rfl, bel.frame _, fun h => by cases h⟩

theorem over : Rows.blockBoundsRow.holds Try.pinned (OpenSpec.ofChange Rows.blockBoundsSpec) :=
  OpenClaim.holds_of_wide 5 Try.f5 rfl rfl rfl rfl rfl rfl rfl ⟨rfl, rfl, rfl, rfl, rfl⟩ rfl rfl rfl rfl rfl (by kernel_rfl) Try.func5 (by kernel_rfl)
    (of_decide_eq_true (by kernel_rfl)) (by unfold Func.isWrapper; first | (rw [if_pos (by decide +kernel)]; kernel_rfl) | (rw [if_neg (by decide +kernel)]; exact ⟨rfl, rfl⟩))
    (fun os started H enc _ => lifted os started H enc)

theorem proved : Rows.BlockBoundsSaid := over
end Go.Proofs.Ytddfelahpiokjaa.kbounds
