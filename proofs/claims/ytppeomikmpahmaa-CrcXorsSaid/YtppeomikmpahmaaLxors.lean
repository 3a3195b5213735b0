/- CrcXors: what a sum makes of a byte does not hang on the others. -/
import Derived.Test.YtppeomikmpahmaaCknown
import Derived.Test.YtppeomikmpahmaaFlow
import Derived.Deep.DeepCutAuto
import Derived.StillTailTactics
namespace Go.Proofs.Ytppeomikmpahmaa.crcXors
open Go.ChangeShapes Go.WideShapes Go.ChangeAt Go.RowKit

/-- Three bytes, xored. -/
def x3 (a b c : List Nat) (i : Nat) : Nat := a.getD i 0 ^^^ b.getD i 0 ^^^ c.getD i 0
theorem x3_lt {a b c : List Nat} (ha : ∀ x ∈ a, x < 256) (hb : ∀ x ∈ b, x < 256) (hc : ∀ x ∈ c, x < 256) (i : Nat) : x3 a b c i < 256 := by
  have g : ∀ l : List Nat, (∀ x ∈ l, x < 256) → l.getD i 0 < 256 := fun l hl => by
    by_cases h : i < l.length
    · rw [getD_at h]; exact hl _ (List.getElem_mem h)
    · simp [List.getD, List.getElem?_eq_none (Nat.le_of_not_lt h)]
  exact Nat.xor_lt_two_pow (n := 8) (Nat.xor_lt_two_pow (n := 8) (g a ha) (g b hb)) (g c hc)
theorem x3_bits {a b c : List Nat} (ha : ∀ x ∈ a, x < 256) (hb : ∀ x ∈ b, x < 256) (hc : ∀ x ∈ c, x < 256) {k : Nat} (h1 : k < a.length) (h2 : k < b.length) (h3 : k < c.length) :
    bits .xor .u8 (bits .xor .u8 (a[k] : Int) (b[k] : Int)) (c[k] : Int) = (x3 a b c k : Nat) := by
  have xa := ha _ (List.getElem_mem h1)
  have xb := hb _ (List.getElem_mem h2)
  have xc := hc _ (List.getElem_mem h3)
  rw [u8_xor_nat _ _ xa xb, u8_xor_nat _ _ (Nat.xor_lt_two_pow (n := 8) xa xb) xc]
  unfold x3
  rw [getD_at h1, getD_at h2, getD_at h3]
theorem zx_x3 (a b c : List Nat) (n : Nat) (h1 : n ≤ a.length) (h2 : n ≤ b.length) (h3 : n ≤ c.length) : (List.range n).map (x3 a b c) = zx (zx (a.take n) (b.take n)) (c.take n) := by
  have zg : ∀ (l r : List Nat) (i : Nat), i < l.length → l.length = r.length → (zx l r)[i]? = some (l.getD i 0 ^^^ r.getD i 0) := by
    intro l
    induction l with
    | nil => intro r i h; simp at h
    | cons x l ih =>
      intro r i hi he
      cases r with
      | nil => simp at he
      | cons y r =>
        cases i with
        | zero => simp [zx]
        | succ i => simpa [zx] using ih r i (by simpa using hi) (by simpa using he)
  have l1 : (a.take n).length = n := by simp; omega
  have l2 : (b.take n).length = n := by simp; omega
  have l3 : (c.take n).length = n := by simp; omega
  have l4 := zx_length (a.take n) (b.take n) (by omega)
  apply List.ext_getElem?
  intro i
  by_cases hi : i < n
  · rw [zg _ _ i (by omega) (by omega), List.getElem?_map, List.getElem?_range hi]
    have e : (zx (a.take n) (b.take n)).getD i 0 = (a.take n).getD i 0 ^^^ (b.take n).getD i 0 := by
      have := zg (a.take n) (b.take n) i (by omega) (by omega)
      simp [List.getD, this]
    rw [e]
    have t : ∀ l : List Nat, n ≤ l.length → (l.take n).getD i 0 = l.getD i 0 := fun l hl => by simp [List.getD, List.getElem?_take, hi]
    rw [t a h1, t b h2, t c h3]
    rfl
  · rw [List.getElem?_eq_none (by simp; omega), List.getElem?_eq_none]
    rw [zx_length _ _ (by omega)]; omega
theorem zero_cells (f : Nat → Nat) (n : Nat) : (madeCells #[Value.int .u8 0] n).toList = bv (part f n 0) := by
  apply List.ext_getElem
  · simp [size_madeCells, bv, part]
  · intro i h1 h2
    simp [madeCells, bv, part, Nat.mod_one]

/-- A row of one slice of bytes, wherever it was laid. -/
def Blt (l : List Nat) (v : Value) (u : World) : Prop := ∃ g h, v = .slice (some ⟨g, 0, none⟩) 1 1 ∧ h ≤ u.heap.size ∧ ∃ x, Rows2 u 0 h (some ⟨g, 0, none⟩) [x] [l]
theorem _root_.Go.Proofs.Ytppeomikmpahmaa.Mono.blt (l : List Nat) : Mono (Blt l) := fun v u u' ⟨g, h, e, hh, x, hr⟩ hu => ⟨g, h, e, Nat.le_trans hh hu.size, x, hr.below hu hh⟩

set_option maxRecDepth 100000 in
set_option maxHeartbeats 4000000 in
theorem walk (w : World) (v1 : Value) (L1 : List Nat) (hb1 : ∀ b ∈ L1, b < 256) (h1 : Bs w 0 w.heap.size v1 L1) (v2 : Value) (L2 : List Nat) (hb2 : ∀ b ∈ L2, b < 256) (h2 : Bs w 0 w.heap.size v2 L2) (v3 : Value) (L3 : List Nat) (hb3 : ∀ b ∈ L3, b < 256) (h3 : Bs w 0 w.heap.size v3 L3) :
    Calls Try.prog 8 #[v1, v2, v3] w fun e w' => e = .returned (.bool true) ∧ Below w.heap.size w w' := by
  obtain ⟨i0, hi0, ix0, ix1, ix2⟩ := info_parts t5info
  have HI := Lib.hid hi0
  have H1 := Lib.hid h1
  have H2 := Lib.hid h2
  have H3 := Lib.hid h3
  have B1 := Lib.hid hb1
  have B2 := Lib.hid hb2
  have B3 := Lib.hid hb3
  obtain ⟨A1, c1, rfl, l1, m1, n1, y1⟩ := h1
  obtain ⟨A2, c2, rfl, l2, m2, n2, y2⟩ := h2
  obtain ⟨A3, c3, rfl, l3, m3, n3, y3⟩ := h3
  have q1 : L1.length ≤ 9223372036854775807 := by unfold maxLen at m1; omega
  have q2 : L2.length ≤ 9223372036854775807 := by unfold maxLen at m2; omega
  have q3 : L3.length ≤ 9223372036854775807 := by unfold maxLen at m3; omega
  clear hi0 hb1 hb2 hb3 y1 y2 y3 n1 n2 n3 l1 l2 l3 m1 m2 m3
  go_enter Try.func8, Try.ntmps8
  go_upto_region 2 with (fail)
  obtain ⟨N, hN, hN1, hN2, hN3⟩ : ∃ N : Nat, (if (L3.length : Int) < if L2.length < L1.length then (L2.length : Int) else (L1.length : Int) then (L3.length : Int) else if L2.length < L1.length then (L2.length : Int) else (L1.length : Int)) = (N : Int) ∧ N ≤ L1.length ∧ N ≤ L2.length ∧ N ≤ L3.length := by
    by_cases h : L2.length < L1.length
    · simp only [h, if_true]
      by_cases k : (L3.length : Int) < (L2.length : Int)
      · exact ⟨L3.length, by rw [if_pos k], by omega, by omega, by omega⟩
      · exact ⟨L2.length, by rw [if_neg k], by omega, by omega, by omega⟩
    · simp only [h, if_false]
      by_cases k : (L3.length : Int) < (L1.length : Int)
      · exact ⟨L3.length, by rw [if_pos k], by omega, by omega, by omega⟩
      · exact ⟨L1.length, by rw [if_neg k], by omega, by omega, by omega⟩
  rw [hN]
  clear hN
  by_cases hbig : 9000 < N
  · have hd : decide ((9000 : Int) < (N : Int)) = true := by simp; omega
    have hd2 : decide (9000 < N) = true := by simp [hbig]
    have HK := Lib.hid (known_any w)
    clear hbig
    go_wp2_with fail
    refine Calls.mono HK.out ?_
    rintro e w1 ⟨rfl, hb1⟩
    go_wp2_with fail
    go_ret
    exact ⟨rfl, hb1⟩
  · have hd : decide ((9000 : Int) < (N : Int)) = false := by simp; omega
    have hd2 : decide (9000 < N) = false := by simp; omega
    have HN := Lib.hid (show N ≤ 9000 by omega)
    clear hbig
    go_wp2_with (at_make; refine wpList_make_full _ rfl (.tmp 20) (.tmp 20) 22 rfl w.heap.size 5 i0 (.int .u8 0) 1 Try.underlying22 HI.out ix0 ix1 .i64 .i64 (N : Int) (N : Int) N rfl rfl rfl rfl (by have := HN.out; rw [ix2]; omega) (by have := HN.out; unfold maxLen; omega) (Nat.le_refl _) ?_)
    intro w1 hown hgrow
    have HB1 : Hid (Below w.heap.size w w1) := (Below.refl _ _).grown hgrow (Nat.le_refl _) (fun k hk => by cases hk)
    have HO1 : Hid (w1.ownsRow w.heap.size 5 1 (.slice (some ⟨w.heap.size, 0, none⟩) N N) N (bv (part (x3 L1 L2 L3) N 0))) := by rw [← zero_cells]; exact hown
    clear hown hgrow
    go_wp2_with fail
    go_loopw [9] (fun i wr => ∃ k : Nat, k ≤ N ∧ i = .int .i64 (k : Int) ∧ Hid (wr.ownsRow w.heap.size 5 1 (.slice (some ⟨w.heap.size, 0, none⟩) N N) N (bv (part (x3 L1 L2 L3) N k))) ∧ Hid (Below w.heap.size w wr)) (fun i _ => N - (intOf i).toNat)
    case atStart => exact ⟨0, Nat.zero_le _, rfl, HO1, HB1⟩
    case round =>
      obtain ⟨k, hk, rfl, HO, HB⟩ := hrel
      have hzr := HB.out.size
      have HN' := HN.out
      by_cases hlt : k < N
      · have g1 : k < L1.length := by omega
        have g2 : k < L2.length := by omega
        have g3 : k < L3.length := by omega
        obtain ⟨b1, o1, e1, _, _, k1⟩ := By.at_ (l := L1) (i := k) (by obtain ⟨A', c', he, _, _, _, h4⟩ := H1.out.below HB.out (Nat.le_refl _); injection he with x1 x2 x3; subst x1; exact h4) g1
        obtain ⟨b2, o2, e2, _, _, k2⟩ := By.at_ (l := L2) (i := k) (by obtain ⟨A', c', he, _, _, _, h4⟩ := H2.out.below HB.out (Nat.le_refl _); injection he with x1 x2 x3; subst x1; exact h4) g2
        obtain ⟨b3, o3, e3, _, _, k3⟩ := By.at_ (l := L3) (i := k) (by obtain ⟨A', c', he, _, _, _, h4⟩ := H3.out.below HB.out (Nat.le_refl _); injection he with x1 x2 x3; subst x1; exact h4) g3
        subst e1 e2 e3
        have HX := Lib.hid (x3_bits B1.out B2.out B3.out g1 g2 g3)
        have k4 := HO.out.cellAt k (by omega)
        rw [List.getElem?_eq_getElem (by simp [bv, part]; omega)] at k4
        have k5 := HO.out.frozenAt k
        have i1 : (k : Int) < (L1.length : Int) := by omega
        have i2 : (k : Int) < (L2.length : Int) := by omega
        have i3 : (k : Int) < (L3.length : Int) := by omega
        have i4 : (k : Int) < (N : Int) := by omega
        go_wp2_with fail
        go_still_tail 17, (by kernel_rfl)
        change wpList _ _ _ _ _ wr.drew
        go_wp2_with fail
        rw [HX.out]
        go_roundw
        case rel =>
          refine ⟨k + 1, by omega, by go_num, ?_, Lib.hid (HB.out.drew.setCell (Nat.le_refl _) _)⟩
          have h1 := (HO.out.drew.stored k (.int .u8 ((x3 L1 L2 L3 k : Nat) : Int))).1
          have e : (bv (part (x3 L1 L2 L3) N k)).set k (.int .u8 ((x3 L1 L2 L3 k : Nat) : Int)) = bv (part (x3 L1 L2 L3) N (k + 1)) := by
            rw [← part_set]; simp [bv, List.map_set]
          rw [e] at h1
          exact h1
        case measure => simp [intOf]; omega
      · obtain rfl : k = N := by omega
        go_upto_region 9 with (fail)
        obtain ⟨X, hX⟩ : ∃ X, X = part (x3 L1 L2 L3) k k := ⟨_, rfl⟩
        have HXX : Hid (∀ u, Ext wr.drew u → Bs u 0 (w.heap.size + (wr.heap.size - w.heap.size)) (.slice (some ⟨w.heap.size, 0, none⟩) k k) X) := by
          intro u hu
          have hown := own_below HO.out ((Ext.drew wr).trans hu) (Nat.le_refl _)
          have := Bs.of_own (l := X) (v := .slice (some ⟨w.heap.size, 0, none⟩) k k) (e := 5) (base := w.heap.size) (n := k) (w := wr) (by rw [hX]; exact HO.out)
          refine (this.below ((Ext.drew wr).trans hu) (Nat.le_refl _)).wide (Nat.zero_le _) (by omega)
        have HXB : Hid (∀ x ∈ X, x < 256) := by
          rw [hX]; intro x hx
          simp only [part_all, List.mem_map] at hx
          obtain ⟨i, _, rfl⟩ := hx
          exact x3_lt B1.out B2.out B3.out i
        obtain ⟨s1, hs1⟩ : ∃ s1, s1 = crc (L1.take k) := ⟨_, rfl⟩
        obtain ⟨s2, hs2⟩ : ∃ s2, s2 = crc (L2.take k) := ⟨_, rfl⟩
        obtain ⟨s3, hs3⟩ : ∃ s3, s3 = crc (L3.take k) := ⟨_, rfl⟩
        obtain ⟨s0, hs0⟩ : ∃ s0, s0 = s1 ^^^ s2 ^^^ s3 := ⟨_, rfl⟩
        have HS0 : Hid (crc X = s0) := by
          rw [hs0, hs1, hs2, hs3, hX, part_all, zx_x3 _ _ _ _ hN1 hN2 hN3]
          exact crc_three _ _ _ (by simp; omega) (by simp; omega)
        have l1 : ∀ (l : List Nat), (∀ x ∈ l, x < 256) → ∀ x ∈ l.take k, x < 256 := fun l hl x hx => hl x (List.mem_of_mem_take hx)
        have HX1 := Lib.hid (xor_u32 (show s1 < 4294967296 by rw [hs1]; exact crc_lt (l1 _ B1.out)) (show s2 < 4294967296 by rw [hs2]; exact crc_lt (l1 _ B2.out)))
        have HX2 := Lib.hid (xor_u32 (xor_lt (show s1 < 4294967296 by rw [hs1]; exact crc_lt (l1 _ B1.out)) (show s2 < 4294967296 by rw [hs2]; exact crc_lt (l1 _ B2.out))) (show s3 < 4294967296 by rw [hs3]; exact crc_lt (l1 _ B3.out)))
        rw [← hs0] at HX2
        have HS1 := Lib.hid hs1.symm
        have HS2 := Lib.hid hs2.symm
        have HS3 := Lib.hid hs3.symm
        have LB := Lib.hid l1
        have cut : ∀ (A : Option Addr) (c : Nat) (l : List Nat), k ≤ l.length → Bs w 0 w.heap.size (.slice A l.length c) l → ∀ u, Ext wr.drew u → Bs u 0 w.heap.size (.slice A k c) (l.take k) := fun A c l hk h u hu => by
          obtain ⟨A', c', he, a1, a2, a3, a4⟩ := h.below (HB.out.trans (((Ext.drew wr).trans hu).mono hzr)) (Nat.le_refl _)
          injection he with x1 x2 x3
          subst x1 x3
          refine ⟨A, c, by rw [List.length_take, Nat.min_eq_left hk], by rw [List.length_take]; omega, a2, a3, ?_⟩
          unfold By
          rw [bv_take]
          exact Sl.take a4 k
        have HC1 := Lib.hid (cut A1 c1 L1 hN1 H1.out)
        have HC2 := Lib.hid (cut A2 c2 L2 hN2 H2.out)
        have HC3 := Lib.hid (cut A3 c3 L3 hN3 H3.out)
        have hzz := Lib.hid hzr
        have j1 : (k : Int) ≤ (c1 : Int) := by obtain ⟨A', c', he, a1, _⟩ := H1.out; injection he with x1 x2 x3; subst x3; omega
        have j2 : (k : Int) ≤ (c2 : Int) := by obtain ⟨A', c', he, a1, _⟩ := H2.out; injection he with x1 x2 x3; subst x3; omega
        have j3 : (k : Int) ≤ (c3 : Int) := by obtain ⟨A', c', he, a1, _⟩ := H3.out; injection he with x1 x2 x3; subst x3; omega
        clear hX hs1 hs2 hs3 hs0 l1 cut
        refine flow (by kernel_rfl) [Is (.slice (some ⟨w.heap.size, 0, none⟩) k k), Blt X, Is (.int .u32 (s0 : Int)), Is (.slice A1 L1.length c1), Is (.int .i64 (k : Int)), Is (.slice A1 k c1), Blt (L1.take k), Is (.int .u32 (s1 : Int)), Is (.slice A2 L2.length c2), Is (.int .i64 (k : Int)), Is (.slice A2 k c2), Blt (L2.take k), Is (.int .u32 (s2 : Int)), Is (.int .u32 ((s1 ^^^ s2 : Nat) : Int)), Is (.slice A3 L3.length c3), Is (.int .i64 (k : Int)), Is (.slice A3 k c3), Blt (L3.take k), Is (.int .u32 (s3 : Int)), Is (.int .u32 (s0 : Int)), Is (.bool true), Is (.bool true), Is (.bool true), Is (.bool true), Is (.bool true)] (by kernel_rfl) (by kernel_rfl) ?mono (fun f => ?obl) ?fin
        case mono =>
          simp only [List.forall_mem_cons, List.not_mem_nil, false_imp_iff, implies_true, and_true]
          exact ⟨.is _, .blt _, .is _, .is _, .is _, .is _, .blt _, .is _, .is _, .is _, .is _, .blt _, .is _, .is _, .is _, .is _, .is _, .blt _, .is _, .is _, .is _, .is _, .is _, .is _, .is _⟩
        case fin =>
          intro g u hu hg
          simp only [puts, Act.put, List.setIfInBounds_toArray, List.set_cons_zero, List.set_cons_succ]
          have h24 : g 24 = .bool true := hg 24 (by decide)
          rw [h24]
          go_wp2_with fail
          go_ret
          exact ⟨rfl, HB.out.trans (((Ext.drew wr).trans hu).mono hzr)⟩
        case obl =>
          refine ⟨fun u hu hd => ?_, ?_⟩
          · try simp only [Act.put, List.setIfInBounds_toArray, List.set_cons_zero, List.set_cons_succ]
            go_simp
            exact ⟨Ext.refl _, rfl⟩
          refine ⟨fun u hu hd => ?_, ?_⟩
          · try simp only [Act.put, List.setIfInBounds_toArray, List.set_cons_zero, List.set_cons_succ]
            have e0 : f 0 = .slice (some ⟨w.heap.size, 0, none⟩) k k := hd 0 (by kernel_rfl)
            have hbs := Lib.hid (HXX.out u hu)
            go_simp
            refine ⟨below_mark _ _, ?_⟩
            exact ⟨u.heap.size, u.heap.size + 1, rfl, by simp, _, rows_one hbs.out (by have := hu.size; simp at this; have := hzz.out; omega)⟩
          refine ⟨fun u hu hd => ?_, ?_⟩
          · try simp only [Act.put, List.setIfInBounds_toArray, List.set_cons_zero, List.set_cons_succ]
            obtain ⟨g, h, e1, hh, x, hr⟩ : Blt (X) (f 1) u := hd 1 (by kernel_rfl)
            have HR := Lib.hid hr
            clear hr
            go_simp
            refine (sum_any _ 1 _ _ _ [X] _ HR.out hh (by simp [maxLen]) (by simp) (by simpa using HXB.out)).mono ?_
            rintro e w9 ⟨rfl, hb9⟩
            exact ⟨_, rfl, hb9, by show Value.int .u32 _ = _; simp only [List.flatten_cons, List.flatten_nil, List.append_nil]; rw [HS0.out]⟩
          refine ⟨fun u hu hd => ?_, ?_⟩
          · try simp only [Act.put, List.setIfInBounds_toArray, List.set_cons_zero, List.set_cons_succ]
            go_simp
            exact ⟨Ext.refl _, rfl⟩
          refine ⟨fun u hu hd => ?_, ?_⟩
          · try simp only [Act.put, List.setIfInBounds_toArray, List.set_cons_zero, List.set_cons_succ]
            go_simp
            exact ⟨Ext.refl _, rfl⟩
          refine ⟨fun u hu hd => ?_, ?_⟩
          · try simp only [Act.put, List.setIfInBounds_toArray, List.set_cons_zero, List.set_cons_succ]
            have e3 : f 3 = .slice A1 L1.length c1 := hd 3 (by kernel_rfl)
            have e4 : f 4 = .int .i64 (k : Int) := hd 4 (by kernel_rfl)
            go_simp
            exact ⟨Ext.refl _, rfl⟩
          refine ⟨fun u hu hd => ?_, ?_⟩
          · try simp only [Act.put, List.setIfInBounds_toArray, List.set_cons_zero, List.set_cons_succ]
            have e5 : f 5 = .slice A1 k c1 := hd 5 (by kernel_rfl)
            have hbs := Lib.hid (HC1.out u hu)
            go_simp
            refine ⟨below_mark _ _, ?_⟩
            exact ⟨u.heap.size, u.heap.size + 1, rfl, by simp, _, rows_one hbs.out (by have := hu.size; simp at this; have := hzz.out; omega)⟩
          refine ⟨fun u hu hd => ?_, ?_⟩
          · try simp only [Act.put, List.setIfInBounds_toArray, List.set_cons_zero, List.set_cons_succ]
            obtain ⟨g, h, e6, hh, x, hr⟩ : Blt (L1.take k) (f 6) u := hd 6 (by kernel_rfl)
            have HR := Lib.hid hr
            clear hr
            go_simp
            refine (sum_any _ 1 _ _ _ [L1.take k] _ HR.out hh (by simp [maxLen]) (by simp) (by simpa using LB.out _ B1.out)).mono ?_
            rintro e w9 ⟨rfl, hb9⟩
            exact ⟨_, rfl, hb9, by show Value.int .u32 _ = _; simp only [List.flatten_cons, List.flatten_nil, List.append_nil]; rw [HS1.out]⟩
          refine ⟨fun u hu hd => ?_, ?_⟩
          · try simp only [Act.put, List.setIfInBounds_toArray, List.set_cons_zero, List.set_cons_succ]
            go_simp
            exact ⟨Ext.refl _, rfl⟩
          refine ⟨fun u hu hd => ?_, ?_⟩
          · try simp only [Act.put, List.setIfInBounds_toArray, List.set_cons_zero, List.set_cons_succ]
            go_simp
            exact ⟨Ext.refl _, rfl⟩
          refine ⟨fun u hu hd => ?_, ?_⟩
          · try simp only [Act.put, List.setIfInBounds_toArray, List.set_cons_zero, List.set_cons_succ]
            have e8 : f 8 = .slice A2 L2.length c2 := hd 8 (by kernel_rfl)
            have e9 : f 9 = .int .i64 (k : Int) := hd 9 (by kernel_rfl)
            go_simp
            exact ⟨Ext.refl _, rfl⟩
          refine ⟨fun u hu hd => ?_, ?_⟩
          · try simp only [Act.put, List.setIfInBounds_toArray, List.set_cons_zero, List.set_cons_succ]
            have e10 : f 10 = .slice A2 k c2 := hd 10 (by kernel_rfl)
            have hbs := Lib.hid (HC2.out u hu)
            go_simp
            refine ⟨below_mark _ _, ?_⟩
            exact ⟨u.heap.size, u.heap.size + 1, rfl, by simp, _, rows_one hbs.out (by have := hu.size; simp at this; have := hzz.out; omega)⟩
          refine ⟨fun u hu hd => ?_, ?_⟩
          · try simp only [Act.put, List.setIfInBounds_toArray, List.set_cons_zero, List.set_cons_succ]
            obtain ⟨g, h, e11, hh, x, hr⟩ : Blt (L2.take k) (f 11) u := hd 11 (by kernel_rfl)
            have HR := Lib.hid hr
            clear hr
            go_simp
            refine (sum_any _ 1 _ _ _ [L2.take k] _ HR.out hh (by simp [maxLen]) (by simp) (by simpa using LB.out _ B2.out)).mono ?_
            rintro e w9 ⟨rfl, hb9⟩
            exact ⟨_, rfl, hb9, by show Value.int .u32 _ = _; simp only [List.flatten_cons, List.flatten_nil, List.append_nil]; rw [HS2.out]⟩
          refine ⟨fun u hu hd => ?_, ?_⟩
          · try simp only [Act.put, List.setIfInBounds_toArray, List.set_cons_zero, List.set_cons_succ]
            have e7 : f 7 = .int .u32 (s1 : Int) := hd 7 (by kernel_rfl)
            have e12 : f 12 = .int .u32 (s2 : Int) := hd 12 (by kernel_rfl)
            go_simp
            exact ⟨Ext.refl _, by show Value.int .u32 _ = _; rw [HX1.out]⟩
          refine ⟨fun u hu hd => ?_, ?_⟩
          · try simp only [Act.put, List.setIfInBounds_toArray, List.set_cons_zero, List.set_cons_succ]
            go_simp
            exact ⟨Ext.refl _, rfl⟩
          refine ⟨fun u hu hd => ?_, ?_⟩
          · try simp only [Act.put, List.setIfInBounds_toArray, List.set_cons_zero, List.set_cons_succ]
            go_simp
            exact ⟨Ext.refl _, rfl⟩
          refine ⟨fun u hu hd => ?_, ?_⟩
          · try simp only [Act.put, List.setIfInBounds_toArray, List.set_cons_zero, List.set_cons_succ]
            have e14 : f 14 = .slice A3 L3.length c3 := hd 14 (by kernel_rfl)
            have e15 : f 15 = .int .i64 (k : Int) := hd 15 (by kernel_rfl)
            go_simp
            exact ⟨Ext.refl _, rfl⟩
          refine ⟨fun u hu hd => ?_, ?_⟩
          · try simp only [Act.put, List.setIfInBounds_toArray, List.set_cons_zero, List.set_cons_succ]
            have e16 : f 16 = .slice A3 k c3 := hd 16 (by kernel_rfl)
            have hbs := Lib.hid (HC3.out u hu)
            go_simp
            refine ⟨below_mark _ _, ?_⟩
            exact ⟨u.heap.size, u.heap.size + 1, rfl, by simp, _, rows_one hbs.out (by have := hu.size; simp at this; have := hzz.out; omega)⟩
          refine ⟨fun u hu hd => ?_, ?_⟩
          · try simp only [Act.put, List.setIfInBounds_toArray, List.set_cons_zero, List.set_cons_succ]
            obtain ⟨g, h, e17, hh, x, hr⟩ : Blt (L3.take k) (f 17) u := hd 17 (by kernel_rfl)
            have HR := Lib.hid hr
            clear hr
            go_simp
            refine (sum_any _ 1 _ _ _ [L3.take k] _ HR.out hh (by simp [maxLen]) (by simp) (by simpa using LB.out _ B3.out)).mono ?_
            rintro e w9 ⟨rfl, hb9⟩
            exact ⟨_, rfl, hb9, by show Value.int .u32 _ = _; simp only [List.flatten_cons, List.flatten_nil, List.append_nil]; rw [HS3.out]⟩
          refine ⟨fun u hu hd => ?_, ?_⟩
          · try simp only [Act.put, List.setIfInBounds_toArray, List.set_cons_zero, List.set_cons_succ]
            have e13 : f 13 = .int .u32 ((s1 ^^^ s2 : Nat) : Int) := hd 13 (by kernel_rfl)
            have e18 : f 18 = .int .u32 (s3 : Int) := hd 18 (by kernel_rfl)
            go_simp
            exact ⟨Ext.refl _, by show Value.int .u32 _ = _; rw [HX2.out]⟩
          refine ⟨fun u hu hd => ?_, ?_⟩
          · try simp only [Act.put, List.setIfInBounds_toArray, List.set_cons_zero, List.set_cons_succ]
            have e2 : f 2 = .int .u32 (s0 : Int) := hd 2 (by kernel_rfl)
            have e19 : f 19 = .int .u32 (s0 : Int) := hd 19 (by kernel_rfl)
            have heq : ((s0 : Int) == (s0 : Int)) = true := by simp
            go_simp
            exact ⟨Ext.refl _, rfl⟩
          refine ⟨fun u hu hd => ?_, ?_⟩
          · try simp only [Act.put, List.setIfInBounds_toArray, List.set_cons_zero, List.set_cons_succ]
            have e20 : f 20 = .bool true := hd 20 (by kernel_rfl)
            go_simp
            exact ⟨Ext.refl _, rfl⟩
          refine ⟨fun u hu hd => ?_, ?_⟩
          · try simp only [Act.put, List.setIfInBounds_toArray, List.set_cons_zero, List.set_cons_succ]
            have e21 : f 21 = .bool true := hd 21 (by kernel_rfl)
            go_simp
            refine (known_any u).mono ?_
            rintro e w9 ⟨rfl, hb9⟩
            exact ⟨_, rfl, hb9, rfl⟩
          refine ⟨fun u hu hd => ?_, ?_⟩
          · try simp only [Act.put, List.setIfInBounds_toArray, List.set_cons_zero, List.set_cons_succ]
            have e21 : f 21 = .bool true := hd 21 (by kernel_rfl)
            have e22 : f 22 = .bool true := hd 22 (by kernel_rfl)
            go_simp
            exact ⟨Ext.refl _, rfl⟩
          refine ⟨fun u hu hd => ?_, ?_⟩
          · try simp only [Act.put, List.setIfInBounds_toArray, List.set_cons_zero, List.set_cons_succ]
            have e23 : f 23 = .bool true := hd 23 (by kernel_rfl)
            go_simp
            exact ⟨Ext.refl _, rfl⟩
          trivial
end Go.Proofs.Ytppeomikmpahmaa.crcXors
