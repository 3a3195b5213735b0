/- The chapter's rows, which every law asks. -/
import Derived.Test.YtcofnbeemfhcpaaIover
import Derived.Lib.SlBytesConst
import Derived.Lib.SmallJoins
namespace Go.Proofs.Ytcofnbeemfhcpaa
open Go.ChangeShapes Go.WideShapes Go.ChangeAt Go.RowKit Go.Lib Go.Joins

/-- A literal of bytes: its marked block reads as they. -/
theorem bs_mark (w : World) (l : List Nat) (hl : l.length ≤ 100) (fr : Nat × Nat) : Bs (w.alloc (.cells (bv l).toArray 5 fr)) w.heap.size (w.heap.size + 1) (.slice (some ⟨w.heap.size, 0, none⟩) l.length l.length) l := by
  refine ⟨_, _, rfl, Nat.le_refl _, by simp [maxLen]; omega, (fun h => by cases h), .inr ⟨w.heap.size, 0, rfl, Nat.le_refl _, Nat.lt_succ_self _, fun i u hu => ?_⟩⟩
  rw [cell_alloc_mark_at _ _ _ _ _ _ rfl, Nat.zero_add]
  simpa using hu
theorem put_lit {e : Ent} {k v : List Nat} {kb vb : ByteArray} {s : Int} (he : e = ⟨k, s, 1, v⟩) (hkb : kb = tx k) (hvb : vb = tx v) (hk : ∀ x ∈ k, x < 256) (hv : ∀ x ∈ v, x < 256) (hkl : k.length ≤ 1000) (hvl : v.length ≤ 1000) (h1 : 0 ≤ s) (h2 : s ≤ 1000) (w : World) :
    Calls Try.prog 11 #[.string kb, .int .i64 s, .string vb] w (LitAns w e) := by
  subst he hkb hvb
  exact put_any k v s hk hv hkl hvl (by omega) (by omega) w
theorem del_lit {e : Ent} {k : List Nat} {kb : ByteArray} {s : Int} (he : e = ⟨k, s, 2, []⟩) (hkb : kb = tx k) (hk : ∀ x ∈ k, x < 256) (hkl : k.length ≤ 1000) (h1 : 0 ≤ s) (h2 : s ≤ 1000) (w : World) :
    Calls Try.prog 10 #[.string kb, .int .i64 s] w (LitAns w e) := by
  subst he hkb
  exact del_any k s hk hkl (by omega) (by omega) w

def kA5x : Ent := ⟨[97], 5, 1, [120]⟩
def kD5 : Ent := ⟨[97], 5, 2, []⟩
def kD1 : Ent := ⟨[97], 1, 2, []⟩
def kBad : Ent := ⟨[97], 1, 2, [120]⟩
def kA7 : Ent := ⟨[97], 7, 1, []⟩
def kB9 : Ent := ⟨[98], 9, 1, []⟩
def kB4 : Ent := ⟨[98], 4, 1, []⟩
def kA5 : Ent := ⟨[97], 5, 1, []⟩
def kB7 : Ent := ⟨[98], 7, 1, []⟩
theorem kA5x_may : kA5x.may = true := by decide
theorem kD5_may : kD5.may = true := by decide
theorem kBad_may : kBad.may = false := by decide
theorem kA5x_form : kA5x.form = [1, 97, 5, 1, 1, 120] := by simp [Ent.form, kA5x, bytesForm, form_lo]
theorem kD5_form : kD5.form = [1, 97, 5, 2] := by simp [Ent.form, kD5, bytesForm, form_lo]
theorem not_is {k r : List Nat} {s d : Nat} (hk : U64 k.length) (hs : U64 s) (hd : U64 d) (h : ∀ v, (⟨k, s, d, v⟩ : Ent).may = false) : ∀ e, ¬ IsE (bytesForm k ++ (form s ++ (form d ++ r))) e := by
  intro e he
  have hm := he.1
  obtain ⟨u1, u2, u3, u4⟩ := Ent.may_u64 hm
  obtain ⟨a1, a2, a3, a4, a5⟩ := mayN_iff.1 hm
  have hf := he.2
  unfold Ent.form at hf
  obtain ⟨e1, hf⟩ := bytesForm_cut u1 hk hf
  obtain ⟨e2, hf⟩ := form_cut u2 hs hf
  obtain ⟨e3, hf⟩ := form_cut u3 hd hf
  have h1 := h e.val
  have h2 : e = ⟨k, s, d, e.val⟩ := Ent.ext e1 (by dsimp only; omega) (by dsimp only; omega) rfl
  rw [← h2, hm] at h1
  cases h1
theorem no3 : ∀ e, ¬ IsE [1, 97, 5, 3] e := by
  have h := not_is (k := [97]) (s := 5) (d := 3) (r := []) ⟨by decide⟩ ⟨by decide⟩ ⟨by decide⟩ (fun v => by simp [Ent.may, mayN])
  simpa [bytesForm, form_lo] using h
theorem no0 : ∀ e, ¬ IsE [1, 97, 0, 2] e := by
  have h := not_is (k := [97]) (s := 0) (d := 2) (r := []) ⟨by decide⟩ ⟨by decide⟩ ⟨by decide⟩ (fun v => by simp [Ent.may, mayN])
  simpa [bytesForm, form_lo] using h
theorem kCmp1 : cmpE kA5 kA7 = 1 := by decide
theorem kCmp2 : cmpE kA5 kB7 = -1 := by decide
theorem kCmp3 : cmpE kA5x kD5 = 0 := by decide
theorem kFit (n : Nat) (h : RiseAt [kA7, kD5, kB9, kB4] n) : firsts ([kA7, kD5, kB9, kB4].take n) 6 (cuts ([kA7, kD5, kB9, kB4].take n) n 0 0) = [kD5, kB4] := by
  have hn : n = 4 := by
    have h1 := h.le
    rcases Nat.lt_or_ge n 4 with hlt | hge
    · exfalso
      obtain ⟨j, a, b, rfl, ha, hb, hc⟩ := h.stop hlt
      have hj : j = 0 ∨ j = 1 ∨ j = 2 := by omega
      rcases hj with rfl | rfl | rfl
      all_goals simp at ha hb; subst ha hb; exact hc (by decide)
    · simp at h1; omega
  subst hn
  rfl
theorem kSmall : ∀ e ∈ [kA7, kD5, kB9, kB4], e.key.length ≤ 1099511627776 ∧ e.val.length ≤ 1099511627776 := by
  intro e he
  simp only [List.mem_cons, List.not_mem_nil, or_false] at he
  rcases he with rfl | rfl | rfl | rfl <;> simp [kA7, kD5, kB9, kB4]
theorem errnum (n : Int) (w : World) : Calls Try.prog 8 #[.int .i64 n] w fun e w' => e = .returned (.int .i64 n) ∧ w = w' := by
  go_enter Try.func8, Try.ntmps8
  go_wp2
  go_ret
  exact ⟨rfl, rfl⟩

theorem Em.of_own {e : Ent} {g : Hd} {w : World} {B : Nat} (hk : Own B e.key (.slice g.kA e.key.length g.kc) w) (hv : Own B e.val (.slice g.vA e.val.length g.vc) w) (h : Good e) : Em w 0 w.heap.size e g := ⟨hk.bs, hv.bs, h.bk, h.bv, h.s1, h.s2, h.d1, h.d2⟩
/-- What the program answers of the entries of the rows. -/
theorem lit_em {w w' : World} {e : Ent} {x : Ending} (h : LitAns w e x w') : ∃ g, x = .returned (e.at_ g) ∧ Ext w w' ∧ Em w' 0 w'.heap.size e g := by
  obtain ⟨hx, g, rfl, hm⟩ := h
  exact ⟨g, rfl, hx, hm.wide (Nat.zero_le _) (Nat.le_refl _)⟩
theorem bytes_yes {w : World} {e : Ent} {g : Hd} (hm : Em w 0 w.heap.size e g) (h : e.may = true) : Calls Try.prog 6 #[e.at_ g] w fun x w' => ∃ A c, x = .returned (.tuple #[.slice A e.form.length c, .int .i64 0]) ∧ Bs w' 0 w'.heap.size (.slice A e.form.length c) e.form ∧ Ext w w' := by
  refine (ebytes_any hm (Nat.le_refl _)).mono ?_
  rintro x w' ⟨hx, (⟨_, A, c, rfl, ho⟩ | ⟨hn, _⟩)⟩
  · exact ⟨A, c, rfl, ho.bs, hx⟩
  · rw [h] at hn; cases hn
theorem bytes_no {w : World} {e : Ent} {g : Hd} (hm : Em w 0 w.heap.size e g) (h : e.may = false) : Calls Try.prog 6 #[e.at_ g] w fun x w' => x = .returned (.tuple #[.slice none 0 0, .int .i64 2]) ∧ Ext w w' := by
  refine (ebytes_any hm (Nat.le_refl _)).mono ?_
  rintro x w' ⟨hx, (⟨hn, _⟩ | ⟨_, rfl⟩)⟩
  · rw [h] at hn; cases hn
  · exact ⟨rfl, hx⟩
theorem read_no {w : World} {lo hi : Nat} {v : Value} {b : List Nat} (hv : Bs w lo hi v b) (hhi : hi ≤ w.heap.size) (hb : ∀ x ∈ b, x < 256) (hl : b.length ≤ 1000) (h : ∀ e, ¬ IsE b e) : Calls Try.prog 7 #[v] w fun x w' => x = .returned (.tuple #[noE, .int .i64 4]) ∧ Ext w w' := by
  refine (read_any hv hhi hb (by omega)).mono ?_
  rintro x w' ⟨hx, (⟨e, g, he, _⟩ | ⟨_, rfl⟩)⟩
  · exact absurd he (h e)
  · exact ⟨rfl, hx⟩
theorem compare_is {w : World} {a b : Ent} {g h : Hd} (hu : Em w 0 w.heap.size a g) (hv : Em w 0 w.heap.size b h) {z : Int} (hz : cmpE a b = z) :
    Calls Try.prog 22 #[a.at_ g, b.at_ h] w fun e w' => e = .returned (.int .i64 z) ∧ Ext w w' := by
  subst hz; exact compare_any hu hv (Nat.le_refl _) (Nat.le_refl _)

theorem es_lit (w : World) (L : List (Ent × Hd)) (h : ∀ p ∈ L, Em w 0 w.heap.size p.1 p.2) : Es (w.alloc (.cells (erow L).toArray 25)) 0 (w.heap.size + 1) (some ⟨w.heap.size, 0, none⟩) L := by
  refine ⟨.inr ⟨w.heap.size, 0, rfl, Nat.zero_le _, Nat.lt_succ_self _, fun i u hu => ?_⟩, fun p hp => ((h p hp).below (ext_alloc w _) (Nat.le_refl _)).wide (Nat.le_refl _) (Nat.le_succ _)⟩
  rw [Nat.zero_add, World.cell?_alloc_at _ _ _ _ rfl]
  simpa using hu
theorem Em.next {w w' : World} {e : Ent} {g : Hd} (h : Em w 0 w.heap.size e g) (hx : Ext w w') : Em w' 0 w'.heap.size e g := (h.below hx (Nat.le_refl _)).wide (Nat.le_refl _) hx.size
theorem Bs.next {w w' : World} {v : Value} {l : List Nat} (h : Bs w 0 w.heap.size v l) (hx : Ext w w') : Bs w' 0 w'.heap.size v l := (h.below hx (Nat.le_refl _)).wide (Nat.le_refl _) hx.size
theorem tA5x : tx kA5x.form = ⟨#[1, 97, 5, 1, 1, 120]⟩ := by rw [kA5x_form]; rfl
theorem tD5 : tx kD5.form = ⟨#[1, 97, 5, 2]⟩ := by rw [kD5_form]; rfl

set_option maxRecDepth 100000 in
set_option maxHeartbeats 8000000 in
theorem known_any (w : World) : Calls Try.prog 12 #[] w fun e w' => e = .returned (.bool true) ∧ Below w.heap.size w w' := by
  go_enter Try.func12, Try.ntmps12
  go_wp2_with fail
  refine (put_lit (e := kA5x) (k := [97]) (v := [120]) rfl rfl rfl (by decide) (by decide) (by decide) (by decide) (by decide) (by decide) w).mono ?_
  rintro x w1 hx
  obtain ⟨g1, rfl, hx1, hm1⟩ := lit_em hx
  have HX1 : Hid (Ext w w1) := hx1
  have HB := Lib.hid (bytes_yes hm1 kA5x_may)
  clear hx hx1 hm1
  go_wp2_with fail
  refine Calls.mono HB.out ?_
  rintro x w2 ⟨A1, c1, rfl, hb, hx2⟩
  have HX2 : Hid (Ext w w2) := Ext.trans HX1.out hx2
  have HF1 := Lib.hid hb
  clear hb hx2 HB
  go_wp2_with fail
  refine (del_lit (e := kD5) (k := [97]) rfl rfl (by decide) (by decide) (by decide) (by decide) w2).mono ?_
  rintro x w3 hx
  obtain ⟨g2, rfl, hx3, hm3⟩ := lit_em hx
  have HX3 : Hid (Ext w2 w3) := hx3
  have HB := Lib.hid (bytes_yes hm3 kD5_may)
  clear hx hx3 hm3
  go_wp2_with fail
  refine Calls.mono HB.out ?_
  rintro x w4 ⟨A2, c2, rfl, hb, hx4⟩
  have HX4 : Hid (Ext w2 w4) := Ext.trans HX3.out hx4
  have HF2 := Lib.hid hb
  clear hb hx4 HB
  have cv1 : (convert 22 22 (.slice (some ⟨w4.heap.size, 0, none⟩) 4 4)).run Try.prog (w4.alloc (.cells #[.int .u8 1, .int .u8 97, .int .u8 5, .int .u8 3] 5)) = .ok (.slice (some ⟨w4.heap.size, 0, none⟩) 4 4) (w4.alloc (.cells #[.int .u8 1, .int .u8 97, .int .u8 5, .int .u8 3] 5 (4, 5))) := run_convert_bytes_const_at _ _ _ _ _ _ _ (rfl) Try.underlying22 Try.underlying5
  have HRD := Lib.hid (read_no (bs_mark w4 [1, 97, 5, 3] (by simp) (4, 5)) (by simp) (by decide) (by decide) no3)
  go_wp2_with fail
  refine Calls.mono HRD.out ?_
  rintro x w5 ⟨rfl, hx5⟩
  have HX5 : Hid (Ext w4 w5) := Ext.trans (ext_alloc _ _) hx5
  clear hx5 cv1 HRD
  unfold noE
  go_upto_region 4 with (fail)
  obtain ⟨w6, hw6⟩ : ∃ w6, w6 = w5.alloc (.cells #[.slice none 0 0, .int .i64 0, .int .i64 0, .slice none 0 0] 25) := ⟨_, rfl⟩
  have HX6 : Hid (Ext w4 w6) := by rw [hw6]; exact Ext.trans HX5.out (ext_alloc _ _)
  have cv1 : (convert 22 22 (.slice (some ⟨w6.heap.size, 0, none⟩) 4 4)).run Try.prog (w6.alloc (.cells #[.int .u8 1, .int .u8 97, .int .u8 0, .int .u8 2] 5)) = .ok (.slice (some ⟨w6.heap.size, 0, none⟩) 4 4) (w6.alloc (.cells #[.int .u8 1, .int .u8 97, .int .u8 0, .int .u8 2] 5 (4, 5))) := run_convert_bytes_const_at _ _ _ _ _ _ _ (rfl) Try.underlying22 Try.underlying5
  have HRD := Lib.hid (read_no (bs_mark w6 [1, 97, 0, 2] (by simp) (4, 5)) (by simp) (by decide) (by decide) no0)
  rw [← hw6]
  clear hw6
  go_wp2_with fail
  refine Calls.mono HRD.out ?_
  rintro x w7 ⟨rfl, hx7⟩
  have HX7 : Hid (Ext w4 w7) := Ext.trans HX6.out (Ext.trans (ext_alloc _ _) hx7)
  clear hx7 cv1 HRD HX5 HX6
  unfold noE
  go_wp2_with fail
  obtain ⟨w8, hw8⟩ : ∃ w8, w8 = w7.alloc (.cells #[.slice none 0 0, .int .i64 0, .int .i64 0, .slice none 0 0] 25) := ⟨_, rfl⟩
  rw [← hw8]
  have HX8 : Hid (Ext w4 w8) := by rw [hw8]; exact Ext.trans HX7.out (ext_alloc _ _)
  clear hw8 HX7
  refine (del_lit (e := kD1) (k := [97]) rfl rfl (by decide) (by decide) (by decide) (by decide) w8).mono ?_
  rintro x w9 hx
  obtain ⟨g3, rfl, hx9, hm9⟩ := lit_em hx
  have HX9 : Hid (Ext w4 w9) := Ext.trans HX8.out hx9
  have HM9 := Lib.hid hm9
  clear hx hx9 hm9 HX8
  unfold Ent.at_
  have hkl : kD1.key.length = 1 := rfl
  have hvl : kD1.val.length = 0 := rfl
  have hks : kD1.seq = 1 := rfl
  have hkd : kD1.kind = 2 := rfl
  rw [hkl, hvl, hks, hkd]
  go_upto_region 6 with (fail)
  obtain ⟨w10, hw10⟩ : ∃ w10, w10 = w9.alloc (.cells #[.slice g3.kA 1 g3.kc, .int .i64 1, .int .i64 2, .slice g3.vA 0 g3.vc] 25) := ⟨_, rfl⟩
  have HX10 : Hid (Ext w9 w10) := by rw [hw10]; exact ext_alloc _ _
  have HB10 : Hid (w10.heap[w9.heap.size]? = some (.cells #[.slice g3.kA 1 g3.kc, .int .i64 1, .int .i64 2, .slice g3.vA 0 g3.vc] 25 (0, 0))) := by rw [hw10]; exact heap_at _ _ rfl
  have cv1 : (convert 22 22 (.slice (some ⟨w10.heap.size, 0, none⟩) 1 1)).run Try.prog (w10.alloc (.cells #[.int .u8 120] 5)) = .ok (.slice (some ⟨w10.heap.size, 0, none⟩) 1 1) (w10.alloc (.cells #[.int .u8 120] 5 (1, 2))) := run_convert_bytes_const_at _ _ _ _ _ _ _ (rfl) Try.underlying22 Try.underlying5
  rw [← hw10]
  clear hw10
  have hb11 := ext_heap (ext_alloc w10 (.cells #[.int .u8 120] 5 (1, 2))) HB10.out
  have q3 := cell_of hb11 (k := 3) rfl
  have z3 := frozen_four hb11 (j := 3)
  have HB11 := Lib.hid hb11
  clear hb11 hkl hvl hks hkd
  go_upto_region 7 with (fail)
  clear q3 z3 cv1
  obtain ⟨w11, hw11⟩ : ∃ w11, w11 = (w10.alloc (.cells #[.int .u8 120] 5 (1, 2))).setCell ⟨w9.heap.size, 3, none⟩ (.slice (some ⟨w10.heap.size, 0, none⟩) 1 1) := ⟨_, rfl⟩
  rw [← hw11]
  have hset : w11.heap[w9.heap.size]? = some (.cells #[.slice g3.kA 1 g3.kc, .int .i64 1, .int .i64 2, .slice (some ⟨w10.heap.size, 0, none⟩) 1 1] 25 (0, 0)) := by
    rw [hw11, heap_setCell_same _ w9.heap.size 3 _ _ _ HB11.out]; rfl
  have HX11 : Hid (Ext w9 w11) := by rw [hw11]; exact Below.setCell (Ext.trans HX10.out (ext_alloc _ _)) (Nat.le_refl _) _
  have hz10 : w9.heap.size < w10.heap.size := (Array.getElem?_eq_some_iff.1 HB10.out).1
  have HBAD : Hid (Em w11 0 w11.heap.size kBad ⟨g3.kA, g3.kc, some ⟨w10.heap.size, 0, none⟩, 1⟩) := by
    refine ⟨(HM9.out.k.below HX11.out (Nat.le_refl _)).wide (Nat.le_refl _) HX11.out.size, ?_, by decide, by decide, by decide, by decide, by decide, by decide⟩
    have h1 := bs_mark w10 [120] (by simp) (1, 2)
    have h2 := h1.setCell (p := ⟨w9.heap.size, 3, none⟩) (.inl hz10) (.slice (some ⟨w10.heap.size, 0, none⟩) 1 1)
    rw [hw11]
    exact h2.wide (Nat.zero_le _) (by simp [World.setCell])
  have HBN := Lib.hid (bytes_no HBAD.out kBad_may)
  have q0 := cell_of hset (k := 0) rfl
  have q1 := cell_of hset (k := 1) rfl
  have q2 := cell_of hset (k := 2) rfl
  have q3 := cell_of hset (k := 3) rfl
  clear hset hw11 hz10
  go_wp2_with fail
  refine Calls.mono HBN.out ?_
  rintro x w12 ⟨rfl, hx12⟩
  have HX12 : Hid (Ext w4 w12) := Ext.trans HX9.out (Ext.trans HX11.out hx12)
  clear hx12 HBN HBAD HX9 HX10 HX11 HB10 HB11 HM9 q0 q1 q2 q3
  go_wp2_with fail
  refine (put_lit (e := kA7) (k := [97]) (v := []) rfl rfl rfl (by decide) (by decide) (by decide) (by decide) (by decide) (by decide) w12).mono ?_
  rintro x w13 hx
  obtain ⟨h1, rfl, hx13, hm1⟩ := lit_em hx
  have HX13 := Lib.hid hx13
  have HM1 := Lib.hid hm1
  clear hx hx13 hm1
  go_wp2_with fail
  refine (del_lit (e := kD5) (k := [97]) rfl rfl (by decide) (by decide) (by decide) (by decide) w13).mono ?_
  rintro x w14 hx
  obtain ⟨h2, rfl, hx14, hm2⟩ := lit_em hx
  have HX14 := Lib.hid hx14
  have HM2 := Lib.hid hm2
  clear hx hx14 hm2
  go_wp2_with fail
  refine (put_lit (e := kB9) (k := [98]) (v := []) rfl rfl rfl (by decide) (by decide) (by decide) (by decide) (by decide) (by decide) w14).mono ?_
  rintro x w15 hx
  obtain ⟨h3, rfl, hx15, hm3⟩ := lit_em hx
  have HX15 := Lib.hid hx15
  have HM3 := Lib.hid hm3
  clear hx hx15 hm3
  go_wp2_with fail
  refine (put_lit (e := kB4) (k := [98]) (v := []) rfl rfl rfl (by decide) (by decide) (by decide) (by decide) (by decide) (by decide) w15).mono ?_
  rintro x w16 hx
  obtain ⟨h4, rfl, hx16, hm4⟩ := lit_em hx
  have HX16 := Lib.hid hx16
  have HM4 := Lib.hid hm4
  clear hx hx16 hm4
  unfold Ent.at_
  go_upto_region 9 with (fail)
  have hes := es_lit w16 [(kA7, h1), (kD5, h2), (kB9, h3), (kB4, h4)] (fun p hp => by
    simp only [List.mem_cons, List.not_mem_nil, or_false] at hp
    rcases hp with rfl | rfl | rfl | rfl
    · exact ((HM1.out.next HX14.out).next HX15.out).next HX16.out
    · exact (HM2.out.next HX15.out).next HX16.out
    · exact HM3.out.next HX16.out
    · exact HM4.out)
  obtain ⟨w17, hw17⟩ : ∃ w17, w17 = w16.alloc (.cells (erow [(kA7, h1), (kD5, h2), (kB9, h3), (kB4, h4)]).toArray 25) := ⟨_, rfl⟩
  have hz17 : w17.heap.size = w16.heap.size + 1 := by rw [hw17]; simp
  rw [← hw17, ← hz17] at hes
  have HES := Lib.hid hes
  have HX17 : Hid (Ext w4 w17) := Ext.trans HX12.out (Ext.trans HX13.out (Ext.trans HX14.out (Ext.trans HX15.out (Ext.trans HX16.out (by rw [hw17]; exact ext_alloc _ _)))))
  change Code.wp _ _ _ _ (w16.alloc (.cells (erow [(kA7, h1), (kD5, h2), (kB9, h3), (kB4, h4)]).toArray 25))
  rw [← hw17]
  clear hw17 hz17 hes HM1 HM2 HM3 HM4 HX12 HX13 HX14 HX15 HX16
  go_wp2_with fail
  refine (put_lit (e := kA5) (k := [97]) (v := []) rfl rfl rfl (by decide) (by decide) (by decide) (by decide) (by decide) (by decide) w17).mono ?_
  rintro x w18 hx
  obtain ⟨h18, rfl, hxx, hmm⟩ := lit_em hx
  have HX18 := Lib.hid hxx
  have HM18 := Lib.hid hmm
  clear hx hxx hmm
  go_wp2_with fail
  refine (put_lit (e := kA7) (k := [97]) (v := []) rfl rfl rfl (by decide) (by decide) (by decide) (by decide) (by decide) (by decide) w18).mono ?_
  rintro x w19 hx
  obtain ⟨h19, rfl, hxx, hmm⟩ := lit_em hx
  have HX19 := Lib.hid hxx
  have HM19 := Lib.hid hmm
  clear hx hxx hmm
  have HCM := Lib.hid (compare_is (HM18.out.next HX19.out) HM19.out kCmp1)
  go_wp2_with fail
  refine Calls.mono HCM.out ?_
  rintro x w20 ⟨rfl, hxx⟩
  have HX20 := Lib.hid hxx
  clear hxx HCM HM18 HM19
  go_wp2_with fail
  refine (put_lit (e := kA5) (k := [97]) (v := []) rfl rfl rfl (by decide) (by decide) (by decide) (by decide) (by decide) (by decide) w20).mono ?_
  rintro x w21 hx
  obtain ⟨h21, rfl, hxx, hmm⟩ := lit_em hx
  have HX21 := Lib.hid hxx
  have HM21 := Lib.hid hmm
  clear hx hxx hmm
  go_wp2_with fail
  refine (put_lit (e := kB7) (k := [98]) (v := []) rfl rfl rfl (by decide) (by decide) (by decide) (by decide) (by decide) (by decide) w21).mono ?_
  rintro x w22 hx
  obtain ⟨h22, rfl, hxx, hmm⟩ := lit_em hx
  have HX22 := Lib.hid hxx
  have HM22 := Lib.hid hmm
  clear hx hxx hmm
  have HCM := Lib.hid (compare_is (HM21.out.next HX22.out) HM22.out kCmp2)
  go_wp2_with fail
  refine Calls.mono HCM.out ?_
  rintro x w23 ⟨rfl, hxx⟩
  have HX23 := Lib.hid hxx
  clear hxx HCM HM21 HM22
  go_wp2_with fail
  refine (put_lit (e := kA5x) (k := [97]) (v := [120]) rfl rfl rfl (by decide) (by decide) (by decide) (by decide) (by decide) (by decide) w23).mono ?_
  rintro x w24 hx
  obtain ⟨h24, rfl, hxx, hmm⟩ := lit_em hx
  have HX24 := Lib.hid hxx
  have HM24 := Lib.hid hmm
  clear hx hxx hmm
  go_wp2_with fail
  refine (del_lit (e := kD5) (k := [97]) rfl rfl (by decide) (by decide) (by decide) (by decide) w24).mono ?_
  rintro x w25 hx
  obtain ⟨h25, rfl, hxx, hmm⟩ := lit_em hx
  have HX25 := Lib.hid hxx
  have HM25 := Lib.hid hmm
  clear hx hxx hmm
  have HCM := Lib.hid (compare_is (HM24.out.next HX25.out) HM25.out kCmp3)
  go_wp2_with fail
  refine Calls.mono HCM.out ?_
  rintro x w26 ⟨rfl, hxx⟩
  have HX26 := Lib.hid hxx
  clear hxx HCM HM24 HM25
  have HX26' : Hid (Ext w17 w26) := Ext.trans HX18.out (Ext.trans HX19.out (Ext.trans HX20.out (Ext.trans HX21.out (Ext.trans HX22.out (Ext.trans HX23.out (Ext.trans HX24.out (Ext.trans HX25.out HX26.out)))))))
  have cv1 := cv_any ((HF1.out.next HX4.out).next (Ext.trans HX17.out HX26'.out))
  have cv2 := cv_any (HF2.out.next (Ext.trans HX17.out HX26'.out))
  rw [tA5x] at cv1
  rw [tD5] at cv2
  clear HX18 HX19 HX20 HX21 HX22 HX23 HX24 HX25 HX26
  go_wp2_with fail
  refine (errnum 0 _).mono ?_
  rintro x w' ⟨rfl, rfl⟩
  go_wp2_with fail
  refine (errnum 0 _).mono ?_
  rintro x w' ⟨rfl, rfl⟩
  go_wp2_with fail
  refine (errnum 4 _).mono ?_
  rintro x w' ⟨rfl, rfl⟩
  go_wp2_with fail
  refine (errnum 4 _).mono ?_
  rintro x w' ⟨rfl, rfl⟩
  go_wp2_with fail
  refine (errnum 2 _).mono ?_
  rintro x w' ⟨rfl, rfl⟩
  clear cv1 cv2
  go_wp2_with fail
  refine (del_lit (e := kD5) (k := [97]) rfl rfl (by decide) (by decide) (by decide) (by decide) w26).mono ?_
  rintro x w27 hx
  obtain ⟨h27, rfl, hxx, hmm⟩ := lit_em hx
  have HX27 := Lib.hid hxx
  have HM27 := Lib.hid hmm
  clear hx hxx hmm
  go_wp2_with fail
  refine (put_lit (e := kB4) (k := [98]) (v := []) rfl rfl rfl (by decide) (by decide) (by decide) (by decide) (by decide) (by decide) w27).mono ?_
  rintro x w28 hx
  obtain ⟨h28, rfl, hxx, hmm⟩ := lit_em hx
  have HX28 := Lib.hid hxx
  have HM28 := Lib.hid hmm
  clear hx hxx hmm
  have hes2 := es_lit w28 [(kD5, h27), (kB4, h28)] (fun p hp => by
    simp only [List.mem_cons, List.not_mem_nil, or_false] at hp
    rcases hp with rfl | rfl
    · exact HM27.out.next HX28.out
    · exact HM28.out)
  have HX29 : Hid (Ext w17 (w28.alloc (.cells (erow [(kD5, h27), (kB4, h28)]).toArray 25))) := Ext.trans HX26'.out (Ext.trans HX27.out (Ext.trans HX28.out (ext_alloc _ _)))
  have hov := over_any (c2 := 2) (HES.out.below HX29.out (Nat.le_refl _)) HX29.out.size (by simp : [(kA7, h1), (kD5, h2), (kB9, h3), (kB4, h4)].length ≤ 4) (by simp [maxLen]) (by simp) (fun p hp => by
      simp only [List.mem_cons, List.not_mem_nil, or_false] at hp
      rcases hp with rfl | rfl | rfl | rfl <;> exact kSmall _ (by simp)) hes2 (by simp) 6 (by simp) (fun n hn => by
      have hle : n ≤ 4 := hn.le
      have h9 := kFit n hn
      have e1 : ([(kA7, h1), (kD5, h2), (kB9, h3), (kB4, h4)].take n).length = n := by rw [List.length_take]; exact Nat.min_eq_left hle
      rw [e1, List.map_take]
      exact h9) (fun p hp => by
      simp only [List.mem_cons, List.not_mem_nil, or_false] at hp
      rcases hp with rfl | rfl <;> exact kSmall _ (by simp))
  have HOV := Lib.hid hov
  clear hov hes2
  unfold Ent.at_
  go_wp2_with fail
  refine Calls.mono HOV.out ?_
  rintro x w30 ⟨rfl, hx30⟩
  have HX30 := Lib.hid (Ext.trans HX2.out (Ext.trans HX4.out (Ext.trans HX17.out (Ext.trans HX29.out hx30))))
  clear hx30
  go_wp2_with fail
  go_ret
  exact ⟨rfl, HX30.out⟩
end Go.Proofs.Ytcofnbeemfhcpaa
