/- Some of the chapter's rows, which every law asks. -/
import Derived.Test.YtkaammdekalgnaaMrone
import Derived.Lib.SlBytesConst
import Derived.Lib.SmallJoins
namespace Go.Proofs.Ytkaammdekalgnaa
open Go.ChangeShapes Go.WideShapes Go.ChangeAt Go.RowKit Go.Lib Go.Joins

/-- A literal of bytes: its marked block reads as they. -/
theorem bs_mark (w : World) (l : List Nat) (hl : l.length ≤ 100) (fr : Nat × Nat) : Bs (w.alloc (.cells (bv l).toArray 5 fr)) w.heap.size (w.heap.size + 1) (.slice (some ⟨w.heap.size, 0, none⟩) l.length l.length) l := by
  refine ⟨_, _, rfl, Nat.le_refl _, by simp [maxLen]; omega, (fun h => by cases h), .inr ⟨w.heap.size, 0, rfl, Nat.le_refl _, Nat.lt_succ_self _, fun i u hu => ?_⟩⟩
  rw [cell_alloc_mark_at _ _ _ _ _ _ rfl, Nat.zero_add]
  simpa using hu
/-- 'append(s, x...)', by how many they are then. -/
theorem wpList_addn {ops : Array Oper} {rest : List Oper} {o : Oper} {a : Act} {Q : Exit → Act → World → Prop} {wr : World} (hgd : o.guard = none) (s x : Operand)
    (ho : o.op = .call { callee := .builtin .append, args := #[s, x], argTypes := #[22, 22] }) (B : Nat) (v : Value) (l : List Nat) (hs : a.eval s = v) (hown : Own B l v wr)
    (lo hi : Nat) (u : Value) (r : List Nat) (hx : a.eval x = u) (hu : Bs wr lo hi u r) (L : List Nat) (N : Nat) (hL : l ++ r = L) (hN : L.length = N) (hlen : N ≤ 1099511627776) (hB : B ≤ wr.heap.size)
    (h : ∀ A' c' w', Own B L (.slice A' N c') w' → (∀ w0, Below B w0 wr → Below B w0 w') → wpList Try.prog ops Q rest (a.put o.dst (.slice A' N c')) w') :
    wpList Try.prog ops Q (o :: rest) a wr := by
  subst hL hN
  rw [List.length_append] at hlen
  exact wpList_addbytes hgd s x ho B v l hs hown lo hi u r hx hu hlen hB h

/-- The frame around "a". -/
def F9 : List Nat := frame [97]
theorem F9_len : F9.length = 9 := rfl
theorem F9_lt : ∀ x ∈ F9, x < 256 := frame_lt (by decide)
theorem F9_head : F9.take 4 = [0, 0, 0, 1] := rfl
theorem may97 : mayP [97] := ⟨by decide, by decide, by decide⟩
def two : List Nat := F9 ++ F9
theorem two_len : two.length = 18 := rfl
theorem two_lt : ∀ x ∈ two, x < 256 := fun x hx => by rcases List.mem_append.1 hx with hx | hx <;> exact F9_lt x hx
theorem two_row : two = row [[97], [97]] ++ [] := by simp [two, row, F9]
theorem two_cut : two.take 14 = row [[97]] ++ (frame [97]).take 5 := rfl
theorem two_cut9 : two.take 9 = F9 := rfl
theorem mays {p : List Nat} {n : Nat} (h : p ∈ List.replicate n [97]) : mayP p := by rw [List.mem_replicate] at h; rw [h.2]; exact may97
theorem two_frs : (frs two 0).length = 2 ∧ fend two 0 = 18 := by
  rw [two_row]; exact row_then (ps := [[97], [97]]) (fun p hp => mays (n := 2) hp) whole1_nil
theorem two_odd : odd two = false := by unfold odd; rw [two_frs.2]; rfl
theorem cut_frs : (frs (two.take 14) 0).length = 1 ∧ fend (two.take 14) 0 = 9 ∧ odd (two.take 14) = false := by
  rw [two_cut]; exact row_cut (ps := [[97]]) (fun p hp => mays (n := 1) hp) may97 (by decide)
theorem one_a : one F9 = some [97] := by
  have h := whole_frame may97 []
  rw [List.append_nil] at h
  unfold one F9; rw [h]; rfl
theorem one_two : one two = none := by
  have h : whole1 two = some [97] := whole_frame may97 F9
  unfold one; rw [h]; rfl
theorem bad_odd : odd (F9.set 8 98) = true := by
  have h := row_turned (ps := []) (by simp) may97 [] (j := 8) (x := 3) (by decide) (by decide) (by decide) (by decide) (by decide)
  exact h.2.2
theorem zeros_odd : odd (List.replicate 8 0) = true := by decide +kernel

/-- What the program answers of "a". -/
theorem put_a {w : World} {lo hi : Nat} {v : Value} (hv : Bs w lo hi v [97]) (hhi : hi ≤ w.heap.size) :
    Calls Try.prog 11 #[v] w fun e w' => ∃ A c, e = .returned (.tuple #[.slice A 9 c, .int .i64 0]) ∧ Own w.heap.size F9 (.slice A 9 c) w' ∧ Below w.heap.size w w' := by
  refine (put_any hv hhi (by decide)).mono ?_
  rintro e w' ⟨hb, v', ⟨h, _⟩ | ⟨h, _⟩ | ⟨_, _, he, ho⟩⟩
  · cases h
  · exact absurd h (by decide)
  · have ho' := ho
    obtain ⟨A, c, rfl, _, _, _, _⟩ := Sl.of_own ho'
    exact ⟨A, c, he, ho, hb⟩
theorem put_nil (w : World) : Calls Try.prog 11 #[.slice none 0 0] w fun e w' => e = .returned (.tuple #[.slice none 0 0, .int .i64 2]) ∧ Below w.heap.size w w' := by
  refine (put_any (lo := 0) (hi := 0) (Bs.nil w 0 0) (Nat.zero_le _) (by simp)).mono ?_
  rintro e w' ⟨hb, v', ⟨h, rfl, he⟩ | ⟨h, _⟩ | ⟨h, _⟩⟩
  · exact ⟨he, hb⟩
  · simp at h
  · simp at h
theorem count_two {w : World} {lo hi : Nat} {v : Value} (hv : Bs w lo hi v two) (hhi : hi ≤ w.heap.size) : Calls Try.prog 16 #[v] w fun e w' => e = .returned (.tuple #[.int .i64 2, .int .i64 18]) ∧ Below w.heap.size w w' := by
  refine (count_any hv hhi two_lt).mono ?_
  rintro e w' ⟨he, hb⟩
  rw [two_frs.1, two_frs.2] at he
  exact ⟨he, hb⟩
theorem count_cut {w : World} {lo hi : Nat} {v : Value} (hv : Bs w lo hi v (two.take 14)) (hhi : hi ≤ w.heap.size) : Calls Try.prog 16 #[v] w fun e w' => e = .returned (.tuple #[.int .i64 1, .int .i64 9]) ∧ Below w.heap.size w w' := by
  refine (count_any hv hhi (fun x hx => two_lt x (List.mem_of_mem_take hx))).mono ?_
  rintro e w' ⟨he, hb⟩
  rw [cut_frs.1, cut_frs.2.1] at he
  exact ⟨he, hb⟩
theorem odd_is {w : World} {lo hi : Nat} {v : Value} {b : List Nat} (hv : Bs w lo hi v b) (hhi : hi ≤ w.heap.size) (hb : ∀ x ∈ b, x < 256) (z : Bool) (hz : odd b = z) :
    Calls Try.prog 18 #[v] w fun e w' => e = .returned (.bool z) ∧ Below w.heap.size w w' := by subst hz; exact odd_any hv hhi hb
theorem one_is_a {w : World} {lo hi : Nat} {v : Value} (hv : Bs w lo hi v F9) (hhi : hi ≤ w.heap.size) : Calls Try.prog 20 #[v] w fun e w' => ∃ A c, e = .returned (.tuple #[.slice A 1 c, .bool true]) ∧ Own w.heap.size [97] (.slice A 1 c) w' ∧ Below w.heap.size w w' := by
  refine (one_any hv hhi F9_lt).mono ?_
  rintro e w' ⟨hb, ⟨p, v', hp, he, ho⟩ | ⟨hn, _⟩⟩
  · rw [one_a] at hp
    injection hp with hp
    subst hp
    have ho' := ho
    obtain ⟨A, c, rfl, _, _, _, _⟩ := Sl.of_own ho'
    exact ⟨A, c, he, ho, hb⟩
  · rw [one_a] at hn; cases hn
theorem one_is_two {w : World} {lo hi : Nat} {v : Value} (hv : Bs w lo hi v two) (hhi : hi ≤ w.heap.size) : Calls Try.prog 20 #[v] w fun e w' => e = .returned (.tuple #[.slice none 0 0, .bool false]) ∧ Below w.heap.size w w' := by
  refine (one_any hv hhi two_lt).mono ?_
  rintro e w' ⟨hb, ⟨p, v', hp, _⟩ | ⟨_, he⟩⟩
  · rw [one_two] at hp; cases hp
  · exact ⟨he, hb⟩
theorem num_any (n : Int) (w : World) : Calls Try.prog 12 #[.int .i64 n] w fun e w' => e = .returned (.int .i64 n) ∧ w = w' := by
  go_enter Try.func12, Try.ntmps12
  go_wp2
  go_ret
  exact ⟨rfl, rfl⟩
theorem zero_row (n : Nat) : (madeCells #[Value.int .u8 0] n).toList = bv (List.replicate n 0) := by
  apply List.ext_getElem
  · simp [size_madeCells, bv]
  · intro i h1 h2
    simp [madeCells, bv, Nat.mod_one]

set_option maxRecDepth 100000 in
set_option maxHeartbeats 8000000 in
theorem known_any (w : World) : Calls Try.prog 10 #[] w fun e w' => e = .returned (.bool true) ∧ Below w.heap.size w w' := by
  obtain ⟨i0, hi0, ix0, ix1, ix2⟩ := info_parts t5info
  have HI := Lib.hid hi0
  clear hi0
  have cv1 : (convert 22 22 (.slice (some ⟨w.heap.size, 0, none⟩) 1 1)).run Try.prog (w.alloc (.cells #[.int .u8 97] 5)) = .ok (.slice (some ⟨w.heap.size, 0, none⟩) 1 1) (w.alloc (.cells #[.int .u8 97] 5 (1, 2))) := run_convert_bytes_const_at _ _ _ _ _ _ _ (rfl) Try.underlying22 Try.underlying5
  have HPA := Lib.hid (put_a (bs_mark w [97] (by simp) (1, 2)) (by simp))
  go_enter Try.func10, Try.ntmps10
  go_wp2_with fail
  refine Calls.mono HPA.out ?_
  rintro e w1 ⟨A1, c1, rfl, ho, hb⟩
  have HB1 : Hid (Below w.heap.size w w1) := Ext.trans (ext_alloc w _) hb
  have HO1 : Hid (Own w.heap.size F9 (.slice A1 9 c1) w1) := ownsRow_base ho (by simp)
  clear cv1 HPA ho hb
  go_wp2_with fail
  refine (put_nil w1).mono ?_
  rintro e w2 ⟨rfl, hb⟩
  have HX2 : Hid (Ext w1 w2) := hb
  have HO2 := Lib.hid (HO1.out.below hb)
  clear hb
  go_wp2_with (at_builtin; refine wpList_addn rfl (.const (.slice none 0 0)) (.tmp 28) rfl w2.heap.size _ [] rfl (Own.nil _ w2) _ _ _ F9 rfl HO2.out.bs F9 9 rfl rfl (by decide) (Nat.le_refl _) ?_)
  intro A3 c3 w3 ho hb
  have HX3 : Hid (Ext w2 w3) := hb w2 (Below.refl _ _)
  have HO3 := Lib.hid ho
  clear ho hb
  go_wp2_with (at_builtin; refine wpList_addn rfl (.tmp 29) (.tmp 30) rfl w2.heap.size _ F9 rfl HO3.out _ _ _ F9 rfl (HO2.out.below HX3.out).bs two 18 rfl rfl (by decide) HX3.out.size ?_)
  intro A4 c4 w4 ho hb
  have HX4 : Hid (Ext w2 w4) := hb w2 HX3.out
  have HO4 := Lib.hid ho
  clear ho hb
  go_wp2_with fail
  refine (count_two HO4.out.bs (Nat.le_refl _)).mono ?_
  rintro e w5 ⟨rfl, hb⟩
  have HX5 : Hid (Ext w2 w5) := Ext.trans HX4.out hb
  have HO5 := Lib.hid (HO4.out.below hb)
  clear hb
  have hc18 : 18 ≤ c4 := by have := HO5.out.bs; obtain ⟨_, _, he, h1, _⟩ := this; injection he with _ x y; rw [two_len] at h1; omega
  go_wp2_with fail
  refine (count_cut (HO5.out.bs.head (k := 14) (by decide)) (Nat.le_refl _)).mono ?_
  rintro e w6 ⟨rfl, hb⟩
  have HX6 : Hid (Ext w2 w6) := Ext.trans HX5.out hb
  have HO6 := Lib.hid (HO5.out.below hb)
  clear hb
  go_wp2_with (at_builtin; refine wpList_addn rfl (.const (.slice none 0 0)) (.tmp 44) rfl w6.heap.size _ [] rfl (Own.nil _ w6) _ _ _ (two.take 9) rfl (HO6.out.bs.head (k := 9) (by decide)) F9 9 rfl rfl (by decide) (Nat.le_refl _) ?_)
  intro A7 c7 w7 ho hb
  have HX67 : Hid (Ext w6 w7) := hb w6 (Below.refl _ _)
  have HX7 : Hid (Ext w2 w7) := Ext.trans HX6.out HX67.out
  have HO7 := Lib.hid ho
  obtain ⟨g7, rfl, _⟩ := row_at (k := 8) ho (by rw [bv_length, F9_len]; decide)
  have q8 := ho.cellAt 8 (by decide)
  rw [show (bv F9)[8]? = some (.int .u8 97) from rfl] at q8
  have f8 := ho.frozenAt 8
  have hg7 := row_lt ho g7 rfl
  clear ho hb
  go_wp2_with fail
  obtain ⟨w8, hw8⟩ : ∃ w8, w8 = w7.setCell ⟨g7, 8, none⟩ (.int .u8 98) := ⟨_, rfl⟩
  have HO8 : Hid (Own w6.heap.size (F9.set 8 98) (.slice (some ⟨g7, 0, none⟩) 9 c7) w8) := by
    have h := (HO7.out.stored 8 (.int .u8 98)).1
    rw [hw8]
    exact h
  have HX8 : Hid (Below w2.heap.size w2 w8) := by rw [hw8]; exact Below.setCell HX7.out (show w2.heap.size ≤ g7 by have := HX6.out.size; omega) _
  have HX68 : Hid (Below w6.heap.size w6 w8) := by rw [hw8]; exact Below.setCell HX67.out hg7.1 _
  rw [← hw8]
  clear hw8 q8 f8 hg7
  have HA8 : Hid (Own w.heap.size F9 (.slice A1 9 c1) w8) := HO2.out.below HX8.out
  have HT8 : Hid (Own w2.heap.size two (.slice A4 18 c4) w8) := HO6.out.below HX68.out
  have hc9 : 9 ≤ c1 := by have := HA8.out.bs; obtain ⟨_, _, he, h1, _⟩ := this; injection he with _ x y; rw [F9_len] at h1; omega
  go_wp2_with fail
  refine (one_is_a HA8.out.bs (Nat.le_refl _)).mono ?_
  rintro e w9 ⟨A9, c9, rfl, ho, hb⟩
  have HX89 : Hid (Ext w8 w9) := hb
  have HO9 := Lib.hid ho
  clear ho hb
  go_wp2_with fail
  refine (one_is_two (HT8.out.below HX89.out).bs (Nat.le_refl _)).mono ?_
  rintro e w10 ⟨rfl, hb⟩
  have HX10 : Hid (Ext w8 w10) := Ext.trans HX89.out hb
  have HP10 := Lib.hid (HO9.out.below hb)
  clear hb
  have HA10 := Lib.hid (HA8.out.below HX10.out)
  have HT10 := Lib.hid (HT8.out.below HX10.out)
  have HB10 := Lib.hid (HO8.out.below HX10.out)
  have cva := cv (HA10.out.bs.head (k := 4) (by decide))
  have heq1 : ((tx (F9.take 4)).toList == [0, 0, 0, 1]) = true := by rw [F9_head]; kernel_rfl
  go_wp2_with fail
  refine (num_any _ _).mono ?_
  rintro e w11 ⟨rfl, rfl⟩
  go_wp2_with fail
  refine (num_any _ _).mono ?_
  rintro e w11 ⟨rfl, rfl⟩
  go_wp2_with fail
  refine (odd_is HT10.out.bs (Nat.le_refl _) two_lt false two_odd).mono ?_
  rintro e w11 ⟨rfl, hb⟩
  have HX11 : Hid (Ext w10 w11) := hb
  have HT11 := Lib.hid (HT10.out.below hb)
  clear hb cva heq1
  go_wp2_with fail
  refine (odd_is (HT11.out.bs.head (k := 14) (by decide)) (Nat.le_refl _) (fun x hx => two_lt x (List.mem_of_mem_take hx)) false cut_frs.2.2).mono ?_
  rintro e w12 ⟨rfl, hb⟩
  have HX12 : Hid (Ext w10 w12) := Ext.trans HX11.out hb
  clear hb
  obtain ⟨w13, hrun, hown, hgrow⟩ := run_make_full (P := Try.prog) w12 w12.heap.size 22 5 i0 (.int .u8 0) 1 Try.underlying22 HI.out ix0 ix1 .i64 .i64 8 (by rw [ix2]; omega) (by unfold maxLen; omega) (Nat.le_refl _)
  have HX13 : Hid (Ext w12 w13) := (Below.refl _ _).grown hgrow (Nat.le_refl _) (fun k hk => by cases hk)
  have HZ13 : Hid (Own w12.heap.size (List.replicate 8 0) (.slice (some ⟨w12.heap.size, 0, none⟩) 8 8) w13) := by
    have h := hown
    simp only [Value.cells] at h
    rw [zero_row] at h
    exact h
  have hrun2 : (Instr.makeSlice 22 (.int .i64 8) (.int .i64 8)).run Try.prog w12 = .ok (.slice (some ⟨w12.heap.size, 0, none⟩) 8 8) w13 := hrun
  clear hown hgrow hrun
  go_wp2_with fail
  refine (odd_is HZ13.out.bs (Nat.le_refl _) (by decide) true zeros_odd).mono ?_
  rintro e w14 ⟨rfl, hb⟩
  have HX14 : Hid (Ext w10 w14) := Ext.trans HX12.out (Ext.trans HX13.out hb)
  have HB14 := Lib.hid (HB10.out.below HX14.out)
  clear hb hrun2
  go_wp2_with fail
  refine (odd_is HB14.out.bs (Nat.le_refl _) (by decide +kernel) true bad_odd).mono ?_
  rintro e w15 ⟨rfl, hb⟩
  have HX15 : Hid (Ext w10 w15) := Ext.trans HX14.out hb
  have HP15 := Lib.hid (HP10.out.below HX15.out)
  have cvp := cv HP15.out.bs
  have heq2 : ((tx [97]).toList == [97]) = true := by kernel_rfl
  clear hb
  go_wp2_with fail
  refine (size_any 1 _).mono ?_
  rintro e w16 ⟨rfl, rfl⟩
  go_wp2_with fail
  refine (size_any 0 _).mono ?_
  rintro e w16 ⟨rfl, rfl⟩
  go_wp2_with fail
  have hz0 : (isize 0 == 0) = true := by decide
  rw [hz0]
  go_ret
  exact ⟨rfl, Ext.trans HB1.out (Ext.trans HX2.out (Ext.trans HX8.out (Ext.trans HX10.out HX15.out)))⟩
end Go.Proofs.Ytkaammdekalgnaa
