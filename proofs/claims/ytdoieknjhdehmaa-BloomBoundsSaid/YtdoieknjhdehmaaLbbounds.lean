/- BloomBounds: filters at their bounds. -/
import Derived.Test.YtdoieknjhdehmaaBeq
import Derived.Test.YtdoieknjhdehmaaMark
import Derived.Lib.AppendZerosOnto
namespace Go.Proofs.Ytdoieknjhdehmaa.bloomBounds
open Go.ChangeShapes Go.WideShapes Go.ChangeAt Go.RowKit Go.Lib Go.Joins

theorem made_one (z : Value) (n : Nat) : (madeCells #[z] n).toList = List.replicate n z := by
  apply List.ext_getElem
  · simp [size_madeCells]
  · intro i h1 h2
    simp [madeCells, Nat.mod_one]
theorem tbytesinfo : (Try.prog.info? 25).map (fun i => (i.zero, i.size, i.bytes)) = some (some (.slice none 0 0), 1, 24) := by kernel_rfl
/-- make([]byte, 131072). -/
theorem big_run (w : World) : ∃ (w' : World) (Z : List Nat), Z.length = 131072 ∧ (Instr.makeSlice 25 (.int .i64 131072) (.int .i64 131072)).run Try.prog w = .ok (.slice (some ⟨w.heap.size, 0, none⟩) 131072 131072) w' ∧ Own w.heap.size Z (.slice (some ⟨w.heap.size, 0, none⟩) 131072 131072) w' ∧ Ext w w' := by
  obtain ⟨n, hn⟩ : ∃ n : Nat, n = 131072 := ⟨_, rfl⟩
  obtain ⟨w', h1, h2, h3⟩ := zeros_run w n (by omega)
  refine ⟨w', List.replicate n 0, by rw [List.length_replicate]; exact hn, ?_, ?_, h3⟩
  · have e : ((n : Nat) : Int) = 131072 := by omega
    rw [e] at h1
    rw [h1, hn]
  · rw [← hn]; exact h2
/-- make([][]byte, 65537). -/
theorem rows_run (w : World) : ∃ (w' : World) (vs : List Value) (ls : List (List Nat)), ls.length = 65537 ∧ (Instr.makeSlice 33 (.int .i64 65537) (.int .i64 65537)).run Try.prog w = .ok (.slice (some ⟨w.heap.size, 0, none⟩) 65537 65537) w' ∧
    Rows2 w' 0 w'.heap.size (some ⟨w.heap.size, 0, none⟩) vs ls ∧ (∀ l ∈ ls, ∀ x ∈ l, x < 256) ∧ Ext w w' := by
  obtain ⟨n, hn⟩ : ∃ n : Nat, n = 65537 := ⟨_, rfl⟩
  obtain ⟨i0, hi0, ix0, ix1, ix2⟩ := info_parts tbytesinfo
  obtain ⟨w', hrun, hown, hgrow⟩ := run_make_full (P := Try.prog) w w.heap.size 33 25 i0 (.slice none 0 0) 1 Try.underlying33 hi0 ix0 ix1 .i64 .i64 n (by rw [ix2]; omega) (by unfold maxLen; omega) (Nat.le_refl _)
  have hown' : w'.ownsRow w.heap.size 25 1 (.slice (some ⟨w.heap.size, 0, none⟩) n n) n (List.replicate n (.slice none 0 0)) := by
    have h := hown
    simp only [Value.cells] at h
    rw [made_one, Nat.mul_one] at h
    exact h
  obtain ⟨A', c', e, h1, h2, h3, h4⟩ := Sl.of_own hown'
  injection e with e1 _ e3
  subst e1 e3
  refine ⟨w', List.replicate n (.slice none 0 0), List.replicate n [], by rw [List.length_replicate]; exact hn, ?_, ⟨h4.wide (Nat.zero_le _) (Nat.le_refl _), by simp, fun i v l hv hl => ?_⟩, fun l hl => ?_, (Below.refl _ _).grown hgrow (Nat.le_refl _) (fun k hk => by cases hk)⟩
  · have e : ((n : Nat) : Int) = 65537 := by omega
    rw [e] at hrun
    rw [hrun, hn]
  · have hv' := List.mem_of_getElem? hv
    have hl' := List.mem_of_getElem? hl
    rw [List.mem_replicate] at hv' hl'
    rw [hv'.2, hl'.2]
    exact Bs.nil _ _ _
  · rw [List.mem_replicate] at hl
    rw [hl.2]; simp
/-- append(big, make([]byte, 8)...). -/
theorem more_run (w : World) {B : Nat} {Z : List Nat} {g : Nat} (hZ : Z.length = 131072) (h : Own B Z (.slice (some ⟨g, 0, none⟩) 131072 131072) w) (ty : TypeId) :
    ∃ w' A c, (Builtin.append_ #[25, 3] ty #[.slice (some ⟨g, 0, none⟩) 131072 131072, .int .i64 8]).run Try.prog w = .ok (.slice A 131080 c) w' ∧ Ext w w' := by
  obtain ⟨i0, hi0, hz0, hz1, hz2⟩ := info_parts t5info
  obtain ⟨n, hn⟩ : ∃ n : Nat, n = 131072 := ⟨_, rfl⟩
  rw [← hn] at hZ h ⊢
  have hbig : Builtin.nextslicecap (n + 8) n * i0.bytes ≤ 281474976710656 := growslice_fits (by omega) (by rw [hz2]; omega)
  have hold : (Builtin.firstCells i0.size n (.slice (some ⟨g, 0, none⟩) n n)).run Try.prog w.drew = .ok (bv Z).toArray w.drew := by
    refine run_firstCells_some (w := w.drew) i0.size n _ n n (bv Z) (by rw [bv_length, hz1]; omega) (fun j v hj => ?_)
    rw [addr_add, Nat.zero_add]
    have hjl := (List.getElem?_eq_some_iff.1 hj).1
    rw [bv_length] at hjl
    have hc := h.cell hjl
    rw [List.getElem?_eq_getElem (by rw [bv_length]; exact hjl), bv_get Z j hjl] at hj
    injection hj with hj
    subst hj
    exact hc
  have hr := Lib.run_append_grow_zeros (P := Try.prog) w 25 3 ty 5 i0 (.int .u8 0) .i64 .i64 Try.underlying25 Try.underlying3 hi0 hz0 (some ⟨g, 0, none⟩) n n (bv Z) hold 8 (by omega) (by omega) (by omega) (by omega) (by rw [hz2]; omega) hbig
  have e : n + 8 = 131080 := by omega
  rw [e] at hr
  exact ⟨_, _, _, hr, Ext.trans (Ext.drew w) (ext_alloc _ _)⟩
theorem more_obl {o : Oper} {a : Act} {x : Operand} {X : Prop} {u : World} {d g B C : Nat} {Z : List Nat} (ho : o.op = .call { callee := .builtin .append, args := #[x, .const (.int .i64 8)], argTypes := #[25, 3] }) (hd : o.dst = some d)
    (hx : a.eval x = .slice (some ⟨g, 0, none⟩) 131072 131072) (hZ : Z.length = 131072) (h : Own B Z (.slice (some ⟨g, 0, none⟩) 131072 131072) u) {Y : Prop} [Decidable Y] (hY : Y) {R : Value → World → Prop} (hR : ∀ v w, Len 131080 v w → R v w) :
    if Y then GivesR Try.prog ((execOp a.eval o).run Try.prog u) (fun v u' => (MarkR C).r u u' ∧ R (kept o v) u') else X := by
  rw [if_pos hY]
  obtain ⟨w, A, c, hr, h1⟩ := more_run u hZ h o.type
  have h0 : (execOp a.eval o).run Try.prog u = .ok (.value (.slice A 131080 c)) w := by
    have hc : a.eval (.const (.int .i64 8)) = .int .i64 8 := rfl
    unfold execOp
    simp only [ho, resolve, invoke, builtin, Sem.run_bind, Sem.run_pure, Result.andThen_ok, List.map_toArray, List.map_cons, List.map_nil, hc, hx, hr]
  rw [h0]
  have hk : kept o (.slice A 131080 c) = .slice A 131080 c := by unfold kept; rw [hd]
  show (MarkR C).r u w ∧ R (kept o _) w
  rw [hk]
  exact ⟨mark_ext h1, hR _ _ ⟨A, c, rfl⟩⟩
theorem cv_key (W : World) : (convert 25 25 (.slice (some ⟨W.heap.size, 0, none⟩) 3 3)).run Try.prog (W.alloc (.cells #[.int .u8 107, .int .u8 101, .int .u8 121] 5)) = .ok (.slice (some ⟨W.heap.size, 0, none⟩) 3 3) (W.alloc (.cells #[.int .u8 107, .int .u8 101, .int .u8 121] 5 (3, 4))) := run_convert_bytes_const_at _ _ _ _ _ _ _ (rfl) Try.underlying25 Try.underlying5
theorem bs_key (W : World) : Bs (W.alloc (.cells #[.int .u8 107, .int .u8 101, .int .u8 121] 5 (3, 4))) W.heap.size (W.heap.size + 1) (.slice (some ⟨W.heap.size, 0, none⟩) 3 3) [107, 101, 121] := bs_mark W [107, 101, 121] (by simp) (3, 4)
theorem lt_key : ∀ x ∈ [107, 101, 121], x < 256 := by decide
theorem kbs_one (l : List Nat) : kbs l 1 = [0, 0, 0, 0, 0] := by simp [kbs, kb, Nat.mod_one]
theorem bits_is {v : Value} {lo hi : Nat} {l : List Nat} {m : Int} {w : World} {r : List Nat} {n : Int} (hv : Bs w lo hi v l) (hhi : hi ≤ w.heap.size) (hl : ∀ x ∈ l, x < 256) (m1 : -9223372036854775808 ≤ m) (m2 : m ≤ 9223372036854775807) (hr : bitsA l m = r) (hn : bitsN m = n) :
    Calls Try.prog 13 #[v, .int .i64 m] w fun e w' => e = .returned (.tuple #[.agg (irow r), .int .i64 n]) ∧ Ext w w' := by rw [← hr, ← hn]; exact bits_any hv hhi hl m1 m2
theorem bitsA_in {l : List Nat} {m : Nat} (h1 : 1 ≤ m) (h2 : m ≤ 1048576) : bitsA l (m : Int) = kbs l m := if_neg (by omega)
theorem bitsN_in {m : Nat} (h1 : 1 ≤ m) (h2 : m ≤ 1048576) : bitsN (m : Int) = 0 := if_neg (by omega)

set_option maxRecDepth 100000 in
set_option maxHeartbeats 16000000 in
theorem walk (w : World) : Calls Try.prog 9 #[] w fun e w' => e = .returned (.bool true) ∧ Below w.heap.size w w' := by
  obtain ⟨w1, Z, hZ, hrun1, ho1, hx1⟩ := big_run w
  obtain ⟨w2, vs, ls, hls, hrun2, hr2, hb2, hx2⟩ := rows_run w1
  obtain ⟨gb, hgb⟩ : ∃ gb, gb = w.heap.size := ⟨_, rfl⟩
  have HO1 := Lib.hid ho1
  have HZL := Lib.hid hZ
  have HX1 := Lib.hid hx1
  have HX2 := Lib.hid hx2
  have HMK : Hid (Calls Try.prog 17 #[.slice (some ⟨w1.heap.size, 0, none⟩) 65537 65537] w2 fun e w' => e = .returned (.tuple #[.slice none 0 0, .int .i64 2]) ∧ Ext w2 w') := by
    have h := make_any (some ⟨w1.heap.size, 0, none⟩) 65537 _ _ vs ls w2 hr2 (Nat.le_refl _) (by simp [maxLen]) (by omega) hb2
    rw [hls] at h
    refine h.mono ?_
    rintro e w' ⟨hx, ⟨_, he⟩ | ⟨hbad, _⟩⟩
    · exact ⟨he, hx⟩
    · omega
  clear hZ ho1 hx1 hls hr2 hb2 hx2
  go_enter Try.func9, Try.ntmps9
  go_wp2_with fail
  refine Calls.mono HMK.out ?_
  rintro e w3 ⟨rfl, hx⟩
  have HX3 : Hid (Ext w w3) := Ext.trans HX1.out (Ext.trans HX2.out hx)
  have HO3 := Lib.hid ((HO1.out.below HX2.out).below hx)
  have cv3 := cv_key w3
  rw [← hgb] at HO3 ⊢
  clear hrun1 hrun2 hx HMK HO1 HX1 HX2
  obtain ⟨r, hr⟩ : ∃ r, r = kbs [107, 101, 121] 1048576 := ⟨_, rfl⟩
  have HRK := Lib.hid hr
  have HR5 : Hid (r.length = 5) := by rw [hr]; exact kbs_length _ _
  have HB3 : Hid (Calls Try.prog 13 #[.slice (some ⟨w3.heap.size, 0, none⟩) 3 3, .int .i64 1048576] (w3.alloc (.cells #[.int .u8 107, .int .u8 101, .int .u8 121] 5 (3, 4))) fun e w' => e = .returned (.tuple #[.agg (irow r), .int .i64 0]) ∧ Ext (w3.alloc (.cells #[.int .u8 107, .int .u8 101, .int .u8 121] 5 (3, 4))) w') := by
    refine bits_is (bs_key w3) (by simp) lt_key (by decide) (by decide) ?_ ?_
    · rw [hr]; exact bitsA_in (m := 1048576) (by decide) (by decide)
    · exact bitsN_in (m := 1048576) (by decide) (by decide)
  obtain ⟨r0, r1, r2, r3, r4, hr5⟩ := five_of HR5.out
  rw [hr5, irow_five] at HB3
  rw [hr5] at HRK
  clear hr hr5 HR5
  go_wp2_with fail
  refine Calls.mono HB3.out ?_
  rintro e w4 ⟨rfl, hx⟩
  have HX34 : Hid (Ext w3 w4) := Ext.trans (ext_alloc w3 _) hx
  clear hx cv3 HB3
  have HZ5 := Lib.hid (zeros5 w4)
  have hi5 : (irow [r0, r1, r2, r3, r4]) = #[.int .i64 (r0 : Int), .int .i64 (r1 : Int), .int .i64 (r2 : Int), .int .i64 (r3 : Int), .int .i64 (r4 : Int)] := irow_five r0 r1 r2 r3 r4
  have HI5 := Lib.hid hi5
  clear hi5
  go_upto_region 4 with (refine wpList_store_row rfl 26 (.tmp 4) (.tmp 20) rfl w4.heap.size (irow [r0, r1, r2, r3, r4]) rfl rfl 26 _ HZ5.out info5 rfl (irow_one _) ?_)
  obtain ⟨w5, hw5⟩ : ∃ w5, w5 = (w4.alloc (.cells #[.int .i64 0, .int .i64 0, .int .i64 0, .int .i64 0, .int .i64 0] 26)).setRow w4.heap.size (irow [r0, r1, r2, r3, r4]) := ⟨_, rfl⟩
  have HA5 : Hid (IArr w5 w4.heap.size 26 [r0, r1, r2, r3, r4]) := by rw [hw5]; exact HZ5.out.setRow _
  have HX45 : Hid (Ext w4 w5) := by rw [hw5]; exact below_row (ext_alloc _ _) (Nat.le_refl _) _
  obtain ⟨gl, hgl⟩ : ∃ gl, gl = w4.heap.size := ⟨_, rfl⟩
  rw [← hw5]
  rw [← hgl] at HA5 ⊢
  clear hw5 hgl HZ5
  have HB5 : Hid (Calls Try.prog 13 #[.slice none 0 0, .int .i64 1048577] w5 fun e w' => e = .returned (.tuple #[.agg (irow [0, 0, 0, 0, 0]), .int .i64 2]) ∧ Ext w5 w') :=
    bits_is (Bs.nil w5 0 0) (Nat.zero_le _) (by simp) (by decide) (by decide) (if_pos (.inr (by decide))) (if_pos (.inr (by decide)))
  rw [show irow [0, 0, 0, 0, 0] = #[.int .i64 0, .int .i64 0, .int .i64 0, .int .i64 0, .int .i64 0] from rfl] at HB5
  go_wp2_with fail
  refine Calls.mono HB5.out ?_
  rintro e w6 ⟨rfl, hx⟩
  have HX56 : Hid (Ext w5 w6) := hx
  clear hx HB5
  go_upto_region 5 with (fail)
  obtain ⟨w7, hw7⟩ : ∃ w7, w7 = w6.alloc (.cells #[.int .i64 0, .int .i64 0, .int .i64 0, .int .i64 0, .int .i64 0] 26) := ⟨_, rfl⟩
  have HX67 : Hid (Ext w6 w7) := by rw [hw7]; exact ext_alloc _ _
  rw [← hw7]
  clear hw7
  have cv7 := cv_key w7
  have HB7 : Hid (Calls Try.prog 13 #[.slice (some ⟨w7.heap.size, 0, none⟩) 3 3, .int .i64 1] (w7.alloc (.cells #[.int .u8 107, .int .u8 101, .int .u8 121] 5 (3, 4))) fun e w' => e = .returned (.tuple #[.agg (irow [0, 0, 0, 0, 0]), .int .i64 0]) ∧ Ext (w7.alloc (.cells #[.int .u8 107, .int .u8 101, .int .u8 121] 5 (3, 4))) w') := by
    refine bits_is (bs_key w7) (by simp) lt_key (by decide) (by decide) ?_ ?_
    · rw [← kbs_one [107, 101, 121]]; exact bitsA_in (m := 1) (by decide) (by decide)
    · exact bitsN_in (m := 1) (by decide) (by decide)
  rw [show irow [0, 0, 0, 0, 0] = #[.int .i64 0, .int .i64 0, .int .i64 0, .int .i64 0, .int .i64 0] from rfl] at HB7
  go_wp2_with fail
  refine Calls.mono HB7.out ?_
  rintro e w8 ⟨rfl, hx⟩
  have HX78 : Hid (Ext w7 w8) := Ext.trans (ext_alloc w7 _) hx
  clear hx cv7 HB7
  go_upto_region 6 with (fail)
  obtain ⟨w9, hw9⟩ : ∃ w9, w9 = w8.alloc (.cells #[.int .i64 0, .int .i64 0, .int .i64 0, .int .i64 0, .int .i64 0] 26) := ⟨_, rfl⟩
  have HX89 : Hid (Ext w8 w9) := by rw [hw9]; exact ext_alloc _ _
  have HA9 : Hid (IArr w9 w8.heap.size 26 [0, 0, 0, 0, 0]) := by rw [hw9]; exact zeros5 _
  obtain ⟨go, hgo⟩ : ∃ go, go = w8.heap.size := ⟨_, rfl⟩
  rw [← hw9]
  rw [← hgo] at HA9 ⊢
  clear hw9 hgo
  have HX59 : Hid (Ext w5 w9) := Ext.trans HX56.out (Ext.trans HX67.out (Ext.trans HX78.out HX89.out))
  have HX39 : Hid (Ext w3 w9) := Ext.trans HX34.out (Ext.trans HX45.out HX59.out)
  have HXW : Hid (Ext w w9) := Ext.trans HX3.out HX39.out
  have HO9 := Lib.hid (HO3.out.below HX39.out)
  have HL9 := Lib.hid (HA5.out.below HX59.out HA5.out.lt)
  have c0 := HL9.out.cell 0 (by simp)
  have c1 := HL9.out.cell 1 (by simp)
  have c2 := HL9.out.cell 2 (by simp)
  have c3 := HL9.out.cell 3 (by simp)
  have c4 := HL9.out.cell 4 (by simp)
  dsimp only [List.getElem_cons_zero, List.getElem_cons_succ] at c0 c1 c2 c3 c4
  have o0 : w9.cell? ⟨go, 0, none⟩ = some (.int .i64 0) := HA9.out.cell 0 (by simp)
  have o1 : w9.cell? ⟨go, 1, none⟩ = some (.int .i64 0) := HA9.out.cell 1 (by simp)
  have o2 : w9.cell? ⟨go, 2, none⟩ = some (.int .i64 0) := HA9.out.cell 2 (by simp)
  have o3 : w9.cell? ⟨go, 3, none⟩ = some (.int .i64 0) := HA9.out.cell 3 (by simp)
  have o4 : w9.cell? ⟨go, 4, none⟩ = some (.int .i64 0) := HA9.out.cell 4 (by simp)
  have HQ1 := Lib.hid (fun W => agg_eq (r0 : Int) (r1 : Int) (r2 : Int) (r3 : Int) (r4 : Int) W)
  have HQ0 := Lib.hid (fun W => agg_eq 0 0 0 0 0 W)
  have HRB : Hid (∀ (u : World) (b : Nat) (fz : Nat × Nat), u.heap[b]? = some (.cells (bv [107, 101, 121]).toArray 5 fz) → Calls Try.prog 15 #[.slice (some ⟨b, 0, none⟩) 3 3, .int .i64 1048576] u fun e w' => e = .returned (.agg #[.int .i64 (r0 : Int), .int .i64 (r1 : Int), .int .i64 (r2 : Int), .int .i64 (r3 : Int), .int .i64 (r4 : Int)]) ∧ Ext u w') := fun u b fz hb => by
    have h := rbits_any _ _ _ [107, 101, 121] 1048576 u (bl_bs (l := [107, 101, 121]) (by simp) hb) (Nat.le_refl _) lt_key (by simp) (by decide) (by decide)
    rw [← HRK.out, irow_five] at h
    exact h
  clear HA9 HL9 HA5 HX45 HX56 HX67 HX78 HX89 HX59 HX34 HX3 HO3
  refine Fr.flow (R := MarkR w9.heap.size) (by kernel_rfl) [Is (.int .i64 2), Is (.int .i64 2), Is (.bool true), Is (.bool true), Is (.int .i64 0), Is (.int .i64 0), Is (.int .i64 0), Is (.int .i64 0), Is (.int .i64 0), Is (.bool true), Is (.bool true), Is (.bool true), Is (.int .i64 2), Is (.int .i64 2), Is (.bool true), Is (.bool true), Is (.bool true), Is (.agg #[.int .i64 (r0 : Int), .int .i64 (r1 : Int), .int .i64 (r2 : Int), .int .i64 (r3 : Int), .int .i64 (r4 : Int)]), BlF w9.heap.size [107, 101, 121], BlF w9.heap.size [107, 101, 121], Is (.agg #[.int .i64 (r0 : Int), .int .i64 (r1 : Int), .int .i64 (r2 : Int), .int .i64 (r3 : Int), .int .i64 (r4 : Int)]), Is (.bool true), Is (.bool true), Is (.bool true), Is (.agg #[.int .i64 0, .int .i64 0, .int .i64 0, .int .i64 0, .int .i64 0]), Is (.agg #[.int .i64 0, .int .i64 0, .int .i64 0, .int .i64 0, .int .i64 0]), Is (.bool true), Is (.bool true), Is (.bool true), Is (.slice (some ⟨gb, 0, none⟩) 131072 131072), Is (.int .i64 0), Is (.int .i64 0), Is (.bool true), Is (.bool true), Is (.bool true), Is (.slice (some ⟨gb, 0, none⟩) 131072 131072), Len 131080, Is (.int .i64 4), Is (.int .i64 4), Is (.bool true), Is (.bool true), Is (.bool true), Is (.int .i64 65544), Is (.bool true), Is (.bool true), Is (.bool true), Is (.int .i64 0), Is (.bool true), Is (.bool true), Is (.bool true), Is (.int .i64 8), Is (.bool true), Is (.bool true), Is (.bool true), Is (.bool true), Is (.bool true), Is (.bool true)] (by kernel_rfl) (by kernel_rfl) ?mono (fun f1 => ?obl) ?fin
  case mono =>
    simp only [List.forall_mem_cons, List.not_mem_nil, false_imp_iff, implies_true, and_true]
    exact ⟨.is _, .is _, .is _, .is _, .is _, .is _, .is _, .is _, .is _, .is _, .is _, .is _, .is _, .is _, .is _, .is _, .is _, .is _, .bl _ _ _, .bl _ _ _, .is _, .is _, .is _, .is _, .is _, .is _, .is _, .is _, .is _, .is _, .is _, .is _, .is _, .is _, .is _, .is _, .len _ _, .is _, .is _, .is _, .is _, .is _, .is _, .is _, .is _, .is _, .is _, .is _, .is _, .is _, .is _, .is _, .is _, .is _, .is _, .is _, .is _⟩
  case fin =>
    intro g1 u hu hg
    simp only [puts, Act.put, List.setIfInBounds_toArray, List.set_cons_zero, List.set_cons_succ]
    have h56 : g1 56 = .bool true := hg 56 (by decide)
    rw [h56]
    have HU : Hid (Ext w9 u) := mark_old hu
    clear hg hu h56 c0 c1 c2 c3 c4 o0 o1 o2 o3 o4
    go_wp2_with fail
    go_ret
    exact ⟨rfl, Ext.trans HXW.out HU.out⟩
  case obl =>
    refine ⟨fun u hu hd => ?_, ?_⟩
    · go_simp
      exact ⟨(MarkR w9.heap.size).refl _, rfl⟩
    refine ⟨fun u hu hd => ?_, ?_⟩
    · simp only [Act.put, List.setIfInBounds_toArray, List.set_cons_zero, List.set_cons_succ]
      have e0 : f1 0 = .int .i64 2 := hd 0 (by kernel_rfl)
      go_simp
      refine (num_any 2 u).mono ?_
      rintro y w99 ⟨rfl, rfl⟩
      exact ⟨_, rfl, (MarkR w9.heap.size).refl _, rfl⟩
    refine ⟨fun u hu hd => ?_, ?_⟩
    · simp only [Act.put, List.setIfInBounds_toArray, List.set_cons_zero, List.set_cons_succ]
      have e1 : f1 1 = .int .i64 2 := hd 1 (by kernel_rfl)
      go_simp
      exact ⟨(MarkR w9.heap.size).refl _, rfl⟩
    refine ⟨fun u hu hd => ?_, ?_⟩
    · simp only [Act.put, List.setIfInBounds_toArray, List.set_cons_zero, List.set_cons_succ]
      have e2 : f1 2 = .bool true := hd 2 (by kernel_rfl)
      go_simp
      exact ⟨(MarkR w9.heap.size).refl _, rfl⟩
    refine ⟨fun u hu hd => ?_, ?_⟩
    · simp only [Act.put, List.setIfInBounds_toArray, List.set_cons_zero, List.set_cons_succ]
      have e3 : f1 3 = .bool true := hd 3 (by kernel_rfl)
      go_simp
      exact ⟨(MarkR w9.heap.size).refl _, rfl⟩
    refine ⟨fun u hu hd => ?_, ?_⟩
    · simp only [Act.put, List.setIfInBounds_toArray, List.set_cons_zero, List.set_cons_succ]
      have e3 : f1 3 = .bool true := hd 3 (by kernel_rfl)
      have e4 : f1 4 = .int .i64 0 := hd 4 (by kernel_rfl)
      go_simp
      refine (num_any 0 u).mono ?_
      rintro y w99 ⟨rfl, rfl⟩
      exact ⟨_, rfl, (MarkR w9.heap.size).refl _, rfl⟩
    refine ⟨fun u hu hd => ?_, ?_⟩
    · simp only [Act.put, List.setIfInBounds_toArray, List.set_cons_zero, List.set_cons_succ]
      have e3 : f1 3 = .bool true := hd 3 (by kernel_rfl)
      go_simp
      exact ⟨(MarkR w9.heap.size).refl _, rfl⟩
    refine ⟨fun u hu hd => ?_, ?_⟩
    · simp only [Act.put, List.setIfInBounds_toArray, List.set_cons_zero, List.set_cons_succ]
      have e3 : f1 3 = .bool true := hd 3 (by kernel_rfl)
      have e6 : f1 6 = .int .i64 0 := hd 6 (by kernel_rfl)
      go_simp
      refine (num_any 0 u).mono ?_
      rintro y w99 ⟨rfl, rfl⟩
      exact ⟨_, rfl, (MarkR w9.heap.size).refl _, rfl⟩
    refine ⟨fun u hu hd => ?_, ?_⟩
    · simp only [Act.put, List.setIfInBounds_toArray, List.set_cons_zero, List.set_cons_succ]
      have e3 : f1 3 = .bool true := hd 3 (by kernel_rfl)
      have e5 : f1 5 = .int .i64 0 := hd 5 (by kernel_rfl)
      have e7 : f1 7 = .int .i64 0 := hd 7 (by kernel_rfl)
      go_simp
      exact ⟨(MarkR w9.heap.size).refl _, rfl⟩
    refine ⟨fun u hu hd => ?_, ?_⟩
    · simp only [Act.put, List.setIfInBounds_toArray, List.set_cons_zero, List.set_cons_succ]
      have e3 : f1 3 = .bool true := hd 3 (by kernel_rfl)
      have e8 : f1 8 = .int .i64 0 := hd 8 (by kernel_rfl)
      go_simp
      exact ⟨(MarkR w9.heap.size).refl _, rfl⟩
    refine ⟨fun u hu hd => ?_, ?_⟩
    · simp only [Act.put, List.setIfInBounds_toArray, List.set_cons_zero, List.set_cons_succ]
      have e3 : f1 3 = .bool true := hd 3 (by kernel_rfl)
      have e9 : f1 9 = .bool true := hd 9 (by kernel_rfl)
      go_simp
      exact ⟨(MarkR w9.heap.size).refl _, rfl⟩
    refine ⟨fun u hu hd => ?_, ?_⟩
    · simp only [Act.put, List.setIfInBounds_toArray, List.set_cons_zero, List.set_cons_succ]
      have e10 : f1 10 = .bool true := hd 10 (by kernel_rfl)
      go_simp
      exact ⟨(MarkR w9.heap.size).refl _, rfl⟩
    refine ⟨fun u hu hd => ?_, ?_⟩
    · simp only [Act.put, List.setIfInBounds_toArray, List.set_cons_zero, List.set_cons_succ]
      have e11 : f1 11 = .bool true := hd 11 (by kernel_rfl)
      go_simp
      exact ⟨(MarkR w9.heap.size).refl _, rfl⟩
    refine ⟨fun u hu hd => ?_, ?_⟩
    · simp only [Act.put, List.setIfInBounds_toArray, List.set_cons_zero, List.set_cons_succ]
      have e11 : f1 11 = .bool true := hd 11 (by kernel_rfl)
      have e12 : f1 12 = .int .i64 2 := hd 12 (by kernel_rfl)
      go_simp
      refine (num_any 2 u).mono ?_
      rintro y w99 ⟨rfl, rfl⟩
      exact ⟨_, rfl, (MarkR w9.heap.size).refl _, rfl⟩
    refine ⟨fun u hu hd => ?_, ?_⟩
    · simp only [Act.put, List.setIfInBounds_toArray, List.set_cons_zero, List.set_cons_succ]
      have e11 : f1 11 = .bool true := hd 11 (by kernel_rfl)
      have e13 : f1 13 = .int .i64 2 := hd 13 (by kernel_rfl)
      go_simp
      exact ⟨(MarkR w9.heap.size).refl _, rfl⟩
    refine ⟨fun u hu hd => ?_, ?_⟩
    · simp only [Act.put, List.setIfInBounds_toArray, List.set_cons_zero, List.set_cons_succ]
      have e11 : f1 11 = .bool true := hd 11 (by kernel_rfl)
      have e14 : f1 14 = .bool true := hd 14 (by kernel_rfl)
      go_simp
      exact ⟨(MarkR w9.heap.size).refl _, rfl⟩
    refine ⟨fun u hu hd => ?_, ?_⟩
    · simp only [Act.put, List.setIfInBounds_toArray, List.set_cons_zero, List.set_cons_succ]
      have e15 : f1 15 = .bool true := hd 15 (by kernel_rfl)
      go_simp
      exact ⟨(MarkR w9.heap.size).refl _, rfl⟩
    refine ⟨fun u hu hd => ?_, ?_⟩
    · simp only [Act.put, List.setIfInBounds_toArray, List.set_cons_zero, List.set_cons_succ]
      have e16 : f1 16 = .bool true := hd 16 (by kernel_rfl)
      have hu2 : Ext w9 u := mark_old hu
      have q0 := ext_cell hu2 c0
      have q1 := ext_cell hu2 c1
      have q2 := ext_cell hu2 c2
      have q3 := ext_cell hu2 c3
      have q4 := ext_cell hu2 c4
      go_simp
      exact ⟨(MarkR w9.heap.size).refl _, rfl⟩
    refine ⟨fun u hu hd => ?_, ?_⟩
    · simp only [Act.put, List.setIfInBounds_toArray, List.set_cons_zero, List.set_cons_succ]
      have e16 : f1 16 = .bool true := hd 16 (by kernel_rfl)
      go_simp
      exact ⟨mark_ext (ext_alloc _ _), _, (0, 0), rfl, hu.2.2.2.1, heap_at _ _ rfl⟩
    refine ⟨fun u hu hd => ?_, ?_⟩
    · simp only [Act.put, List.setIfInBounds_toArray, List.set_cons_zero, List.set_cons_succ]
      have e16 : f1 16 = .bool true := hd 16 (by kernel_rfl)
      obtain ⟨b9, fz9, e18, hB9, hb9⟩ := (show BlF w9.heap.size [107, 101, 121] (f1 18) u from hd 18 (by kernel_rfl))
      have HB9 := Lib.hid hb9
      have HBB9 := Lib.hid hB9
      have hcv := conv_const (n := 3) (c := 3) hb9
      dsimp only [List.length_cons, List.length_nil] at e18
      clear hb9 hB9
      go_simp
      obtain ⟨fz8, hf8⟩ := freeze_at (k := (bv [107, 101, 121]).toArray.size) HB9.out
      exact ⟨mark_freeze HB9.out HBB9.out, b9, fz8, rfl, HBB9.out, hf8⟩
    refine ⟨fun u hu hd => ?_, ?_⟩
    · simp only [Act.put, List.setIfInBounds_toArray, List.set_cons_zero, List.set_cons_succ]
      have e16 : f1 16 = .bool true := hd 16 (by kernel_rfl)
      obtain ⟨b9, fz9, e19, hB9, hb9⟩ := (show BlF w9.heap.size [107, 101, 121] (f1 19) u from hd 19 (by kernel_rfl))
      have HB9 := Lib.hid hb9
      dsimp only [List.length_cons, List.length_nil] at e19
      clear hb9 hB9
      go_simp
      refine Calls.mono (HRB.out u b9 fz9 HB9.out) ?_
      rintro y w99 ⟨rfl, hy⟩
      exact ⟨_, rfl, mark_ext hy, rfl⟩
    refine ⟨fun u hu hd => ?_, ?_⟩
    · simp only [Act.put, List.setIfInBounds_toArray, List.set_cons_zero, List.set_cons_succ]
      have e16 : f1 16 = .bool true := hd 16 (by kernel_rfl)
      have e17 : f1 17 = .agg #[.int .i64 (r0 : Int), .int .i64 (r1 : Int), .int .i64 (r2 : Int), .int .i64 (r3 : Int), .int .i64 (r4 : Int)] := hd 17 (by kernel_rfl)
      have e20 : f1 20 = .agg #[.int .i64 (r0 : Int), .int .i64 (r1 : Int), .int .i64 (r2 : Int), .int .i64 (r3 : Int), .int .i64 (r4 : Int)] := hd 20 (by kernel_rfl)
      have q1 := HQ1.out u
      go_simp
      exact ⟨(MarkR w9.heap.size).refl _, rfl⟩
    refine ⟨fun u hu hd => ?_, ?_⟩
    · simp only [Act.put, List.setIfInBounds_toArray, List.set_cons_zero, List.set_cons_succ]
      have e16 : f1 16 = .bool true := hd 16 (by kernel_rfl)
      have e21 : f1 21 = .bool true := hd 21 (by kernel_rfl)
      go_simp
      exact ⟨(MarkR w9.heap.size).refl _, rfl⟩
    refine ⟨fun u hu hd => ?_, ?_⟩
    · simp only [Act.put, List.setIfInBounds_toArray, List.set_cons_zero, List.set_cons_succ]
      have e22 : f1 22 = .bool true := hd 22 (by kernel_rfl)
      go_simp
      exact ⟨(MarkR w9.heap.size).refl _, rfl⟩
    refine ⟨fun u hu hd => ?_, ?_⟩
    · simp only [Act.put, List.setIfInBounds_toArray, List.set_cons_zero, List.set_cons_succ]
      have e23 : f1 23 = .bool true := hd 23 (by kernel_rfl)
      have hu2 : Ext w9 u := mark_old hu
      have q0 := ext_cell hu2 o0
      have q1 := ext_cell hu2 o1
      have q2 := ext_cell hu2 o2
      have q3 := ext_cell hu2 o3
      have q4 := ext_cell hu2 o4
      go_simp
      exact ⟨(MarkR w9.heap.size).refl _, rfl⟩
    refine ⟨fun u hu hd => ?_, ?_⟩
    · simp only [Act.put, List.setIfInBounds_toArray, List.set_cons_zero, List.set_cons_succ]
      have e23 : f1 23 = .bool true := hd 23 (by kernel_rfl)
      go_simp
      exact ⟨(MarkR w9.heap.size).refl _, rfl⟩
    refine ⟨fun u hu hd => ?_, ?_⟩
    · simp only [Act.put, List.setIfInBounds_toArray, List.set_cons_zero, List.set_cons_succ]
      have e23 : f1 23 = .bool true := hd 23 (by kernel_rfl)
      have e24 : f1 24 = .agg #[.int .i64 0, .int .i64 0, .int .i64 0, .int .i64 0, .int .i64 0] := hd 24 (by kernel_rfl)
      have e25 : f1 25 = .agg #[.int .i64 0, .int .i64 0, .int .i64 0, .int .i64 0, .int .i64 0] := hd 25 (by kernel_rfl)
      have q1 := HQ0.out u
      go_simp
      exact ⟨(MarkR w9.heap.size).refl _, rfl⟩
    refine ⟨fun u hu hd => ?_, ?_⟩
    · simp only [Act.put, List.setIfInBounds_toArray, List.set_cons_zero, List.set_cons_succ]
      have e23 : f1 23 = .bool true := hd 23 (by kernel_rfl)
      have e26 : f1 26 = .bool true := hd 26 (by kernel_rfl)
      go_simp
      exact ⟨(MarkR w9.heap.size).refl _, rfl⟩
    refine ⟨fun u hu hd => ?_, ?_⟩
    · simp only [Act.put, List.setIfInBounds_toArray, List.set_cons_zero, List.set_cons_succ]
      have e27 : f1 27 = .bool true := hd 27 (by kernel_rfl)
      go_simp
      exact ⟨(MarkR w9.heap.size).refl _, rfl⟩
    refine ⟨fun u hu hd => ?_, ?_⟩
    · simp only [Act.put, List.setIfInBounds_toArray, List.set_cons_zero, List.set_cons_succ]
      have e28 : f1 28 = .bool true := hd 28 (by kernel_rfl)
      go_simp
      exact ⟨(MarkR w9.heap.size).refl _, rfl⟩
    refine ⟨fun u hu hd => ?_, ?_⟩
    · simp only [Act.put, List.setIfInBounds_toArray, List.set_cons_zero, List.set_cons_succ]
      have e28 : f1 28 = .bool true := hd 28 (by kernel_rfl)
      have e29 : f1 29 = .slice (some ⟨gb, 0, none⟩) 131072 131072 := hd 29 (by kernel_rfl)
      go_simp
      refine (check_is (k := 0) (by decide) (by decide)).mono ?_
      rintro y w99 ⟨rfl, rfl⟩
      exact ⟨_, rfl, (MarkR w9.heap.size).refl _, rfl⟩
    refine ⟨fun u hu hd => ?_, ?_⟩
    · simp only [Act.put, List.setIfInBounds_toArray, List.set_cons_zero, List.set_cons_succ]
      have e28 : f1 28 = .bool true := hd 28 (by kernel_rfl)
      have e30 : f1 30 = .int .i64 0 := hd 30 (by kernel_rfl)
      go_simp
      refine (num_any 0 u).mono ?_
      rintro y w99 ⟨rfl, rfl⟩
      exact ⟨_, rfl, (MarkR w9.heap.size).refl _, rfl⟩
    refine ⟨fun u hu hd => ?_, ?_⟩
    · simp only [Act.put, List.setIfInBounds_toArray, List.set_cons_zero, List.set_cons_succ]
      have e28 : f1 28 = .bool true := hd 28 (by kernel_rfl)
      have e31 : f1 31 = .int .i64 0 := hd 31 (by kernel_rfl)
      go_simp
      exact ⟨(MarkR w9.heap.size).refl _, rfl⟩
    refine ⟨fun u hu hd => ?_, ?_⟩
    · simp only [Act.put, List.setIfInBounds_toArray, List.set_cons_zero, List.set_cons_succ]
      have e28 : f1 28 = .bool true := hd 28 (by kernel_rfl)
      have e32 : f1 32 = .bool true := hd 32 (by kernel_rfl)
      go_simp
      exact ⟨(MarkR w9.heap.size).refl _, rfl⟩
    refine ⟨fun u hu hd => ?_, ?_⟩
    · simp only [Act.put, List.setIfInBounds_toArray, List.set_cons_zero, List.set_cons_succ]
      have e33 : f1 33 = .bool true := hd 33 (by kernel_rfl)
      go_simp
      exact ⟨(MarkR w9.heap.size).refl _, rfl⟩
    refine ⟨fun u hu hd => ?_, ?_⟩
    · simp only [Act.put, List.setIfInBounds_toArray, List.set_cons_zero, List.set_cons_succ]
      have e34 : f1 34 = .bool true := hd 34 (by kernel_rfl)
      go_simp
      exact ⟨(MarkR w9.heap.size).refl _, rfl⟩
    refine ⟨fun u hu hd => ?_, ?_⟩
    · simp only [Act.put, List.setIfInBounds_toArray, List.set_cons_zero, List.set_cons_succ]
      have e34 : f1 34 = .bool true := hd 34 (by kernel_rfl)
      have e35 : f1 35 = .slice (some ⟨gb, 0, none⟩) 131072 131072 := hd 35 (by kernel_rfl)
      have hu2 : Ext w9 u := mark_old hu
      rw [e34]
      refine more_obl (x := .tmp 67) rfl rfl (by exact e35) HZL.out (HO9.out.below hu2) (by kernel_rfl) (fun v w99 h => h)
    refine ⟨fun u hu hd => ?_, ?_⟩
    · simp only [Act.put, List.setIfInBounds_toArray, List.set_cons_zero, List.set_cons_succ]
      have e34 : f1 34 = .bool true := hd 34 (by kernel_rfl)
      obtain ⟨A9, c9, e36⟩ := (show Len 131080 (f1 36) u from hd 36 (by kernel_rfl))
      go_simp
      refine (check_is (k := 4) (by decide) (by decide)).mono ?_
      rintro y w99 ⟨rfl, rfl⟩
      exact ⟨_, rfl, (MarkR w9.heap.size).refl _, rfl⟩
    refine ⟨fun u hu hd => ?_, ?_⟩
    · simp only [Act.put, List.setIfInBounds_toArray, List.set_cons_zero, List.set_cons_succ]
      have e34 : f1 34 = .bool true := hd 34 (by kernel_rfl)
      have e37 : f1 37 = .int .i64 4 := hd 37 (by kernel_rfl)
      go_simp
      refine (num_any 4 u).mono ?_
      rintro y w99 ⟨rfl, rfl⟩
      exact ⟨_, rfl, (MarkR w9.heap.size).refl _, rfl⟩
    refine ⟨fun u hu hd => ?_, ?_⟩
    · simp only [Act.put, List.setIfInBounds_toArray, List.set_cons_zero, List.set_cons_succ]
      have e34 : f1 34 = .bool true := hd 34 (by kernel_rfl)
      have e38 : f1 38 = .int .i64 4 := hd 38 (by kernel_rfl)
      go_simp
      exact ⟨(MarkR w9.heap.size).refl _, rfl⟩
    refine ⟨fun u hu hd => ?_, ?_⟩
    · simp only [Act.put, List.setIfInBounds_toArray, List.set_cons_zero, List.set_cons_succ]
      have e34 : f1 34 = .bool true := hd 34 (by kernel_rfl)
      have e39 : f1 39 = .bool true := hd 39 (by kernel_rfl)
      go_simp
      exact ⟨(MarkR w9.heap.size).refl _, rfl⟩
    refine ⟨fun u hu hd => ?_, ?_⟩
    · simp only [Act.put, List.setIfInBounds_toArray, List.set_cons_zero, List.set_cons_succ]
      have e40 : f1 40 = .bool true := hd 40 (by kernel_rfl)
      go_simp
      exact ⟨(MarkR w9.heap.size).refl _, rfl⟩
    refine ⟨fun u hu hd => ?_, ?_⟩
    · simp only [Act.put, List.setIfInBounds_toArray, List.set_cons_zero, List.set_cons_succ]
      have e41 : f1 41 = .bool true := hd 41 (by kernel_rfl)
      go_simp
      refine (size_is (n := 65536) (k := 65544) (by decide) (by decide) (by decide) u).mono ?_
      rintro y w99 ⟨rfl, rfl⟩
      exact ⟨_, rfl, (MarkR w9.heap.size).refl _, rfl⟩
    refine ⟨fun u hu hd => ?_, ?_⟩
    · simp only [Act.put, List.setIfInBounds_toArray, List.set_cons_zero, List.set_cons_succ]
      have e41 : f1 41 = .bool true := hd 41 (by kernel_rfl)
      have e42 : f1 42 = .int .i64 65544 := hd 42 (by kernel_rfl)
      go_simp
      exact ⟨(MarkR w9.heap.size).refl _, rfl⟩
    refine ⟨fun u hu hd => ?_, ?_⟩
    · simp only [Act.put, List.setIfInBounds_toArray, List.set_cons_zero, List.set_cons_succ]
      have e41 : f1 41 = .bool true := hd 41 (by kernel_rfl)
      have e43 : f1 43 = .bool true := hd 43 (by kernel_rfl)
      go_simp
      exact ⟨(MarkR w9.heap.size).refl _, rfl⟩
    refine ⟨fun u hu hd => ?_, ?_⟩
    · simp only [Act.put, List.setIfInBounds_toArray, List.set_cons_zero, List.set_cons_succ]
      have e44 : f1 44 = .bool true := hd 44 (by kernel_rfl)
      go_simp
      exact ⟨(MarkR w9.heap.size).refl _, rfl⟩
    refine ⟨fun u hu hd => ?_, ?_⟩
    · simp only [Act.put, List.setIfInBounds_toArray, List.set_cons_zero, List.set_cons_succ]
      have e45 : f1 45 = .bool true := hd 45 (by kernel_rfl)
      go_simp
      refine (size_is (n := 65537) (k := 0) (by decide) (by decide) (by decide) u).mono ?_
      rintro y w99 ⟨rfl, rfl⟩
      exact ⟨_, rfl, (MarkR w9.heap.size).refl _, rfl⟩
    refine ⟨fun u hu hd => ?_, ?_⟩
    · simp only [Act.put, List.setIfInBounds_toArray, List.set_cons_zero, List.set_cons_succ]
      have e45 : f1 45 = .bool true := hd 45 (by kernel_rfl)
      have e46 : f1 46 = .int .i64 0 := hd 46 (by kernel_rfl)
      go_simp
      exact ⟨(MarkR w9.heap.size).refl _, rfl⟩
    refine ⟨fun u hu hd => ?_, ?_⟩
    · simp only [Act.put, List.setIfInBounds_toArray, List.set_cons_zero, List.set_cons_succ]
      have e45 : f1 45 = .bool true := hd 45 (by kernel_rfl)
      have e47 : f1 47 = .bool true := hd 47 (by kernel_rfl)
      go_simp
      exact ⟨(MarkR w9.heap.size).refl _, rfl⟩
    refine ⟨fun u hu hd => ?_, ?_⟩
    · simp only [Act.put, List.setIfInBounds_toArray, List.set_cons_zero, List.set_cons_succ]
      have e48 : f1 48 = .bool true := hd 48 (by kernel_rfl)
      go_simp
      exact ⟨(MarkR w9.heap.size).refl _, rfl⟩
    refine ⟨fun u hu hd => ?_, ?_⟩
    · simp only [Act.put, List.setIfInBounds_toArray, List.set_cons_zero, List.set_cons_succ]
      have e49 : f1 49 = .bool true := hd 49 (by kernel_rfl)
      go_simp
      refine (size_is (n := 0) (k := 8) (by decide) (by decide) (by decide) u).mono ?_
      rintro y w99 ⟨rfl, rfl⟩
      exact ⟨_, rfl, (MarkR w9.heap.size).refl _, rfl⟩
    refine ⟨fun u hu hd => ?_, ?_⟩
    · simp only [Act.put, List.setIfInBounds_toArray, List.set_cons_zero, List.set_cons_succ]
      have e49 : f1 49 = .bool true := hd 49 (by kernel_rfl)
      have e50 : f1 50 = .int .i64 8 := hd 50 (by kernel_rfl)
      go_simp
      exact ⟨(MarkR w9.heap.size).refl _, rfl⟩
    refine ⟨fun u hu hd => ?_, ?_⟩
    · simp only [Act.put, List.setIfInBounds_toArray, List.set_cons_zero, List.set_cons_succ]
      have e49 : f1 49 = .bool true := hd 49 (by kernel_rfl)
      have e51 : f1 51 = .bool true := hd 51 (by kernel_rfl)
      go_simp
      exact ⟨(MarkR w9.heap.size).refl _, rfl⟩
    refine ⟨fun u hu hd => ?_, ?_⟩
    · simp only [Act.put, List.setIfInBounds_toArray, List.set_cons_zero, List.set_cons_succ]
      have e52 : f1 52 = .bool true := hd 52 (by kernel_rfl)
      go_simp
      exact ⟨(MarkR w9.heap.size).refl _, rfl⟩
    refine ⟨fun u hu hd => ?_, ?_⟩
    · simp only [Act.put, List.setIfInBounds_toArray, List.set_cons_zero, List.set_cons_succ]
      have e53 : f1 53 = .bool true := hd 53 (by kernel_rfl)
      go_simp
      refine (known_any u).mono ?_
      rintro y w99 ⟨rfl, hy⟩
      exact ⟨_, rfl, mark_ext hy, rfl⟩
    refine ⟨fun u hu hd => ?_, ?_⟩
    · simp only [Act.put, List.setIfInBounds_toArray, List.set_cons_zero, List.set_cons_succ]
      have e53 : f1 53 = .bool true := hd 53 (by kernel_rfl)
      have e54 : f1 54 = .bool true := hd 54 (by kernel_rfl)
      go_simp
      exact ⟨(MarkR w9.heap.size).refl _, rfl⟩
    refine ⟨fun u hu hd => ?_, ?_⟩
    · simp only [Act.put, List.setIfInBounds_toArray, List.set_cons_zero, List.set_cons_succ]
      have e55 : f1 55 = .bool true := hd 55 (by kernel_rfl)
      go_simp
      exact ⟨(MarkR w9.heap.size).refl _, rfl⟩
    trivial
end Go.Proofs.Ytdoieknjhdehmaa.bloomBounds

