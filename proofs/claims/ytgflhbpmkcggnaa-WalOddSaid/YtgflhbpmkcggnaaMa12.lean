/- Yknown Yrmay Flowst Yrread JMcref JMref JMrefp, joined. -/
import Derived.Test.YtgflhbpmkcggnaaMa11
import Derived.Test.YtgflhbpmkcggnaaMa7
import Derived.Deep.DeepCutAuto
import Derived.Test.YtgflhbpmkcggnaaMa4
import Derived.Test.YtgflhbpmkcggnaaMa9
import Derived.Test.YtgflhbpmkcggnaaMa8
import Derived.BigQuiet
import Derived.Test.YtgflhbpmkcggnaaMa6

/- The law's known: the chapter's rows. -/
namespace Go.Proofs.Ytgflhbpmkcggnaa
open Go.ChangeShapes Go.WideShapes Go.ChangeAt Go.RowKit
attribute [local go_sem] Oper.semAt_some

theorem put_A1 : Put1 (batA 1) := ⟨⟨by decide, by decide, by decide, by simp [batA, Ent.may, mayN]⟩, by have := small_form (b := batA 1) ⟨by decide, by decide, by decide, by simp [batA, Ent.may, mayN]⟩ (by simp [batA]); omega, by simp [batA]⟩
theorem put_E2 : Put1 (batE 2) := ⟨⟨by decide, by decide, by decide, by simp [batE]⟩, by have := small_form (b := batE 2) ⟨by decide, by decide, by decide, by simp [batE]⟩ (by simp [batE]); omega, by simp [batE]⟩
theorem no_E0 : ¬ (batE 0).may := fun h => by have := h.1; simp [batE] at this
theorem Bts.two {w : World} {lo hi lo2 hi2 g : Nat} {x y : Bx} (h : w.heap[g]? = some (.cells #[.int .i64 x.idx, .slice x.A x.L.length x.c, .int .i64 y.idx, .slice y.A y.L.length y.c] 24 (0, 0))) (hx : Bm w lo hi x) (hhi : hi ≤ w.heap.size) (hy : Bm w lo2 hi2 y) (hhi2 : hi2 ≤ w.heap.size) : Bts w 0 w.heap.size (some ⟨g, 0, none⟩) [x, y] := by
  refine ⟨.inr ⟨g, 0, rfl, Nat.zero_le _, (Array.getElem?_eq_some_iff.1 h).1, fun i u hu => ?_⟩, fun z hz => ?_⟩
  · rw [Nat.zero_add]
    exact cell_of h (by simpa [brow, bcells] using hu)
  · simp only [List.mem_cons, List.not_mem_nil, or_false] at hz
    rcases hz with rfl | rfl
    · exact hx.wide (Nat.zero_le _) hhi
    · exact hy.wide (Nat.zero_le _) hhi2
/-- A row of bytes of one's own that is not empty. -/
theorem own_some {B : Nat} {l : List Nat} {v : Value} {w : World} (h : Own B l v w) (hl : l ≠ []) : ∃ b c, v = .slice (some ⟨b, 0, none⟩) l.length c := by
  rcases h.2 with ⟨_, h0⟩ | ⟨g, cap, cur, hv, _⟩
  · have h1 : l = [] := List.eq_nil_of_length_eq_zero h0
    exact absurd h1 hl
  · exact ⟨g, cap, hv⟩

theorem bysize (w : World) : (sizeOf (Try.prog.elem 29)).run Try.prog w = .ok 1 w := by kernel_rfl
theorem byslice0 (A : Option Addr) (n c j : Nat) (hjn : j ≤ n) (hc : n ≤ c) (w : World) :
    (Instr.slice 29 (.slice A n c) none (some (.int .i64 (j : Int))) none).run Try.prog w = .ok (.slice A j c) w := by
  have he : Try.prog.underlying 29 = some (.slice (Try.prog.elem 29)) := by kernel_rfl
  rw [run_slice_h w 29 A n c he .i64 (j : Int) (by omega) (by omega), bysize w]
  by_cases h : c = 0
  · subst h; simp [Result.andThen, sliced]
  · have : ¬ c = 0 := h
    cases A <;> simp [Result.andThen, sliced, Addr.add]
set_option maxRecDepth 100000 in
/-- Append of bytes as one step, their source not nil. -/
theorem wp_addb {o : Oper} {a : Act} {K : Act → World → Prop} {Q : Exit → Act → World → Prop} {wr : World} (s x : Operand)
    (ho : o.op = .call { callee := .builtin .append, args := #[s, x], argTypes := #[29, 29] }) (B : Nat) (v : Value) (l : List Nat) (hs : a.eval s = v) (hown : Own B l v wr)
    (lo hi : Nat) (ad : Addr) (c : Nat) (r : List Nat) (hx : a.eval x = .slice (some ad) r.length c) (hu : Bs wr lo hi (.slice (some ad) r.length c) r) (hlen : l.length + r.length ≤ 1099511627776) (hB : B ≤ wr.heap.size)
    (h : ∀ A' c' w', Own B (l ++ r) (.slice A' (l ++ r).length c') w' → (∀ w0, Below B w0 wr → Below B w0 w') → K (a.put o.dst (.slice A' (l ++ r).length c')) w') : o.wp Try.prog a wr K Q := by
  obtain ⟨i0, hi0, ix0, ix1, ix2⟩ := info_parts t5info
  obtain ⟨A, c', e, h1, h2, hnil, hby⟩ := hu
  injection e with e1 _ e3
  subst e1 e3
  refine wp_append_own _ s x 29 ho B 5 i0 (.int .u8 0) 1 1 Try.underlying29 hi0 ix0 ix1 ix2 rfl (by omega) v l.length (bv l) hs hown ad r.length c (bv r) hx (by rw [bv_length]; simp) (fun j q hj => ?_) (bv_one r) (by unfold maxLen; omega) (by omega) hB
    (fun v' w' h5 h3 _ => ?_)
  · rcases hby with h0 | ⟨b, o, he, _, _, hc⟩
    · rw [h0] at hj; simp at hj
    · injection he with he
      subst he
      rw [addr_add]
      exact hc j q hj
  · have hown' : Own B (l ++ r) v' w' := by unfold Own; rw [List.length_append, bv_append]; exact h5
    obtain ⟨A', c', rfl⟩ := hown'.slice
    exact h A' c' w' hown' fun w0 hb => hb.grown h3 hB (fun k hk => (hown.lt k hk).1)

/-- Append of bytes, behind a guard. -/
theorem wpList_addg {ops : Array Oper} {rest : List Oper} {o : Oper} {a : Act} {Q : Exit → Act → World → Prop} {wr : World} (hw : Region.wanted o (yielded ops a.tmps) = true) (s x : Operand)
    (ho : o.op = .call { callee := .builtin .append, args := #[s, x], argTypes := #[29, 29] }) (B : Nat) (v : Value) (l : List Nat) (hs : a.eval s = v) (hown : Own B l v wr)
    (lo hi : Nat) (ad : Addr) (c : Nat) (r : List Nat) (hx : a.eval x = .slice (some ad) r.length c) (hu : Bs wr lo hi (.slice (some ad) r.length c) r) (hlen : l.length + r.length ≤ 1099511627776) (hB : B ≤ wr.heap.size)
    (h : ∀ A' c' w', Own B (l ++ r) (.slice A' (l ++ r).length c') w' → (∀ w0, Below B w0 wr → Below B w0 w') → wpList Try.prog ops Q rest (a.put o.dst (.slice A' (l ++ r).length c')) w') : wpList Try.prog ops Q (o :: rest) a wr := by
  unfold wpList
  rw [if_pos hw]
  exact .inl (wp_addb s x ho B v l hs hown lo hi ad c r hx hu hlen hB h)

set_option maxRecDepth 100000 in
set_option maxHeartbeats 16000000 in
theorem wknown_any (w : World) : Calls Try.prog 10 #[] w fun e w' => e = .returned (.bool true) ∧ Ext w w' := by
  obtain ⟨l1, hl1⟩ : ∃ l1, l1 = Fm.frame (batA 1).form := ⟨_, rfl⟩
  obtain ⟨l2, hl2⟩ : ∃ l2, l2 = Fm.frame (batE 2).form := ⟨_, rfl⟩
  have hm1 := put_A1.mayP
  have hm2 := put_E2.mayP
  have n1 : 9 ≤ l1.length ∧ l1.length ≤ 1048584 := by rw [hl1, Fm.frame_length]; have := hm1.1; have := hm1.2.1; omega
  have n2 : 9 ≤ l2.length ∧ l2.length ≤ 1048584 := by rw [hl2, Fm.frame_length]; have := hm2.1; have := hm2.2.1; omega
  have HL1 := Lib.hid hl1
  have HL2 := Lib.hid hl2
  have HN := Lib.hid (And.intro n1 n2)
  have i1 : (l1.length : Int) ≤ 1048584 := by omega
  have i2 : (l2.length : Int) ≤ 1048584 := by omega
  have HB : Hid ((∀ x ∈ l1, x < 256) ∧ ∀ x ∈ l2, x < 256) := ⟨by rw [hl1]; exact Fm.frame_lt hm1.2.2, by rw [hl2]; exact Fm.frame_lt hm2.2.2⟩
  clear hl1 hl2 hm1 hm2 n1 n2
  go_enter Try.func10, Try.ntmps10
  go_wp2_with fail
  refine (batchA_any 1 (by decide) (by decide) w).mono ?_
  rintro e wa ⟨hxa, ⟨ni, eA, ec, lx⟩, hbx, rfl, hbm⟩
  have HXA := Lib.hid hxa
  have HPU := Lib.hid (wput_any hbm (Nat.le_refl _))
  rw [hbx] at HPU
  clear hxa hbx hbm
  dsimp only [Bx.val] at HPU ⊢
  go_wp2_with fail
  refine HPU.out.mono ?_
  rintro e w1 ⟨hx1, (⟨h1, _⟩ | ⟨_, h1, _⟩ | ⟨_, _, v1, rfl, hown1⟩)⟩
  · exact absurd put_A1.may h1
  · exact absurd put_A1.len (by omega)
  have HX1 : Hid (Ext w w1) := Ext.trans HXA.out hx1
  have HO1 : Hid (Own w.heap.size l1 v1 w1) := by rw [HL1.out]; exact hown1.base HXA.out.size
  obtain ⟨b1, c1, rfl⟩ := own_some HO1.out (by intro h; have := HN.out.1.1; rw [h] at this; simp at this)
  clear hx1 hown1 HPU
  go_wp2_with fail
  refine (batchE_any 2 (by decide) (by decide) w1).mono ?_
  rintro e wa' ⟨hxa, ⟨nj, fA, fc, ly⟩, hbx, rfl, hbm⟩
  have HXA2 := Lib.hid hxa
  have HPU := Lib.hid (wput_any hbm (Nat.le_refl _))
  rw [hbx] at HPU
  clear hxa hbx hbm
  dsimp only [Bx.val] at HPU ⊢
  go_wp2_with fail
  refine HPU.out.mono ?_
  rintro e w2 ⟨hx2, (⟨h1, _⟩ | ⟨_, h1, _⟩ | ⟨_, _, v2, rfl, hown2⟩)⟩
  · exact absurd put_E2.may h1
  · exact absurd put_E2.len (by omega)
  have HX12 : Hid (Ext w1 w2) := Ext.trans HXA2.out hx2
  have HX2 : Hid (Ext w w2) := Ext.trans HX1.out HX12.out
  have HO2 : Hid (Own w.heap.size l2 v2 w2) := by rw [HL2.out]; exact hown2.base (Ext.trans HX1.out HXA2.out).size
  have HO12 : Hid (Own w.heap.size l1 (.slice (some ⟨b1, 0, none⟩) l1.length c1) w2) := HO1.out.below HX12.out
  obtain ⟨b2, c2, rfl⟩ := own_some HO2.out (by intro h; have := HN.out.2.1; rw [h] at this; simp at this)
  clear hx2 hown2 HPU
  go_wp2_with fail
  refine (batchE_any 0 (by decide) (by decide) w2).mono ?_
  rintro e wa'' ⟨hxa, ⟨nk, gA, gc, lz⟩, hbx, rfl, hbm⟩
  have HXA3 := Lib.hid hxa
  have HPU := Lib.hid (wput_any hbm (Nat.le_refl _))
  rw [hbx] at HPU
  clear hxa hbx hbm
  dsimp only [Bx.val] at HPU ⊢
  go_wp2_with fail
  refine HPU.out.mono ?_
  rintro e w3 ⟨hx3, (⟨_, rfl⟩ | ⟨h1, _⟩ | ⟨h1, _⟩)⟩
  rotate_left
  · exact absurd h1 no_E0
  · exact absurd h1 no_E0
  have HX23 : Hid (Ext w2 w3) := Ext.trans HXA3.out hx3
  have HX3 : Hid (Ext w w3) := Ext.trans HX2.out HX23.out
  have HP1 : Hid (Own w.heap.size l1 (.slice (some ⟨b1, 0, none⟩) l1.length c1) w3) := HO12.out.below HX23.out
  have HP2 : Hid (Own w.heap.size l2 (.slice (some ⟨b2, 0, none⟩) l2.length c2) w3) := HO2.out.below HX23.out
  clear hx3 HPU
  obtain ⟨l12, hl12⟩ : ∃ l12, l12 = l1 ++ l2 := ⟨_, rfl⟩
  obtain ⟨l21, hl21⟩ : ∃ l21, l21 = l2 ++ l1 := ⟨_, rfl⟩
  have HL12 := Lib.hid hl12
  have HL21 := Lib.hid hl21
  have HS12 : Hid (l1.length + l2.length = l12.length) := by rw [hl12, List.length_append]; exact Lib.hid rfl
  have HS21 : Hid (l2.length + l1.length = l21.length) := by rw [hl21, List.length_append]; exact Lib.hid rfl
  clear hl12 hl21
  obtain ⟨S, hS⟩ : ∃ S, S = l1.length + l2.length := ⟨_, rfl⟩
  have HSS := Lib.hid hS
  -- both, this way round
  have HR1 : Hid (Batl (Fm.frs l12 0) 0 (gl 0 [batA 1, batE 2]) ∧ wellB l12 (gl 0 [batA 1, batE 2]) = true ∧ endAt 0 (gl 0 [batA 1, batE 2]) (gl 0 [batA 1, batE 2]).length = S) := by
    have hall : ∀ b ∈ [batA 1, batE 2], Put1 b := by simp [put_A1, put_E2]
    rw [HL12.out]
    have e : l1 ++ l2 = [] ++ (logB [batA 1, batE 2] ++ []) := by rw [HL1.out, HL2.out]; simp [logB_cons, logB_nil]
    have h1 := batl_good Fm.whole1_nil [batA 1, batE 2] [] 0 hall (by simp [Ris, batA, batE])
    have h2 := well_good hall put_A1.mayP (j := 0) (by have := put_A1.mayP.1; omega)
    have h3 := endAt_gl 0 [batA 1, batE 2]
    rw [← e] at h1
    refine ⟨h1, ?_, ?_⟩
    · rw [e, List.nil_append]; simpa using h2
    · rw [h3, logB_cons, logB_cons, logB_nil, ← HL1.out, ← HL2.out, HSS.out]; simp
  have HR2 : Hid (Batl (Fm.frs l21 0) 0 (gl 0 [batE 2]) ∧ wellB l21 (gl 0 [batE 2]) = false ∧ endAt 0 (gl 0 [batE 2]) (gl 0 [batE 2]).length = l2.length) := by
    have hall : ∀ b ∈ [batE 2], Put1 b := by simp [put_E2]
    rw [HL21.out]
    have e : l2 ++ l1 = [] ++ (logB [batE 2] ++ (Fm.frame (batA 1).form ++ [])) := by rw [HL1.out, HL2.out]; simp [logB_cons, logB_nil]
    have h1 := batl_stop (x := []) put_A1.mayP [batE 2] [] 0 hall (by simp [Ris, batE]) (fun b hb => by
      have := hb.unique ⟨put_A1.may, rfl⟩
      rw [this]
      simp [lastI, batA, batE])
    have h3 := endAt_gl 0 [batE 2]
    rw [← e] at h1
    refine ⟨h1.1, ?_, ?_⟩
    · unfold wellB
      rw [decide_eq_false (by rw [gl_length]; exact Nat.ne_of_lt h1.2), Bool.false_and]
    · rw [h3, logB_cons, logB_nil, ← HL2.out]; simp
  obtain ⟨h, hh⟩ : ∃ h, h = l1.length / 2 := ⟨_, rfl⟩
  have hh2 : h ≤ l1.length := by omega
  obtain ⟨l13, hl13⟩ : ∃ l13, l13 = l1 ++ l1.take h := ⟨_, rfl⟩
  have HL13 := Lib.hid hl13
  clear hl13
  have HR3 : Hid (Batl (Fm.frs l13 0) 0 (gl 0 [batA 1]) ∧ wellB l13 (gl 0 [batA 1]) = true ∧ endAt 0 (gl 0 [batA 1]) (gl 0 [batA 1]).length = l1.length) := by
    have hall : ∀ b ∈ [batA 1], Put1 b := by simp [put_A1]
    have hj : h < (batA 1).form.length + 8 := by have h9 := HN.out.1.1; rw [HL1.out, Fm.frame_length] at hh h9; omega
    rw [HL13.out]
    have e : l1 ++ l1.take h = [] ++ (logB [batA 1] ++ (Fm.frame (batA 1).form).take h) := by rw [HL1.out]; simp [logB_cons, logB_nil]
    have h1 := batl_good (Fm.whole_cut put_A1.mayP hj).1 [batA 1] [] 0 hall (by simp [Ris, batA])
    have h2 := well_good hall put_A1.mayP hj
    have h3 := endAt_gl 0 [batA 1]
    rw [← e] at h1
    refine ⟨h1, ?_, ?_⟩
    · rw [e, List.nil_append]; exact h2
    · rw [h3, logB_cons, logB_nil, ← HL1.out]; simp
  have HBN : Hid (l1.length + l2.length ≤ 1000000000000) := by have := HN.out; unfold Hid; omega
  go_wp2_with (at_builtin; refine wpList_addbytes rfl (.const (.slice none 0 0)) (.tmp 32) rfl w3.heap.size _ [] rfl (Own.nil _ _) 0 w3.heap.size _ l1 rfl HP1.out.bs (by have := HN.out; simp; omega) (Nat.le_refl _) ?_)
  intro A4 c4 u4 ho hb
  try simp only [List.nil_append] at ho ⊢
  have HU4 : Hid (Ext w3 u4) := hb w3 (Below.refl _ _)
  have HOU4 : Hid (Own w3.heap.size l1 (.slice A4 l1.length c4) u4) := ho
  have HPY4 := Lib.hid (HP2.out.below HU4.out)
  clear ho hb
  go_wp2_with (at_builtin; refine wpList_addbytes rfl (.tmp 33) (.tmp 34) rfl w3.heap.size _ l1 rfl HOU4.out 0 u4.heap.size _ l2 rfl HPY4.out.bs (by have := HN.out; omega) HU4.out.size ?_)
  intro B4 d4 w4 ho hb
  try simp only [List.length_append] at ho ⊢
  rw [HS12.out] at ho ⊢
  rw [← HL12.out] at ho
  have HX4 : Hid (Ext w3 w4) := hb w3 HU4.out
  have HOT4 : Hid (Own w3.heap.size l12 (.slice B4 l12.length d4) w4) := ho
  have HPX4 := Lib.hid (HP1.out.below HX4.out)
  have HPZ4 := Lib.hid (HP2.out.below HX4.out)
  clear ho hb HPY4 HOU4
  have HBT4 := Lib.hid (batches_any HOT4.out.bs (Nat.le_refl _) (by rw [HL12.out]; intro x hx; rcases List.mem_append.1 hx with h | h <;> first | exact HB.out.1 x h | exact HB.out.2 x h | exact HB.out.1 x (List.mem_of_mem_take h)) (by rw [← HS12.out]; have := HN.out; omega) HR1.out.1)
  go_wp2_with fail
  refine HBT4.out.mono ?_
  rintro e w5 ⟨X4, V4, q4, hmap, rfl, hbts, hx⟩
  rw [HR1.out.2.1, HR1.out.2.2]
  have HM4 : Hid (X4.map Bx.bat = [batA 1, batE 2]) := by rw [hmap, gl_map]; exact Lib.hid rfl
  have HBS4 := Lib.hid hbts
  have HY4 : Hid (Ext w4 w5) := hx
  have HQX4 := Lib.hid (HPX4.out.below HY4.out)
  have HQZ4 := Lib.hid (HPZ4.out.below HY4.out)
  clear hmap hbts hx HBT4
  go_wp2_with (at_builtin; refine wpList_addbytes rfl (.const (.slice none 0 0)) (.tmp 41) rfl w5.heap.size _ [] rfl (Own.nil _ _) 0 w5.heap.size _ l2 rfl HQZ4.out.bs (by have := HN.out; simp; omega) (Nat.le_refl _) ?_)
  intro A5 c5 u5 ho hb
  try simp only [List.nil_append] at ho ⊢
  have HU5 : Hid (Ext w5 u5) := hb w5 (Below.refl _ _)
  have HOU5 : Hid (Own w5.heap.size l2 (.slice A5 l2.length c5) u5) := ho
  have HPY5 := Lib.hid (HQX4.out.below HU5.out)
  clear ho hb
  go_wp2_with (at_builtin; refine wpList_addbytes rfl (.tmp 42) (.tmp 43) rfl w5.heap.size _ l2 rfl HOU5.out 0 u5.heap.size _ l1 rfl HPY5.out.bs (by have := HN.out; omega) HU5.out.size ?_)
  intro B5 d5 w6 ho hb
  try simp only [List.length_append] at ho ⊢
  rw [HS21.out] at ho ⊢
  rw [← HL21.out] at ho
  have HX5 : Hid (Ext w5 w6) := hb w5 HU5.out
  have HOT5 : Hid (Own w5.heap.size l21 (.slice B5 l21.length d5) w6) := ho
  have HPX5 := Lib.hid (HQZ4.out.below HX5.out)
  have HPZ5 := Lib.hid (HQX4.out.below HX5.out)
  clear ho hb HPY5 HOU5
  have HBT5 := Lib.hid (batches_any HOT5.out.bs (Nat.le_refl _) (by rw [HL21.out]; intro x hx; rcases List.mem_append.1 hx with h | h <;> first | exact HB.out.1 x h | exact HB.out.2 x h | exact HB.out.1 x (List.mem_of_mem_take h)) (by rw [← HS21.out]; have := HN.out; omega) HR2.out.1)
  go_wp2_with fail
  refine HBT5.out.mono ?_
  rintro e w7 ⟨X5, V5, q5, hmap, rfl, hbts, hx⟩
  rw [HR2.out.2.1, HR2.out.2.2]
  have HM5 : Hid (X5.map Bx.bat = [batE 2]) := by rw [hmap, gl_map]; exact Lib.hid rfl
  have HBS5 := Lib.hid hbts
  have HY5 : Hid (Ext w6 w7) := hx
  have HQX5 := Lib.hid (HPX5.out.below HY5.out)
  have HQZ5 := Lib.hid (HPZ5.out.below HY5.out)
  clear hmap hbts hx HBT5
  go_upto_region 6 with (fail)
  have hq : (l1.length : Int).tdiv 2 = (h : Int) := by rw [hh]; exact Int.tdiv_eq_ediv_of_nonneg (by omega) |>.trans (by omega)
  have HSL : Hid (∀ u, (Instr.slice 29 (.slice (some ⟨b1, 0, none⟩) l1.length c1) none (some (.int .i64 (h : Int))) none).run Try.prog u = .ok (.slice (some ⟨b1, 0, none⟩) h c1) u) := fun u => byslice0 _ _ _ _ hh2 (by obtain ⟨A', c', e, h1, _⟩ := HQZ5.out.bs; injection e with _ _ e3; omega) u
  have hwh : IntKind.i64.wrap (h : Int) = (h : Int) := by rw [IntKind.wrap_i64]; omega
  have HHH := Lib.hid (And.intro hh hh2)
  have HWD : Hid (Ext w7 w7.drew) := Ext.drew w7
  clear hh hh2
  refine atB_start (B := w7.heap.size) (by kernel_rfl) (n := 16) rfl ?_
  obtain ⟨wd, hwd⟩ : ∃ wd, wd = w7.drew := ⟨_, rfl⟩
  rw [← hwd] at HWD ⊢
  have HWZ : Hid (wd.heap.size = w7.heap.size) := by rw [hwd]; rfl
  clear hwd
  (refine atB_read 0 (v := .slice (some ⟨b1, 0, none⟩) l1.length c1) rfl (by kernel_rfl) (by kernel_rfl) (by kernel_rfl) (fun _ _ _ h => h) (.inl ⟨by rfl, fun u hu => ?_⟩) ?_; (focus (go_simp; try with_reducible rfl)); try simp only [Act.put, List.setIfInBounds_toArray, List.set_cons_zero, List.set_cons_succ])
  (refine atB_read 2 (v := .slice (some ⟨b1, 0, none⟩) l1.length c1) rfl (by kernel_rfl) (by kernel_rfl) (by kernel_rfl) (fun _ _ _ h => h) (.inl ⟨by rfl, fun u hu => ?_⟩) ?_; (focus (go_simp; try with_reducible rfl)); try simp only [Act.put, List.setIfInBounds_toArray, List.set_cons_zero, List.set_cons_succ])
  (refine atB_read 3 (v := .slice (some ⟨b1, 0, none⟩) l1.length c1) rfl (by kernel_rfl) (by kernel_rfl) (by kernel_rfl) (fun _ _ _ h => h) (.inl ⟨by rfl, fun u hu => ?_⟩) ?_; (focus (go_simp; try with_reducible rfl)); try simp only [Act.put, List.setIfInBounds_toArray, List.set_cons_zero, List.set_cons_succ])
  (refine atB_read 4 (v := .int .i64 (l1.length : Int)) rfl (by kernel_rfl) (by kernel_rfl) (by kernel_rfl) (fun _ _ _ h => h) (.inl ⟨by rfl, fun u hu => ?_⟩) ?_; (focus (go_simp; try with_reducible rfl)); try simp only [Act.put, List.setIfInBounds_toArray, List.set_cons_zero, List.set_cons_succ])
  (refine atB_read 5 (v := .int .i64 (h : Int)) rfl (by kernel_rfl) (by kernel_rfl) (by kernel_rfl) (fun _ _ _ h => h) (.inl ⟨by rfl, fun u hu => ?_⟩) ?_; (focus (have hq2 := hq; have hw5 := hwh; go_simp; try with_reducible rfl)); try simp only [Act.put, List.setIfInBounds_toArray, List.set_cons_zero, List.set_cons_succ])
  (refine atB_read 6 (v := .slice (some ⟨b1, 0, none⟩) h c1) rfl (by kernel_rfl) (by kernel_rfl) (by kernel_rfl) (fun _ _ _ h => h) (.inl ⟨by rfl, fun u hu => ?_⟩) ?_; (focus (have hs := HSL.out u; go_simp; try with_reducible rfl)); try simp only [Act.put, List.setIfInBounds_toArray, List.set_cons_zero, List.set_cons_succ])
  have HQD := Lib.hid (HQZ5.out.below HWD.out)
  have HQE := Lib.hid (HQX5.out.below HWD.out)
  have hcut : Bs wd 0 wd.heap.size (.slice (some ⟨b1, 0, none⟩) (l1.take h).length c1) (l1.take h) := by
    obtain ⟨A', c', e, h1, h2, h3, h4⟩ := HQD.out.bs
    injection e with e1 _ e3
    subst e1 e3
    refine ⟨_, _, rfl, by rw [List.length_take]; omega, h2, h3, ?_⟩
    have := Sl.take h4 h
    unfold By
    rw [bv_take]
    exact this
  have hlt : (l1.take h).length = h := by rw [List.length_take]; exact Nat.min_eq_left HHH.out.2
  rw [hlt] at hcut
  have HCUT : Hid (Bs wd 0 wd.heap.size (.slice (some ⟨b1, 0, none⟩) (l1.take h).length c1) (l1.take h)) := by rw [hlt]; exact hcut
  have HLT := Lib.hid hlt
  clear hcut hlt
  refine atB_make 1 rfl (by kernel_rfl) (fun K hK => ?_)
  rw [if_pos (by rfl)]
  refine wp_addb (.const (.slice none 0 0)) (.tmp 50) rfl w7.heap.size _ [] rfl (Own.nil _ _) 0 wd.heap.size _ c1 l1 rfl HQD.out.bs (by have := HN.out; simp; omega) HWD.out.size ?_
  intro A6 c6 u6 ho hb
  try simp only [List.nil_append] at ho ⊢
  have HU6 : Hid (Below w7.heap.size wd u6) := hb wd (Below.refl _ _)
  have HOU6 : Hid (Own w7.heap.size l1 (.slice A6 l1.length c6) u6) := ho
  refine hK _ _ HU6.out ?_
  clear hK K hb ho
  try simp only [Act.put, List.setIfInBounds_toArray, List.set_cons_zero, List.set_cons_succ]
  refine atB_make 7 rfl (by kernel_rfl) (fun K hK => ?_)
  rw [if_pos (by rfl)]
  refine wp_addb (.tmp 51) (.tmp 56) rfl w7.heap.size _ l1 rfl HOU6.out 0 wd.heap.size ⟨b1, 0, none⟩ c1 (l1.take h) (by rw [HLT.out]; rfl) (HCUT.out.below HU6.out (Nat.le_of_eq HWZ.out)) (by have := HN.out; rw [List.length_take]; omega) (Nat.le_trans HWD.out.size HU6.out.size) ?_
  intro B6 d6 w8 ho hb
  rw [← HL13.out] at ho ⊢
  have HX6 : Hid (Ext wd w8) := by have h1 : Below w7.heap.size wd w8 := hb wd HU6.out; rw [← HWZ.out] at h1; exact h1
  have HOT6 : Hid (Own w7.heap.size l13 (.slice B6 l13.length d6) w8) := ho
  have HPX6 := Lib.hid (HQD.out.below HX6.out)
  have HPZ6 := Lib.hid (HQE.out.below HX6.out)
  refine hK _ _ (hb u6 (Below.refl _ _)) ?_
  clear hK K ho hb HOU6
  try simp only [Act.put, List.setIfInBounds_toArray, List.set_cons_zero, List.set_cons_succ]
  refine atB_make 8 rfl (by kernel_rfl) (fun K hK => ?_)
  have HBT6 := Lib.hid (batches_any HOT6.out.bs (Nat.le_refl _) (by rw [HL13.out]; intro x hx; rcases List.mem_append.1 hx with h | h <;> first | exact HB.out.1 x h | exact HB.out.1 x (List.mem_of_mem_take h)) (by rw [HL13.out, List.length_append, List.length_take]; have := HN.out; omega) HR3.out.1)
  go_simp
  refine HBT6.out.mono ?_
  rintro e w9 ⟨X6, V6, q6, hmap, rfl, hbts, hx⟩
  rw [HR3.out.2.1, HR3.out.2.2]
  have HM6 : Hid (X6.map Bx.bat = [batA 1]) := by rw [hmap, gl_map]; exact Lib.hid rfl
  have HBS6 := Lib.hid hbts
  have HY6 : Hid (Ext w8 w9) := hx
  have HQX6 := Lib.hid (HPX6.out.below HY6.out)
  have HQZ6 := Lib.hid (HPZ6.out.below HY6.out)
  have HSZ6 : Hid (w7.heap.size ≤ w8.heap.size) := Nat.le_trans (Nat.le_of_eq HWZ.out.symm) HX6.out.size
  refine hK _ _ ((show Below w8.heap.size w8 w9 from hx).mono HSZ6.out) ?_
  clear hK K hmap hbts hx HBT6
  try simp only [Act.put, List.setIfInBounds_toArray, List.set_cons_zero, List.set_cons_succ]
  (refine atB_read 9 (v := .tuple #[.slice V6 X6.length q6, .int .i64 (l1.length : Int), .bool true]) rfl (by kernel_rfl) (by kernel_rfl) (by kernel_rfl) (fun _ _ _ h => h) (.inl ⟨by rfl, fun u hu => ?_⟩) ?_; (focus (go_simp; try with_reducible rfl)); try simp only [Act.put, List.setIfInBounds_toArray, List.set_cons_zero, List.set_cons_succ])
  (refine atB_read 10 (v := .slice V6 X6.length q6) rfl (by kernel_rfl) (by kernel_rfl) (by kernel_rfl) (fun _ _ _ h => h) (.inl ⟨by rfl, fun u hu => ?_⟩) ?_; (focus (go_simp; try with_reducible rfl)); try simp only [Act.put, List.setIfInBounds_toArray, List.set_cons_zero, List.set_cons_succ])
  (refine atB_read 11 (v := .int .i64 (l1.length : Int)) rfl (by kernel_rfl) (by kernel_rfl) (by kernel_rfl) (fun _ _ _ h => h) (.inl ⟨by rfl, fun u hu => ?_⟩) ?_; (focus (go_simp; try with_reducible rfl)); try simp only [Act.put, List.setIfInBounds_toArray, List.set_cons_zero, List.set_cons_succ])
  (refine atB_read 12 (v := .bool true) rfl (by kernel_rfl) (by kernel_rfl) (by kernel_rfl) (fun _ _ _ h => h) (.inl ⟨by rfl, fun u hu => ?_⟩) ?_; (focus (go_simp; try with_reducible rfl)); try simp only [Act.put, List.setIfInBounds_toArray, List.set_cons_zero, List.set_cons_succ])
  (refine atB_read 13 (v := .slice V6 X6.length q6) rfl (by kernel_rfl) (by kernel_rfl) (by kernel_rfl) (fun _ _ _ h => h) (.inl ⟨by rfl, fun u hu => ?_⟩) ?_; (focus (go_simp; try with_reducible rfl)); try simp only [Act.put, List.setIfInBounds_toArray, List.set_cons_zero, List.set_cons_succ])
  (refine atB_read 14 (v := .int .i64 (l1.length : Int)) rfl (by kernel_rfl) (by kernel_rfl) (by kernel_rfl) (fun _ _ _ h => h) (.inl ⟨by rfl, fun u hu => ?_⟩) ?_; (focus (go_simp; try with_reducible rfl)); try simp only [Act.put, List.setIfInBounds_toArray, List.set_cons_zero, List.set_cons_succ])
  (refine atB_read 15 (v := .bool true) rfl (by kernel_rfl) (by kernel_rfl) (by kernel_rfl) (fun _ _ _ h => h) (.inl ⟨by rfl, fun u hu => ?_⟩) ?_; (focus (go_simp; try with_reducible rfl)); try simp only [Act.put, List.setIfInBounds_toArray, List.set_cons_zero, List.set_cons_succ])
  refine atB_done (by kernel_rfl) ?_
  have HX79 : Hid (Ext w7 w9) := Ext.trans HWD.out (Ext.trans HX6.out HY6.out)
  go_wp2_with fail
  refine (wnum_any _ _).mono ?_
  rintro e u ⟨rfl, hu⟩
  have hu := hu.symm
  subst hu
  go_wp2_with fail
  refine (wnum_any _ _).mono ?_
  rintro e u ⟨rfl, hu⟩
  have hu := hu.symm
  subst hu
  go_wp2_with fail
  refine (wnum_any _ _).mono ?_
  rintro e u ⟨rfl, hu⟩
  have hu := hu.symm
  subst hu
  go_wp2_with fail
  have hsum : IntKind.i64.wrap ((l1.length : Int) + (l2.length : Int)) = (S : Int) := by have := HSS.out; rw [IntKind.wrap_i64]; omega
  have hsum64 : wrap64 ((l1.length : Int) + (l2.length : Int)) = (S : Int) := by have := HSS.out; unfold wrap64; omega
  refine (batchA_any 1 (by decide) (by decide) w9).mono ?_
  rintro e wb ⟨hx, ⟨np, eAp, ecp, lxp⟩, hb, rfl, hbm⟩
  have HXwb : Hid (Ext w9 wb) := hx
  have HBp : Hid ((⟨np, eAp, ecp, lxp⟩ : Bx).bat = batA 1) := hb
  have HMp : Hid (Bm wb w9.heap.size wb.heap.size ⟨np, eAp, ecp, lxp⟩) := hbm
  clear hx hb hbm
  dsimp only [Bx.val]
  go_wp2_with fail
  refine (batchE_any 2 (by decide) (by decide) wb).mono ?_
  rintro e wc ⟨hx, ⟨nq, eAq, ecq, lxq⟩, hb, rfl, hbm⟩
  have HXwc : Hid (Ext wb wc) := hx
  have HBq : Hid ((⟨nq, eAq, ecq, lxq⟩ : Bx).bat = batE 2) := hb
  have HMq : Hid (Bm wc wb.heap.size wc.heap.size ⟨nq, eAq, ecq, lxq⟩) := hbm
  clear hx hb hbm
  dsimp only [Bx.val]
  go_wp2_with fail
  obtain ⟨we, hwe⟩ : ∃ we, we = wc.alloc (.cells #[.int .i64 np, .slice eAp lxp.length ecp, .int .i64 nq, .slice eAq lxq.length ecq] 24) := ⟨_, rfl⟩
  rw [← hwe]
  have HXwe : Hid (Ext wc we) := by rw [hwe]; exact ext_alloc _ _
  have HCwe : Hid (we.heap[wc.heap.size]? = some (.cells #[.int .i64 np, .slice eAp lxp.length ecp, .int .i64 nq, .slice eAq lxq.length ecq] 24 (0, 0))) := by rw [hwe]; exact heap_at _ _ rfl
  clear hwe
  have HTwe : Hid (Bts we 0 we.heap.size (some ⟨wc.heap.size, 0, none⟩) [⟨np, eAp, ecp, lxp⟩, ⟨nq, eAq, ecq, lxq⟩]) := Bts.two (x := ⟨np, eAp, ecp, lxp⟩) (y := ⟨nq, eAq, ecq, lxq⟩) HCwe.out (HMp.out.ext (Ext.trans HXwc.out HXwe.out) (Nat.le_refl _)) (Ext.trans HXwc.out HXwe.out).size (HMq.out.ext HXwe.out (Nat.le_refl _)) HXwe.out.size
  have HE5 : Hid (Ext w5 we) := Ext.trans HX5.out (Ext.trans HY5.out (Ext.trans HX79.out (Ext.trans HXwb.out (Ext.trans HXwc.out HXwe.out))))
  have HXL4 : Hid (X4.length ≤ 1000000000000) := by have h := congrArg List.length HM4.out; rw [List.length_map] at h; rw [h]; simp [Hid]
  refine (same13_any (c := q4) (c2 := 2) (L := X4) (M := [⟨np, eAp, ecp, lxp⟩, ⟨nq, eAq, ecq, lxq⟩]) (HBS4.out.below HE5.out (Nat.le_refl _)) HTwe.out (HE5.out).size (Nat.le_refl _) HXL4.out).mono ?_
  rintro e wf ⟨z, hz, rfl, hx⟩
  have hz2 : z = true := hz.2 (by rw [HM4.out]; simp only [List.map_cons, List.map_nil, HBp.out, HBq.out])
  subst hz2
  have HXwf : Hid (Ext we wf) := hx
  clear hz hx
  go_wp2_with fail
  refine (batchE_any 2 (by decide) (by decide) wf).mono ?_
  rintro e wg ⟨hx, ⟨nr, eAr, ecr, lxr⟩, hb, rfl, hbm⟩
  have HXwg : Hid (Ext wf wg) := hx
  have HBr : Hid ((⟨nr, eAr, ecr, lxr⟩ : Bx).bat = batE 2) := hb
  have HMr : Hid (Bm wg wf.heap.size wg.heap.size ⟨nr, eAr, ecr, lxr⟩) := hbm
  clear hx hb hbm
  dsimp only [Bx.val]
  go_wp2_with fail
  obtain ⟨wh, hwh⟩ : ∃ wh, wh = wg.alloc (.cells #[.int .i64 nr, .slice eAr lxr.length ecr] 24) := ⟨_, rfl⟩
  rw [← hwh]
  have HXwh : Hid (Ext wg wh) := by rw [hwh]; exact ext_alloc _ _
  have HCwh : Hid (wh.heap[wg.heap.size]? = some (.cells #[.int .i64 nr, .slice eAr lxr.length ecr] 24 (0, 0))) := by rw [hwh]; exact heap_at _ _ rfl
  clear hwh
  have HTwh : Hid (Bts wh 0 wh.heap.size (some ⟨wg.heap.size, 0, none⟩) [⟨nr, eAr, ecr, lxr⟩]) := Bts.one (x := ⟨nr, eAr, ecr, lxr⟩) (cell_of HCwh.out (k := 0) rfl) (cell_of HCwh.out (k := 1) rfl) (HMr.out.ext HXwh.out (Nat.le_refl _)) HXwh.out.size
  have HE7 : Hid (Ext w7 wh) := Ext.trans HX79.out (Ext.trans HXwb.out (Ext.trans HXwc.out (Ext.trans HXwe.out (Ext.trans HXwf.out (Ext.trans HXwg.out HXwh.out)))))
  have HXL5 : Hid (X5.length ≤ 1000000000000) := by have h := congrArg List.length HM5.out; rw [List.length_map] at h; rw [h]; simp [Hid]
  refine (same13_any (c := q5) (c2 := 1) (L := X5) (M := [⟨nr, eAr, ecr, lxr⟩]) (HBS5.out.below HE7.out (Nat.le_refl _)) HTwh.out (HE7.out).size (Nat.le_refl _) HXL5.out).mono ?_
  rintro e wi ⟨z, hz, rfl, hx⟩
  have hz2 : z = true := hz.2 (by rw [HM5.out]; simp only [List.map_cons, List.map_nil, HBr.out])
  subst hz2
  have HXwi : Hid (Ext wh wi) := hx
  clear hz hx
  go_wp2_with fail
  refine (batchA_any 1 (by decide) (by decide) wi).mono ?_
  rintro e wj ⟨hx, ⟨ns, eAs, ecs, lxs⟩, hb, rfl, hbm⟩
  have HXwj : Hid (Ext wi wj) := hx
  have HBs : Hid ((⟨ns, eAs, ecs, lxs⟩ : Bx).bat = batA 1) := hb
  have HMs : Hid (Bm wj wi.heap.size wj.heap.size ⟨ns, eAs, ecs, lxs⟩) := hbm
  clear hx hb hbm
  dsimp only [Bx.val]
  go_wp2_with fail
  obtain ⟨wk, hwk⟩ : ∃ wk, wk = wj.alloc (.cells #[.int .i64 ns, .slice eAs lxs.length ecs] 24) := ⟨_, rfl⟩
  rw [← hwk]
  have HXwk : Hid (Ext wj wk) := by rw [hwk]; exact ext_alloc _ _
  have HCwk : Hid (wk.heap[wj.heap.size]? = some (.cells #[.int .i64 ns, .slice eAs lxs.length ecs] 24 (0, 0))) := by rw [hwk]; exact heap_at _ _ rfl
  clear hwk
  have HTwk : Hid (Bts wk 0 wk.heap.size (some ⟨wj.heap.size, 0, none⟩) [⟨ns, eAs, ecs, lxs⟩]) := Bts.one (x := ⟨ns, eAs, ecs, lxs⟩) (cell_of HCwk.out (k := 0) rfl) (cell_of HCwk.out (k := 1) rfl) (HMs.out.ext HXwk.out (Nat.le_refl _)) HXwk.out.size
  have HE9 : Hid (Ext w9 wk) := Ext.trans HXwb.out (Ext.trans HXwc.out (Ext.trans HXwe.out (Ext.trans HXwf.out (Ext.trans HXwg.out (Ext.trans HXwh.out (Ext.trans HXwi.out (Ext.trans HXwj.out HXwk.out)))))))
  have HXL6 : Hid (X6.length ≤ 1000000000000) := by have h := congrArg List.length HM6.out; rw [List.length_map] at h; rw [h]; simp [Hid]
  refine (same13_any (c := q6) (c2 := 1) (L := X6) (M := [⟨ns, eAs, ecs, lxs⟩]) (HBS6.out.below HE9.out (Nat.le_refl _)) HTwk.out (HE9.out).size (Nat.le_refl _) HXL6.out).mono ?_
  rintro e wl ⟨z, hz, rfl, hx⟩
  have hz2 : z = true := hz.2 (by rw [HM6.out]; simp only [List.map_cons, List.map_nil, HBs.out])
  subst hz2
  have HXwl : Hid (Ext wk wl) := hx
  clear hz hx
  have HE9l : Hid (Ext w9 wl) := Ext.trans HE9.out HXwl.out
  have HQa := Lib.hid (HQX6.out.below HE9l.out)
  have HQb := Lib.hid (HQZ6.out.below HE9l.out)
  go_wp2_with (at_builtin; refine wpList_addg (by rfl) (.const (.slice none 0 0)) (.tmp 124) rfl wl.heap.size _ [] rfl (Own.nil _ _) 0 wl.heap.size _ c1 l1 rfl HQa.out.bs (by have := HN.out; simp; omega) (Nat.le_refl _) ?_)
  intro A8 c8 u8 ho hb
  try simp only [List.nil_append] at ho ⊢
  have HU8 : Hid (Ext wl u8) := hb wl (Below.refl _ _)
  have HOU8 : Hid (Own wl.heap.size l1 (.slice A8 l1.length c8) u8) := ho
  have HPY8 := Lib.hid (HQb.out.below HU8.out)
  clear ho hb
  go_wp2_with (at_builtin; refine wpList_addg (by rfl) (.tmp 125) (.tmp 126) rfl wl.heap.size _ l1 rfl HOU8.out 0 u8.heap.size _ c2 l2 rfl HPY8.out.bs (by have := HN.out; omega) HU8.out.size ?_)
  intro B8 d8 wm ho hb
  try simp only [List.length_append] at ho ⊢
  rw [HS12.out] at ho ⊢
  rw [← HL12.out] at ho
  have HX8 : Hid (Ext wl wm) := hb wl HU8.out
  have HOT8 : Hid (Own wl.heap.size l12 (.slice B8 l12.length d8) wm) := ho
  clear ho hb HPY8 HOU8
  go_wp2_with fail
  refine (batchE_any 2 (by decide) (by decide) wm).mono ?_
  rintro e wn ⟨hx, ⟨nt, eAt, ect, lxt⟩, hb, rfl, hbm⟩
  have HXwn : Hid (Ext wm wn) := hx
  have HBt : Hid ((⟨nt, eAt, ect, lxt⟩ : Bx).bat = batE 2) := hb
  have HMt : Hid (Bm wn wm.heap.size wn.heap.size ⟨nt, eAt, ect, lxt⟩) := hbm
  clear hx hb hbm
  dsimp only [Bx.val]
  go_wp2_with fail
  obtain ⟨wo, hwo⟩ : ∃ wo, wo = wn.alloc (.cells #[.int .i64 nt, .slice eAt lxt.length ect] 24) := ⟨_, rfl⟩
  rw [← hwo]
  have HXwo : Hid (Ext wn wo) := by rw [hwo]; exact ext_alloc _ _
  have HCwo : Hid (wo.heap[wn.heap.size]? = some (.cells #[.int .i64 nt, .slice eAt lxt.length ect] 24 (0, 0))) := by rw [hwo]; exact heap_at _ _ rfl
  clear hwo
  have HTwo : Hid (Bts wo 0 wo.heap.size (some ⟨wn.heap.size, 0, none⟩) [⟨nt, eAt, ect, lxt⟩]) := Bts.one (x := ⟨nt, eAt, ect, lxt⟩) (cell_of HCwo.out (k := 0) rfl) (cell_of HCwo.out (k := 1) rfl) (HMt.out.ext HXwo.out (Nat.le_refl _)) HXwo.out.size
  have HOT9 := Lib.hid ((HOT8.out.below (Ext.trans HXwn.out HXwo.out)))
  have HON := Lib.hid (once_any (i := 1) HOT9.out.bs (Nat.le_refl _) (by rw [HL12.out]; intro x hx; rcases List.mem_append.1 hx with h | h <;> first | exact HB.out.1 x h | exact HB.out.2 x h) (by rw [← HS12.out]; exact HBN.out) HR1.out.1 (L2 := [⟨nt, eAt, ect, lxt⟩]) (c2 := 1) HTwo.out (Nat.le_refl _) (by simp) (by simp) (by simp only [List.map_cons, List.map_nil, HBt.out]; simp [behindR, behindP, gl, batA, batE]) 0)
  refine HON.out.mono ?_
  rintro e wz ⟨rfl, hx⟩
  have HXZ : Hid (Ext wo wz) := hx
  clear hx HON
  go_wp2_with fail
  go_ret
  refine ⟨rfl, ?_⟩
  have e1 : Ext w w9 := Ext.trans HX3.out (Ext.trans HX4.out (Ext.trans HY4.out (Ext.trans HX5.out (Ext.trans HY5.out HX79.out))))
  exact Ext.trans e1 (Ext.trans HE9l.out (Ext.trans HX8.out (Ext.trans HXwn.out (Ext.trans HXwo.out HXZ.out))))
end Go.Proofs.Ytgflhbpmkcggnaa

/- The reference's May. -/
namespace Go.Proofs.Ytgflhbpmkcggnaa
open Go.ChangeShapes Go.WideShapes Go.ChangeAt Go.RowKit

set_option maxRecDepth 100000 in
set_option maxHeartbeats 4000000 in
theorem rmay13_any {w : World} {lo hi : Nat} {x : Bx} (h : Bm w lo hi x) (hhi : hi ≤ w.heap.size) :
    Calls Try.prog 14 #[x.val] w fun e w' => ∃ z : Bool, (z = true ↔ x.bat.may) ∧ e = .returned (.bool z) ∧ Ext w w' := by
  obtain ⟨n, A, c, L⟩ := x
  have HE : Hid (Es w lo hi A L) := h.es
  have HHI := Lib.hid hhi
  have HL : Hid (L.length ≤ 1000000000000) := h.ln
  obtain ⟨P, hP⟩ : ∃ P, P = (Bx.bat ⟨n, A, c, L⟩).may := ⟨_, rfl⟩
  have HP : Hid (P ↔ 1 ≤ n ∧ n ≤ 2147483647 ∧ L.length ≤ 65536 ∧ (L.all fun p => p.1.may) = true) := by
    refine Lib.hid ?_
    rw [hP]
    simp [Bx.bat, Bat.may]
  rw [← hP]
  clear hP h hhi
  unfold Bx.val
  have dn1 : decide (n < 1) = decide (n < 1) := rfl
  clear dn1
  by_cases h1 : n < 1
  · have d1 : decide (n < 1) = true := decide_eq_true h1
    have HF : Hid (¬ P) := fun hp => by have := HP.out.1 hp; omega
    clear h1
    go_enter Try.func14, Try.ntmps14
    go_wp2_with fail
    go_ret
    exact ⟨false, ⟨fun h => (by cases h), fun hp => absurd hp HF.out⟩, rfl, ext_alloc _ _⟩
  by_cases h2 : 2147483647 < n
  · have d1 : decide (n < 1) = false := decide_eq_false h1
    have d2 : decide (2147483647 < n) = true := decide_eq_true h2
    have HF : Hid (¬ P) := fun hp => by have := HP.out.1 hp; omega
    clear h1 h2
    go_enter Try.func14, Try.ntmps14
    go_wp2_with fail
    go_ret
    exact ⟨false, ⟨fun h => (by cases h), fun hp => absurd hp HF.out⟩, rfl, ext_alloc _ _⟩
  by_cases h3 : 65536 < L.length
  · have d1 : decide (n < 1) = false := decide_eq_false h1
    have d2 : decide (2147483647 < n) = false := decide_eq_false h2
    have d3 : decide (65536 < (L.length : Int)) = true := decide_eq_true (by omega)
    have d3n : decide (65536 < L.length) = true := decide_eq_true h3
    have HF : Hid (¬ P) := fun hp => by have := HP.out.1 hp; omega
    clear h1 h2 h3
    go_enter Try.func14, Try.ntmps14
    go_wp2_with fail
    go_ret
    exact ⟨false, ⟨fun h => (by cases h), fun hp => absurd hp HF.out⟩, rfl, ext_alloc _ _⟩
  have d1 : decide (n < 1) = false := decide_eq_false h1
  have d2 : decide (2147483647 < n) = false := decide_eq_false h2
  have d3 : decide (65536 < (L.length : Int)) = false := decide_eq_false (by omega)
  have d3n : decide (65536 < L.length) = false := decide_eq_false h3
  have HN : Hid (P ↔ (L.all fun p => p.1.may) = true) := HP.out.trans ⟨fun h => h.2.2.2, fun h => ⟨by omega, by omega, by omega, h⟩⟩
  clear h1 h2 h3 HP
  go_enter Try.func14, Try.ntmps14
  go_upto_region 1 with (fail)
  obtain ⟨w0, hw0⟩ : ∃ w0, w0 = w.alloc (.cells #[.int .i64 n, .slice A L.length c] 24) := ⟨_, rfl⟩
  rw [← hw0]
  have HX0 : Hid (Ext w w0) := by rw [hw0]; exact ext_alloc _ _
  have HB0 : Hid (w0.heap[w.heap.size]? = some (.cells #[.int .i64 n, .slice A L.length c] 24 (0, 0))) := by rw [hw0]; exact heap_at _ _ rfl
  have k0 := cell_of HB0.out (k := 0) rfl
  have k1 := cell_of HB0.out (k := 1) rfl
  clear hw0
  go_wp2_with fail
  clear k0 k1 d1 d2 d3 d3n
  go_loopw [3] (fun a wr => ∃ i : Nat, a = .int .i64 (i : Int) ∧ i ≤ L.length ∧ Hid ((L.take i).all (fun p => p.1.may) = true) ∧ Hid (Ext w0 wr)) (fun a _ => L.length - (intOf a).toNat)
  case atStart => exact ⟨0, rfl, by omega, by simp [Hid], Lib.hid (Ext.refl _)⟩
  case round =>
    obtain ⟨i, rfl, hm, HR, HX⟩ := hrel
    have HBW := Lib.hid (ext_heap HX.out HB0.out)
    have k0 := cell_of HBW.out (k := 0) rfl
    have k1 := cell_of HBW.out (k := 1) rfl
    by_cases hlt : i < L.length
    · have d : decide ((i : Int) < (L.length : Int)) = true := decide_eq_true (by omega)
      have dn : decide (i < L.length) = true := decide_eq_true hlt
      obtain ⟨b, o, hA⟩ := HE.out.base (by omega)
      subst hA
      obtain ⟨p, hp⟩ : ∃ p, L[i]? = some p := ⟨_, List.getElem?_eq_getElem hlt⟩
      obtain ⟨c0, c1, c2, c3⟩ := (HE.out.below (Ext.trans HX0.out HX.out) HHI.out).get hp
      have HPP := Lib.hid hp
      have n1 : (0 : Int) ≤ (i : Int) := by omega
      have n2 : (i : Int) < (L.length : Int) := by omega
      have hw2 : wrap64 ((i : Int) + 1) = ((i + 1 : Nat) : Int) := by have := HL.out; unfold wrap64; omega
      clear hp
      go_wp2_with fail
      refine (rmay_any _ _ _ _ _ _ _ _ _).mono ?_
      rintro x w9 ⟨rfl, hx9⟩
      have HX9 : Hid (Ext w0 w9) := Ext.trans HX.out hx9
      clear hx9 c0 c1 c2 c3 k0 k1
      obtain ⟨z, hz⟩ : ∃ z, z = mayN p.1.key.length p.1.seq p.1.kind p.1.val.length := ⟨_, rfl⟩
      rw [← hz]
      have HZ := Lib.hid hz
      clear hz
      cases z with
      | false =>
        go_wp2_with fail
        go_ret
        exact ⟨false, ⟨fun h => (by cases h), fun hp => by rw [HN.out, all_not (f := fun p : Ent × Hd => p.1.may) HPP.out HZ.out.symm] at hp; cases hp⟩, rfl, Ext.trans HX0.out HX9.out⟩
      | true =>
        go_wp2_with fail
        go_roundw
        case rel => exact ⟨i + 1, by rw [hw2], by omega, Lib.hid (all_next (f := fun p : Ent × Hd => p.1.may) HR.out HPP.out HZ.out.symm), HX9⟩
        case measure => rw [hw2]; simp [intOf]; omega
    · have d : decide ((i : Int) < (L.length : Int)) = false := decide_eq_false (by omega)
      have dn : decide (i < L.length) = false := decide_eq_false hlt
      have HM : Hid (L.all (fun p => p.1.may) = true) := by have h := HR.out; rwa [List.take_of_length_le (by omega)] at h
      clear hlt hm
      go_wp2_with fail
      go_ret
      exact ⟨true, ⟨fun _ => HN.out.2 HM.out, fun _ => rfl⟩, rfl, Ext.trans HX0.out HX.out⟩
end Go.Proofs.Ytgflhbpmkcggnaa

/- A region that draws its order and holds one store, behind which (or ahead of which) some operations may come that neither read nor change memory: facts for all others, then what the store makes (no function of the program). -/
namespace Go.Proofs.Ytgflhbpmkcggnaa.St
open Go.RowKit

/-- Each operation gives its fact; the s-th is the store, those of T look at no memory. -/
def Obls (P : Program) (ops : Array Oper) (φ : List (Value → World → Prop)) (w0 : World) (s : Nat) (T : List Nat) (S : (Nat → Value) → World → World → Prop) (f : Nat → Value) : Nat → List Oper → Act → Prop
  | _, [], _ => True
  | k, o :: rest, a => (if k = s then (∀ u, Ext w0 u → (∀ j, j ≠ s → j ∉ T → j < ops.size → fact φ j (f j) u) → if Region.wanted o (yielded ops a.tmps) = true then GivesR P ((execOp a.eval o).run P u) (fun _ u' => S f u u') else S f u u)
    else if k ∈ T then (∀ u u', Ext w0 u → (∀ j, aft o j = true → fact φ j (f j) u) → if Region.wanted o (yielded ops a.tmps) = true then GivesR P ((execOp a.eval o).run P u') (fun v u2 => u2 = u' ∧ fact φ k (kept o v) u) else fact φ k undef u)
    else (∀ u, Ext w0 u → (∀ j, aft o j = true → fact φ j (f j) u) →
      if Region.wanted o (yielded ops a.tmps) = true then GivesR P ((execOp a.eval o).run P u) (fun v u' => Ext u u' ∧ fact φ k (kept o v) u') else fact φ k undef u)) ∧ Obls P ops φ w0 s T S f (k + 1) rest (a.put o.dst (f k))

/-- All but the store and those of T stand ahead of the store. -/
def storeOk (ops : Array Oper) (s : Nat) (T : List Nat) : Bool := (List.range ops.size).all fun j => decide (j = s) || decide (j ∈ T) || reachB ops ops.size s j
structure SInv (ops : Array Oper) (φ : List (Value → World → Prop)) (w0 : World) (s : Nat) (S : (Nat → Value) → World → World → Prop) (seen : Nat → Bool) (f : Nat → Value) (u : World) : Prop where
  closed : ∀ j oj, ops[j]? = some oj → seen j = true → ∀ k, aft oj k = true → seen k = true
  holds : (seen s = false ∧ Ext w0 u ∧ ∀ j, seen j = true → fact φ j (f j) u) ∨ (seen s = true ∧ ∃ u1, Ext w0 u1 ∧ (∀ j, j ≠ s → seen j = true → fact φ j (f j) u1) ∧ S f u1 u)

theorem reach_seen {ops : Array Oper} {seen : Nat → Bool} (hc : ∀ j oj, ops[j]? = some oj → seen j = true → ∀ k, aft oj k = true → seen k = true) : ∀ (n k j : Nat), seen k = true → reachB ops n k j = true → seen j = true := by
  intro n
  induction n with
  | zero => intro k j _ h; cases h
  | succ n ih =>
    intro k j hk h
    simp only [reachB] at h
    split at h
    · rename_i o ho
      rcases Bool.or_eq_true_iff.1 h with h | h
      · exact hc k o ho hk j h
      · obtain ⟨k', _, h2⟩ := List.any_eq_true.1 h
        simp only [Bool.and_eq_true] at h2
        exact ih k' j (hc k o ho hk k' h2.1) h2.2
    · cases h

section
variable {P : Program} {ops : Array Oper} {Q : Exit → Act → World → Prop} {φ : List (Value → World → Prop)} {a0 : Act} {w0 : World} {s : Nat} {T : List Nat} {S : (Nat → Value) → World → World → Prop}

theorem GivesR.mono {r : Result Next} {R R' : Value → World → Prop} (h : GivesR P r R) (hr : ∀ v u, R v u → R' v u) : GivesR P r R' := by
  unfold GivesR at *
  split at h
  · exact hr _ _ h
  · exact hr _ _ h
  · exact h.mono fun e w ⟨v, h1, h2⟩ => ⟨v, h1, hr _ _ h2⟩
  · exact h.elim

theorem closed_upd {seen : Nat → Bool} (hc : ∀ j oj, ops[j]? = some oj → seen j = true → ∀ k, aft oj k = true → seen k = true) {i : Nat} {o : Oper} (hi : ops[i]? = some o) (hd : ∀ j, aft o j = true → seen j = true) :
    ∀ j oj, ops[j]? = some oj → Fi.upd seen i true j = true → ∀ k, aft oj k = true → Fi.upd seen i true k = true := by
  intro j oj hj hs k hk
  have h1 : seen k = true := by
    by_cases e : j = i
    · subst e
      rw [hi] at hj
      injection hj with hj
      subst hj
      exact hd k hk
    · rw [Fi.upd_ne _ _ e] at hs
      exact hc j oj hj hs k hk
  unfold Fi.upd
  split
  · rfl
  · exact h1

theorem to_fi (hss : s < ops.size) (hst : storeOk ops s T = true) (htr : ∀ v u, fact φ s v u) (hmono : ∀ p ∈ φ, Mono p) (hS : ∀ f v i u u', i = s ∨ i ∈ T → S f u u' → S (Fi.upd f i v) u u') (f : Nat → Value) :
    ∀ (l : List Oper) (k : Nat) (a : Act), (∀ i o, l[i]? = some o → ops[k + i]? = some o) → Obls P ops φ w0 s T S f k l a → Fi.Obls P ops (SInv ops φ w0 s S) f k l a := by
  intro l
  induction l with
  | nil => intro k a _ _; trivial
  | cons o l ih =>
    intro k a hops h
    refine ⟨fun seen u hI hn hd => ?_, ih (k + 1) _ (fun i o h => by rw [show k + 1 + i = k + (i + 1) by omega]; exact hops (i + 1) o (by simpa using h)) h.2⟩
    have hk : ops[k]? = some o := by have := hops 0 o rfl; simpa using this
    have hlt : k < ops.size := (Array.getElem?_eq_some_iff.1 hk).1
    have hcl := closed_upd hI.closed hk hd
    have h0 := h.1
    by_cases hks : k = s
    · rw [if_pos hks] at h0
      rcases hI.holds with ⟨h1, h2, h3⟩ | ⟨h1, _⟩
      · have hall : ∀ j, j ≠ s → j ∉ T → j < ops.size → seen j = true := fun j hj hjT hjl => by
          have h4 := (List.all_eq_true.1 hst) j (List.mem_range.2 hjl)
          simp only [Bool.or_eq_true, decide_eq_true_eq] at h4
          rcases h4 with (h4 | h4) | h4
          · exact absurd h4 hj
          · exact absurd h4 hjT
          · rw [← hks] at h4
            revert h4
            cases hn2 : ops.size with
            | zero => omega
            | succ n =>
              intro h4
              simp only [reachB, hk] at h4
              rcases Bool.or_eq_true_iff.1 h4 with h4 | h4
              · exact hd j h4
              · obtain ⟨k', _, h5⟩ := List.any_eq_true.1 h4
                simp only [Bool.and_eq_true] at h5
                exact reach_seen hI.closed n k' j (hd k' h5.1) h5.2
        have h5 := h0 u h2 fun j hj hjT hjl => h3 j (hall j hj hjT hjl)
        have keep : ∀ v j, j ≠ s → Fi.upd seen k true j = true → fact φ j (Fi.upd f k v j) u := fun v j hj hs => by
          rw [← hks] at hj
          rw [Fi.upd_ne _ _ hj] at hs ⊢
          exact h3 j hs
        split
        · rename_i hw
          rw [if_pos hw] at h5
          refine GivesR.mono h5 fun v u' hv => ⟨hcl, .inr ⟨by rw [hks, Fi.upd_at], u, h2, keep _, hS _ _ _ _ _ (.inl hks) hv⟩⟩
        · rename_i hw
          rw [if_neg hw] at h5
          exact ⟨hcl, .inr ⟨by rw [hks, Fi.upd_at], u, h2, keep _, hS _ _ _ _ _ (.inl hks) h5⟩⟩
      · rw [hks, h1] at hn; cases hn
    · rw [if_neg hks] at h0
      have hsk : s ≠ k := fun e => hks e.symm
      have more : ∀ {v : Value} {u u' : World}, Ext u u' → fact φ k v u' → (∀ j, j ≠ s → seen j = true → fact φ j (f j) u) → ∀ j, j ≠ s → Fi.upd seen k true j = true → fact φ j (Fi.upd f k v j) u' := fun hx hv h3 j hj hs => by
        by_cases e : j = k
        · subst e; rw [Fi.upd_at]; exact hv
        · rw [Fi.upd_ne _ _ e] at hs ⊢; exact fact_mono hmono j (h3 j hj hs) hx
      have notS : seen s = false → ∀ j, Fi.upd seen k true j = true → j ≠ s := fun h1 j hj e => by
        rw [e, Fi.upd_ne _ _ hsk, h1] at hj; cases hj
      by_cases hkT : k ∈ T
      · rw [if_pos hkT] at h0
        rcases hI.holds with ⟨h1, h2, h3⟩ | ⟨h1, u1, h2, h3, h4⟩
        · have h5 := h0 u u h2 fun j hj => h3 j (hd j hj)
          have keep : ∀ v, fact φ k v u → SInv ops φ w0 s S (Fi.upd seen k true) (Fi.upd f k v) u := fun v hv => ⟨hcl, .inl ⟨by rw [Fi.upd_ne _ _ hsk]; exact h1, h2, fun j hs => more (Ext.refl _) hv (fun j _ => h3 j) j (notS h1 j hs) hs⟩⟩
          split
          · rename_i hw
            rw [if_pos hw] at h5
            refine GivesR.mono h5 fun v u' hv => ?_
            rw [hv.1]
            exact keep _ hv.2
          · rename_i hw
            rw [if_neg hw] at h5
            exact keep _ h5
        · have h5 := h0 u1 u h2 fun j hj => by
            by_cases e : j = s
            · rw [e]; exact htr _ _
            · exact h3 j e (hd j hj)
          have keep : ∀ v, fact φ k v u1 → SInv ops φ w0 s S (Fi.upd seen k true) (Fi.upd f k v) u := fun v hv => ⟨hcl, .inr ⟨by rw [Fi.upd_ne _ _ hsk]; exact h1, u1, h2, more (Ext.refl _) hv h3, hS _ _ _ _ _ (.inr hkT) h4⟩⟩
          split
          · rename_i hw
            rw [if_pos hw] at h5
            refine GivesR.mono h5 fun v u' hv => ?_
            rw [hv.1]
            exact keep _ hv.2
          · rename_i hw
            rw [if_neg hw] at h5
            exact keep _ h5
      · rw [if_neg hkT] at h0
        rcases hI.holds with ⟨h1, h2, h3⟩ | ⟨h1, _⟩
        · have h5 := h0 u h2 fun j hj => h3 j (hd j hj)
          have keep : ∀ v u', Ext u u' → fact φ k v u' → SInv ops φ w0 s S (Fi.upd seen k true) (Fi.upd f k v) u' := fun v u' hx hv => ⟨hcl, .inl ⟨by rw [Fi.upd_ne _ _ hsk]; exact h1, Ext.trans h2 hx, fun j hs => more hx hv (fun j _ => h3 j) j (notS h1 j hs) hs⟩⟩
          split
          · rename_i hw
            rw [if_pos hw] at h5
            exact GivesR.mono h5 fun v u' hv => keep _ _ hv.1 hv.2
          · rename_i hw
            rw [if_neg hw] at h5
            exact keep _ _ (Ext.refl _) h5
        · exfalso
          have hsz : s < ops.size := hss
          have h4 := (List.all_eq_true.1 hst) k (List.mem_range.2 hlt)
          simp only [Bool.or_eq_true, decide_eq_true_eq] at h4
          rcases h4 with (h4 | h4) | h4
          · exact hks h4
          · exact hkT h4
          · have := reach_seen hI.closed _ _ _ h1 h4
            rw [hn] at this; cases this

/-- A region that draws its order, with one store in it. -/
theorem flow {id : Nat} {w : World} (hm : P.follows .mixedOrders = true) (φ : List (Value → World → Prop)) (s : Nat) (T : List Nat) (S : (Nat → Value) → World → World → Prop) (hok : flowOk ops a0.tmps.size = true) (hsel : Region.noSelect ops = true) (hss : decide (s < ops.size) = true)
    (hst : storeOk ops s T = true) (htr : ∀ v u, fact φ s v u) (hmono : ∀ p ∈ φ, Mono p) (hS : ∀ f v i u u', i = s ∨ i ∈ T → S f u u' → S (Fi.upd f i v) u u')
    (hobl : ∀ f, Obls P ops φ w.drew s T S f 0 ops.toList a0)
    (hfin : ∀ (g : Nat → Value) u u', Ext w.drew u → (∀ j, j < ops.size → j ≠ s → fact φ j (g j) u) → S g u u' → Q .normal (puts g 0 ops.toList a0) u') : (Code.region id ops true).wp P Q a0 w := by
  refine Fi.flow hm (SInv ops φ w.drew s S) hok hsel (fun f => ⟨fun j oj _ h => (by cases h), .inl ⟨rfl, Ext.refl _, fun j h => (by cases h)⟩⟩) (fun f => to_fi (of_decide_eq_true hss) hst htr hmono hS f _ _ _ (fun i o h => by rw [Nat.zero_add, ← Array.getElem?_toList]; exact h) (hobl f)) fun g seen u hall hI => ?_
  rcases hI.holds with ⟨h1, _⟩ | ⟨_, u1, h2, h3, h4⟩
  · rw [hall s (of_decide_eq_true hss)] at h1; cases h1
  · exact hfin g u1 u h2 (fun j hj hjs => h3 j hjs (hall j hj)) h4
end
end Go.Proofs.Ytgflhbpmkcggnaa.St

/- The reference's Read: the batch of a payload. -/
namespace Go.Proofs.Ytgflhbpmkcggnaa
open Go.ChangeShapes Go.WideShapes Go.ChangeAt Go.RowKit
attribute [local go_sem] Oper.semAt_some

/-- What the reference answers of a payload. -/
def RBAns (w : World) (p : List Nat) (e : Ending) (w' : World) : Prop :=
  Ext w w' ∧ ((∃ x : Bx, IsBt p x.bat ∧ e = .returned (.tuple #[x.val, .bool true]) ∧ Bm w' w.heap.size w'.heap.size x) ∨ ((∀ b, ¬ IsBt p b) ∧ ∃ (n : Int) (A : Option Addr) (k c : Nat), e = .returned (.tuple #[.agg #[.int .i64 n, .slice A k c], .bool false])))

theorem read_back {p r1 bs : List Nat} {n : Nat} {es : List Ent} {most : Int} (h1 : OutNum p n 0 r1) (h2 : OutText most r1 bs 0 []) (h3 : IsL bs es) (hm : (⟨(n : Int), es⟩ : Bat).may) : IsBt p ⟨(n : Int), es⟩ := by
  refine ⟨hm, ?_⟩
  rcases h1 with ⟨_, hb⟩ | ⟨h, _⟩
  case inr => cases h
  rcases h2 with ⟨_, _, _, hr⟩ | ⟨h, _⟩
  case inr => exact absurd rfl h
  unfold Bat.form
  rw [hb.eq, hr, List.append_nil, ← h3.2.2]
  simp

set_option maxRecDepth 100000 in
set_option maxHeartbeats 8000000 in
theorem read13_any {w : World} {lo hi : Nat} {v : Value} {b : List Nat} (hv : Bs w lo hi v b) (hhi : hi ≤ w.heap.size) (hb : ∀ x ∈ b, x < 256) (hl : b.length ≤ 1048576) : Calls Try.prog 42 #[v] w (RBAns w b) := by
  obtain ⟨A, c, rfl, q1, q2, q3, q4⟩ := hv
  obtain ⟨w1, hw1⟩ : ∃ w1, w1 = (w.alloc (.cells #[.int .i64 0, .slice none 0 0] 24)).alloc (.cells #[.slice A b.length c] 98) := ⟨_, rfl⟩
  have HX1 : Hid (Ext w w1) := by rw [hw1]; exact Ext.trans (ext_alloc _ _) (ext_alloc _ _)
  have HZ1 : Hid (w1.heap.size = w.heap.size + 2) := by rw [hw1]; simp [Hid]
  have HR1 : Hid (w1.heap[w.heap.size]? = some (.cells #[.int .i64 0, .slice none 0 0] 24 (0, 0))) := by rw [hw1]; exact ext_heap (ext_alloc _ _) (heap_at _ _ rfl)
  have hq0 : Qd w1 (w.heap.size + 1) lo hi b := by
    have hbs : Bs w lo hi (.slice A b.length c) b := ⟨A, c, rfl, q1, q2, q3, q4⟩
    exact ⟨⟨.slice A b.length c, by rw [hw1]; exact heap_at _ _ (by simp), hbs.below HX1.out hhi⟩, by omega, Nat.le_trans hhi HX1.out.size, hb⟩
  have HQ1 := Lib.hid hq0
  have HL := Lib.hid hl
  have HBY := Lib.hid hb
  clear hhi hb hl q1 q2 q3 q4 hq0
  go_enter Try.func42, Try.ntmps42
  go_wp2_with fail
  rw [← hw1]
  clear hw1
  refine (RNumber_out HQ1.out).mono ?_
  rintro x w3 ⟨n, k1, r1, ho1, rfl, hqd, hg⟩
  have HO1 := Lib.hid ho1
  have HQ3 := Lib.hid hqd
  have HX3 : Hid (Below (w.heap.size + 1) w1 w3) := (Below.refl _ _).grown hg (by rw [HZ1.out]; omega) (fun k hk => by injection hk with hk; omega)
  have HS3 : Hid (w1.heap.size ≤ w3.heap.size) := hg.size
  have HN1 : Hid (r1.length ≤ b.length ∧ n < 18446744073709551616) := ⟨ho1.len.1, ho1.len.2.lt⟩
  have HSUB : Hid (∀ y ∈ r1, y ∈ b) := fun y hy => by
    rcases ho1 with ⟨_, h⟩ | ⟨_, _, h, _⟩
    · rw [h.eq]; simp [hy]
    · rw [h] at hy; exact hy
  clear ho1 hqd hg HQ1
  go_wp2_with fail
  refine (RBytes_slice HQ3.out (by have := HL.out; have := HN1.out.1; omega) (by decide) (by decide)).mono ?_
  rintro x w4 ⟨kA, kc, bs, k2, r2, ho2, hbs, rfl, hqd, hg⟩
  have HO2 := Lib.hid ho2
  have HBSL : Hid (bs.length ≤ b.length ∧ ∀ x ∈ bs, x < 256) := ⟨Nat.le_trans ho2.len.1 HN1.out.1, fun x hx => HBY.out x (HSUB.out x (ho2.len.2.2 x hx))⟩
  have HK4 := Lib.hid hbs
  have HQ4 := Lib.hid hqd
  have HX4 : Hid (Below (w.heap.size + 1) w1 w4) := HX3.out.grown hg (by have := HZ1.out; have := HS3.out; omega) (fun k hk => by injection hk with hk; omega)
  have HS4 : Hid (w1.heap.size ≤ w4.heap.size) := Nat.le_trans HS3.out hg.size
  have hblk := HX4.out.block w.heap.size (by omega)
  rw [HR1.out] at hblk
  have HBLK := Lib.hid hblk
  have HE4 : Hid (Ext w w4) := ⟨HX4.out.os.trans HX1.out.os, HX4.out.tape.trans HX1.out.tape, HX4.out.output.trans HX1.out.output, Nat.le_trans HX1.out.size HS4.out, fun k hk => (HX4.out.block k (by omega)).trans (HX1.out.block k hk)⟩
  clear ho2 hbs hqd hg HQ3 hblk
  have q0 := cell_of HBLK.out (k := 0) rfl
  have q1 := cell_of HBLK.out (k := 1) rfl
  have z0 := frozen_four HBLK.out (j := 0)
  have z1 := frozen_four HBLK.out (j := 1)
  have HNOB : Hid (¬ (k1 = 0 ∧ k2 = 0 ∧ r2 = [] ∧ n ≤ 2147483647) → ∀ b', ¬ IsBt b b') := fun hno b' hb' => by
    by_cases hL : ∃ es, IsL bs es
    · obtain ⟨es, hL⟩ := hL
      obtain ⟨h1, _, h3, h4, h5, _⟩ := read_bat HO1.out HO2.out (.inr (by have := HL.out; omega)) (.inl hL) hb'
      exact hno ⟨h3, h4, h5, by have := hb'.1.2.1; omega⟩
    · obtain ⟨_, _, _, _, _, h6⟩ := read_bat HO1.out HO2.out (.inr (by have := HL.out; omega)) (.inr ⟨fun es h => hL ⟨es, h⟩, rfl⟩) hb'
      exact hL ⟨_, h6⟩
  by_cases hk1 : k1 = 0
  rotate_left
  · have d1 : (k1 != 0) = true := by simpa using hk1
    have HNX : Hid (¬ (k1 = 0 ∧ k2 = 0 ∧ r2 = [] ∧ n ≤ 2147483647)) := fun h => hk1 h.1
    clear hk1
    go_wp2_with fail
    refine batch_ret (p := 2) (q := 3) (by kernel_rfl) rfl rfl rfl (set_two HBLK.out) ?_
    exact ⟨Below.setCell (Below.setCell HE4.out (Nat.le_refl _) _) (Nat.le_refl _) _, .inr ⟨HNOB.out HNX.out, _, _, _, _, rfl⟩⟩
  by_cases hk2 : k2 = 0
  rotate_left
  · have d1 : (k1 != 0) = false := by simpa using hk1
    have d2 : (k2 != 0) = true := by simpa using hk2
    have HNX : Hid (¬ (k1 = 0 ∧ k2 = 0 ∧ r2 = [] ∧ n ≤ 2147483647)) := fun h => hk2 h.2.1
    clear hk1 hk2
    go_wp2_with fail
    refine batch_ret (p := 2) (q := 3) (by kernel_rfl) rfl rfl rfl (set_two HBLK.out) ?_
    exact ⟨Below.setCell (Below.setCell HE4.out (Nat.le_refl _) _) (Nat.le_refl _) _, .inr ⟨HNOB.out HNX.out, _, _, _, _, rfl⟩⟩
  subst hk1 hk2
  have HLF := Lib.hid (RLeft_any _ _ _ _ _ HQ4.out)
  by_cases hr2 : r2.length = 0
  rotate_left
  · have d3 : decide ((0 : Int) < (r2.length : Int)) = true := decide_eq_true (by omega)
    have d3n : decide (0 < r2.length) = true := decide_eq_true (by omega)
    have HNX : Hid (¬ ((0 : Int) = 0 ∧ (0 : Int) = 0 ∧ r2 = [] ∧ n ≤ 2147483647)) := fun h => hr2 (by rw [h.2.2.1]; rfl)
    clear hr2
    go_wp2_with fail
    refine Calls.mono HLF.out ?_
    rintro x w' ⟨rfl, rfl⟩
    go_wp2_with fail
    refine batch_ret (p := 2) (q := 3) (by kernel_rfl) rfl rfl rfl (set_two HBLK.out) ?_
    exact ⟨Below.setCell (Below.setCell HE4.out (Nat.le_refl _) _) (Nat.le_refl _) _, .inr ⟨HNOB.out HNX.out, _, _, _, _, rfl⟩⟩
  have HR2 : Hid (r2 = []) := List.eq_nil_of_length_eq_zero hr2
  by_cases hn : 2147483647 < n
  · have d3 : decide ((0 : Int) < (r2.length : Int)) = false := decide_eq_false (by omega)
    have d3n : decide (0 < r2.length) = false := decide_eq_false (by omega)
    have d4 : decide ((2147483647 : Int) < (n : Int)) = true := decide_eq_true (by omega)
    have d4n : decide (2147483647 < n) = true := decide_eq_true hn
    have HNX : Hid (¬ ((0 : Int) = 0 ∧ (0 : Int) = 0 ∧ r2 = [] ∧ n ≤ 2147483647)) := fun h => by have := h.2.2.2; omega
    clear hr2 hn
    go_wp2_with fail
    refine Calls.mono HLF.out ?_
    rintro x w' ⟨rfl, rfl⟩
    go_wp2_with fail
    refine batch_ret (p := 2) (q := 3) (by kernel_rfl) rfl rfl rfl (set_two HBLK.out) ?_
    exact ⟨Below.setCell (Below.setCell HE4.out (Nat.le_refl _) _) (Nat.le_refl _) _, .inr ⟨HNOB.out HNX.out, _, _, _, _, rfl⟩⟩
  have d3 : decide ((0 : Int) < (r2.length : Int)) = false := decide_eq_false (by omega)
  have d3n : decide (0 < r2.length) = false := decide_eq_false (by omega)
  have d4 : decide ((2147483647 : Int) < (n : Int)) = false := decide_eq_false (by omega)
  have d4n : decide (2147483647 < n) = false := decide_eq_false hn
  have HN := Lib.hid hn
  have e1 : IntKind.i64.wrap (n : Int) = (n : Int) := by rw [IntKind.wrap_i64]; omega
  have HLS := Lib.hid (rlists_new HK4.out (Nat.le_refl _) HBSL.out.2 (by have := HL.out; have := HBSL.out.1; omega))
  clear hr2 hn q0 q1 z0 z1
  go_wp2_with fail
  refine Calls.mono HLF.out ?_
  rintro x w' ⟨rfl, rfl⟩
  go_wp2_with fail
  refine HLS.out.mono ?_
  clear d3 d3n d4 d4n
  rintro x w5 ⟨hx5, hh⟩
  have HX5 : Hid (Ext w w5) := Ext.trans HE4.out hx5
  have HBLK5 := Lib.hid (ext_heap hx5 HBLK.out)
  have HLE := Lib.hid HE4.out.size
  clear hx5
  rcases hh with ⟨lx, eA, ec, hL, rfl, hes⟩ | ⟨hno, rfl⟩
  · have HISL := Lib.hid hL
    have HES := Lib.hid hes
    obtain ⟨X, hX⟩ : ∃ X : Bx, X = ⟨(n : Int), eA, ec, lx⟩ := ⟨_, rfl⟩
    have HBM : Hid (Bm w5 w4.heap.size w5.heap.size X) := by
      rw [hX]
      exact ⟨HES.out, by dsimp only; omega, by have := HN.out; dsimp only; omega, by have := HISL.out.1; rw [List.length_map] at this; dsimp only; omega⟩
    have hv : (.agg #[.int .i64 (n : Int), .slice eA lx.length ec] : Value) = X.val := by rw [hX]; rfl
    have HBAT : Hid (X.bat = ⟨(n : Int), lx.map Prod.fst⟩) := by rw [hX]; exact Lib.hid rfl
    have HVE := Lib.hid hv
    obtain ⟨z, hz⟩ : ∃ z : Bool, z = true ↔ X.bat.may := by
      by_cases h : X.bat.may
      · exact ⟨true, by simp [h]⟩
      · exact ⟨false, by simp [h]⟩
    have HZ := Lib.hid hz
    clear hX hL hes hv hz
    go_upto_region 8 with (fail)
    obtain ⟨w6, hw6⟩ : ∃ w6, w6 = w5.alloc (.cells #[.int .i64 (n : Int), .slice eA lx.length ec] 24) := ⟨_, rfl⟩
    rw [← hw6]
    have HX6 : Hid (Ext w5 w6) := by rw [hw6]; exact ext_alloc _ _
    have HB6 : Hid (w6.heap[w5.heap.size]? = some (.cells #[.int .i64 (n : Int), .slice eA lx.length ec] 24 (0, 0))) := by rw [hw6]; exact heap_at _ _ rfl
    have y0 := cell_of HB6.out (k := 0) rfl
    have y1 := cell_of HB6.out (k := 1) rfl
    have HBLK6 := Lib.hid (ext_heap HX6.out HBLK5.out)
    clear hw6
    refine St.flow (by kernel_rfl) [Is (.agg #[.int .i64 (n : Int), .slice eA lx.length ec]), Is (.int .i64 0), Is (.bool true), Is (.bool true), Is (.agg #[.int .i64 (n : Int), .slice eA lx.length ec]), Is (.bool z), Is (.bool z), (fun _ _ => True), Is (.bool z)] 7 [6, 8] (fun _ u u' => u' = (u.setCell ⟨w.heap.size, 0, none⟩ (.int .i64 (n : Int))).setCell ⟨w.heap.size, 1, none⟩ (.slice eA lx.length ec)) (by kernel_rfl) (by kernel_rfl) (by kernel_rfl) (by kernel_rfl) (fun _ _ => trivial) ?mono ?hS (fun f1 => ?obl) ?fin
    case mono =>
      simp only [List.forall_mem_cons, List.not_mem_nil, false_imp_iff, implies_true, and_true]
      exact ⟨.is _, .is _, .is _, .is _, .is _, .is _, .is _, (fun _ _ _ h _ => h), .is _⟩
    case hS => intro f v i u u' hi hs; exact hs
    case obl =>
      refine ⟨fun u hu hd => ?_, ?_⟩
      · have hu2 := Ext.trans (Ext.drew w6) hu
        have q0 := ext_cell hu2 y0
        have q1 := ext_cell hu2 y1
        go_simp
        exact ⟨Ext.refl _, rfl⟩
      refine ⟨fun u hu hd => ?_, ?_⟩
      · simp only [Act.put, List.setIfInBounds_toArray, List.set_cons_zero, List.set_cons_succ]
        go_simp
        exact ⟨Ext.refl _, rfl⟩
      refine ⟨fun u hu hd => ?_, ?_⟩
      · simp only [Act.put, List.setIfInBounds_toArray, List.set_cons_zero, List.set_cons_succ]
        have e1 : f1 1 = .int .i64 0 := hd 1 (by kernel_rfl)
        go_simp
        exact ⟨Ext.refl _, rfl⟩
      refine ⟨fun u hu hd => ?_, ?_⟩
      · simp only [Act.put, List.setIfInBounds_toArray, List.set_cons_zero, List.set_cons_succ]
        have e2 : f1 2 = .bool true := hd 2 (by kernel_rfl)
        go_simp
        exact ⟨Ext.refl _, rfl⟩
      refine ⟨fun u hu hd => ?_, ?_⟩
      · simp only [Act.put, List.setIfInBounds_toArray, List.set_cons_zero, List.set_cons_succ]
        have e3 : f1 3 = .bool true := hd 3 (by kernel_rfl)
        have hu2 := Ext.trans (Ext.drew w6) hu
        have q0 := ext_cell hu2 y0
        have q1 := ext_cell hu2 y1
        go_simp
        exact ⟨Ext.refl _, rfl⟩
      refine ⟨fun u hu hd => ?_, ?_⟩
      · simp only [Act.put, List.setIfInBounds_toArray, List.set_cons_zero, List.set_cons_succ]
        have e3 : f1 3 = .bool true := hd 3 (by kernel_rfl)
        have e4 : f1 4 = .agg #[.int .i64 (n : Int), .slice eA lx.length ec] := hd 4 (by kernel_rfl)
        have hu2 := Ext.trans HX6.out (Ext.trans (Ext.drew w6) hu)
        have hm := rmay13_any (HBM.out.ext hu2 (Nat.le_refl _)) hu2.size
        rw [← HVE.out] at hm
        go_simp
        refine hm.mono ?_
        rintro e9 w9 ⟨z9, hz9, rfl, hx9⟩
        obtain rfl : z9 = z := Bool.eq_iff_iff.2 (hz9.trans HZ.out.symm)
        exact ⟨_, rfl, hx9, rfl⟩
      refine ⟨fun u u' hu hd => ?_, ?_⟩
      · simp only [Act.put, List.setIfInBounds_toArray, List.set_cons_zero, List.set_cons_succ]
        have e3 : f1 3 = .bool true := hd 3 (by kernel_rfl)
        have e5 : f1 5 = .bool z := hd 5 (by kernel_rfl)
        clear hd hu
        go_simp
        exact ⟨rfl, rfl⟩
      refine ⟨fun u hu hall => ?_, ?_⟩
      · simp only [Act.put, List.setIfInBounds_toArray, List.set_cons_zero, List.set_cons_succ]
        have e0 : f1 0 = .agg #[.int .i64 (n : Int), .slice eA lx.length ec] := hall 0 (by decide) (by decide) (by show 0 < 9; decide)
        have hb := ext_heap (Ext.trans (Ext.drew w6) hu) HBLK6.out
        have q0 := cell_of hb (k := 0) rfl
        have q1 := cell_of hb (k := 1) rfl
        have z0 := frozen_four hb (j := 0)
        have z1 := frozen_four hb (j := 1)
        clear hall hu hb
        go_simp
        exact rfl
      refine ⟨fun u u' hu hd => ?_, ?_⟩
      · simp only [Act.put, List.setIfInBounds_toArray, List.set_cons_zero, List.set_cons_succ]
        have e6 : f1 6 = .bool z := hd 6 (by kernel_rfl)
        clear hd hu
        go_simp
        exact ⟨rfl, rfl⟩
      trivial
    case fin =>
      intro g1 u us hu hg hS
      simp only [puts, Act.put, List.setIfInBounds_toArray, List.set_cons_zero, List.set_cons_succ]
      have h8 : g1 8 = .bool z := hg 8 (by show 8 < 9; decide) (by decide)
      rw [h8]
      subst hS
      have HU6 : Hid (Ext w6 u) := Ext.trans (Ext.drew w6) hu
      have HBU := Lib.hid (ext_heap HU6.out HBLK6.out)
      have HXU : Hid (Ext w u) := Ext.trans HX5.out (Ext.trans HX6.out HU6.out)
      clear h8 hg hu
      go_wp2_with fail
      refine batch_ret (p := 2) (q := 3) (by kernel_rfl) rfl rfl rfl (set_two HBU.out) ?_
      refine ⟨Below.setCell (Below.setCell HXU.out (Nat.le_refl _) _) (Nat.le_refl _) _, ?_⟩
      cases z with
      | false =>
        refine .inr ⟨fun b' hb' => ?_, _, _, _, _, rfl⟩
        obtain ⟨h1, h2, _⟩ := read_bat HO1.out HO2.out (.inr (by have := HL.out; omega)) (.inl HISL.out) hb'
        have h3 : b' = X.bat := by rw [HBAT.out]; exact Bat.ext h1 h2
        have h4 := HZ.out.2 (h3 ▸ hb'.1)
        cases h4
      | true =>
        have hm := HZ.out.1 rfl
        refine .inl ⟨X, ?_, by rw [← HVE.out]; rfl, ?_⟩
        · rw [HBAT.out] at hm ⊢
          have h2 := HO2.out
          rw [HR2.out] at h2
          exact read_back HO1.out h2 HISL.out hm
        · have h5 := (HBM.out.ext (Ext.trans HX6.out HU6.out) (Nat.le_refl _))
          have hz5 : w5.heap.size ≤ u.heap.size := (Ext.trans HX6.out HU6.out).size
          have hz4 : w.heap.size + 2 ≤ w4.heap.size := by have := HS4.out; have := HZ1.out; omega
          have h6 : ∀ (p : Addr) (x : Value), p.block = w.heap.size → ∀ u', Bm u' w4.heap.size w5.heap.size X → Bm (u'.setCell p x) w4.heap.size w5.heap.size X := fun p x hp u' hb => ⟨⟨hb.es.outer.setCell (.inl (by omega)) _, fun q hq => have e := hb.es.each q hq; ⟨e.k.setCell (.inl (by omega)) _, e.v.setCell (.inl (by omega)) _, e.bk, e.bv, e.s1, e.s2, e.d1, e.d2⟩⟩, hb.i1, hb.i2, hb.ln⟩
          exact (h6 _ _ rfl _ (h6 _ _ rfl _ h5)).wide (by omega) (by simp [World.setCell]; omega)
  · have HNOL := Lib.hid hno
    clear hno
    go_upto_region 8 with (fail)
    obtain ⟨w6, hw6⟩ : ∃ w6, w6 = w5.alloc (.cells #[.int .i64 (n : Int), .slice none 0 0] 24) := ⟨_, rfl⟩
    rw [← hw6]
    have HX6 : Hid (Ext w5 w6) := by rw [hw6]; exact ext_alloc _ _
    have HB6 : Hid (w6.heap[w5.heap.size]? = some (.cells #[.int .i64 (n : Int), .slice none 0 0] 24 (0, 0))) := by rw [hw6]; exact heap_at _ _ rfl
    have y0 := cell_of HB6.out (k := 0) rfl
    have y1 := cell_of HB6.out (k := 1) rfl
    have HBLK6 := Lib.hid (ext_heap HX6.out HBLK5.out)
    clear hw6
    refine St.flow (by kernel_rfl) [Is (.agg #[.int .i64 (n : Int), .slice none 0 0]), Is (.int .i64 4), Is (.bool false), Is (.bool false), Is undef, Is undef, Is (.bool false), (fun _ _ => True), Is (.bool false)] 7 [6, 8] (fun _ u u' => u' = (u.setCell ⟨w.heap.size, 0, none⟩ (.int .i64 (n : Int))).setCell ⟨w.heap.size, 1, none⟩ (.slice none 0 0)) (by kernel_rfl) (by kernel_rfl) (by kernel_rfl) (by kernel_rfl) (fun _ _ => trivial) ?mono ?hS (fun f1 => ?obl) ?fin
    case mono =>
      simp only [List.forall_mem_cons, List.not_mem_nil, false_imp_iff, implies_true, and_true]
      exact ⟨.is _, .is _, .is _, .is _, .is _, .is _, .is _, (fun _ _ _ h _ => h), .is _⟩
    case hS => intro f v i u u' hi hs; exact hs
    case obl =>
      refine ⟨fun u hu hd => ?_, ?_⟩
      · have hu2 := Ext.trans (Ext.drew w6) hu
        have q0 := ext_cell hu2 y0
        have q1 := ext_cell hu2 y1
        go_simp
        exact ⟨Ext.refl _, rfl⟩
      refine ⟨fun u hu hd => ?_, ?_⟩
      · simp only [Act.put, List.setIfInBounds_toArray, List.set_cons_zero, List.set_cons_succ]
        go_simp
        exact ⟨Ext.refl _, rfl⟩
      refine ⟨fun u hu hd => ?_, ?_⟩
      · simp only [Act.put, List.setIfInBounds_toArray, List.set_cons_zero, List.set_cons_succ]
        have e1 : f1 1 = .int .i64 4 := hd 1 (by kernel_rfl)
        go_simp
        exact ⟨Ext.refl _, rfl⟩
      refine ⟨fun u hu hd => ?_, ?_⟩
      · simp only [Act.put, List.setIfInBounds_toArray, List.set_cons_zero, List.set_cons_succ]
        have e2 : f1 2 = .bool false := hd 2 (by kernel_rfl)
        go_simp
        exact ⟨Ext.refl _, rfl⟩
      refine ⟨fun u hu hd => ?_, ?_⟩
      · simp only [Act.put, List.setIfInBounds_toArray, List.set_cons_zero, List.set_cons_succ]
        have e3 : f1 3 = .bool false := hd 3 (by kernel_rfl)
        go_simp
        rfl
      refine ⟨fun u hu hd => ?_, ?_⟩
      · simp only [Act.put, List.setIfInBounds_toArray, List.set_cons_zero, List.set_cons_succ]
        have e3 : f1 3 = .bool false := hd 3 (by kernel_rfl)
        go_simp
        rfl
      refine ⟨fun u u' hu hd => ?_, ?_⟩
      · simp only [Act.put, List.setIfInBounds_toArray, List.set_cons_zero, List.set_cons_succ]
        have e3 : f1 3 = .bool false := hd 3 (by kernel_rfl)
        have e5 : f1 5 = undef := hd 5 (by kernel_rfl)
        clear hd hu
        go_simp
        exact ⟨rfl, rfl⟩
      refine ⟨fun u hu hall => ?_, ?_⟩
      · simp only [Act.put, List.setIfInBounds_toArray, List.set_cons_zero, List.set_cons_succ]
        have e0 : f1 0 = .agg #[.int .i64 (n : Int), .slice none 0 0] := hall 0 (by decide) (by decide) (by show 0 < 9; decide)
        have hb := ext_heap (Ext.trans (Ext.drew w6) hu) HBLK6.out
        have q0 := cell_of hb (k := 0) rfl
        have q1 := cell_of hb (k := 1) rfl
        have z0 := frozen_four hb (j := 0)
        have z1 := frozen_four hb (j := 1)
        clear hall hu hb
        go_simp
        exact rfl
      refine ⟨fun u u' hu hd => ?_, ?_⟩
      · simp only [Act.put, List.setIfInBounds_toArray, List.set_cons_zero, List.set_cons_succ]
        have e6 : f1 6 = .bool false := hd 6 (by kernel_rfl)
        clear hd hu
        go_simp
        exact ⟨rfl, rfl⟩
      trivial
    case fin =>
      intro g1 u us hu hg hS
      simp only [puts, Act.put, List.setIfInBounds_toArray, List.set_cons_zero, List.set_cons_succ]
      have h8 : g1 8 = .bool false := hg 8 (by show 8 < 9; decide) (by decide)
      rw [h8]
      subst hS
      have HU6 : Hid (Ext w6 u) := Ext.trans (Ext.drew w6) hu
      have HBU := Lib.hid (ext_heap HU6.out HBLK6.out)
      have HXU : Hid (Ext w u) := Ext.trans HX5.out (Ext.trans HX6.out HU6.out)
      clear h8 hg hu
      go_wp2_with fail
      refine batch_ret (p := 2) (q := 3) (by kernel_rfl) rfl rfl rfl (set_two HBU.out) ?_
      refine ⟨Below.setCell (Below.setCell HXU.out (Nat.le_refl _) _) (Nat.le_refl _) _, ?_⟩
      refine .inr ⟨fun b' hb' => ?_, _, _, _, _, rfl⟩
      obtain ⟨_, _, _, _, _, h6⟩ := read_bat HO1.out HO2.out (.inr (by have := HL.out; omega)) (.inr ⟨HNOL.out, rfl⟩) hb'
      exact HNOL.out _ h6
end Go.Proofs.Ytgflhbpmkcggnaa

/- The document's own answers: the sum, bit by bit. -/
namespace Go.Proofs.Ytgflhbpmkcggnaa.Fm
open Go.ChangeShapes Go.WideShapes Go.ChangeAt Go.RowKit

theorem rem_one {m : Nat} (h : m % 2 = 1) : ((m : Int) % 2 == 1) = true := by simp; omega
theorem rem_none {m : Nat} (h : m % 2 = 0) : ((m : Int) % 2 == 1) = false := by simp; omega
theorem sh_odd {m : Nat} (hm : m < 4294967296) (h : m % 2 = 1) : bits .xor .u32 ((m : Int) / 2 % 4294967296) 2197175160 = ((sh m : Nat) : Int) := by
  rw [show (m : Int) / 2 % 4294967296 = (m : Int) / 2 by omega]
  have e : ((m / 2 : Nat) : Int) = (m : Int) / 2 := by omega
  have := xor_u32 (a := m / 2) (b := 2197175160) (by omega) (by omega)
  rw [e] at this
  rw [sh, h, Nat.one_mul]
  exact this
theorem sh_even {m : Nat} (hm : m < 4294967296) (h : m % 2 = 0) : (m : Int) / 2 % 4294967296 = ((sh m : Nat) : Int) := by
  rw [show (m : Int) / 2 % 4294967296 = (m : Int) / 2 by omega]
  rw [sh, h, Nat.zero_mul, Nat.xor_zero]; omega
theorem step_any (s : Nat) (hs : s < 4294967296) (w : World) : Calls Try.prog 81 #[.int .u32 (s : Int)] w fun e w' => e = .returned (.int .u32 (shn 8 s : Nat)) ∧ w = w' := by
  have HS := Lib.hid hs
  clear hs
  go_enter Try.func81, Try.ntmps81
  go_wp2_with fail
  go_loop [0, 3] (fun x i => ∃ (k m : Nat), k ≤ 8 ∧ i = .int .i64 (k : Int) ∧ x = .int .u32 (m : Int) ∧ Hid (m = shn k s)) (fun _ i => 8 - (intOf i).toNat)
  case atStart => exact ⟨0, s, Nat.zero_le _, rfl, rfl, Lib.hid rfl⟩
  case round =>
    obtain ⟨k, m, hk, rfl, rfl, hm⟩ := hrel
    have HM := Lib.hid (show m < 4294967296 by rw [hm.out]; exact shn_lt HS.out)
    by_cases hlt : k < 8
    · rcases Nat.mod_two_eq_zero_or_one m with hp | hp
      · have hd := rem_none hp
        have HE := Lib.hid (sh_even HM.out hp)
        clear hp
        go_wp2_with fail
        go_round
        case rel => exact ⟨k + 1, sh m, by omega, by go_num, by rw [HE.out], Lib.hid (by rw [hm.out, shn_succ'])⟩
        case measure => simp [intOf]; omega
      · have hd := rem_one hp
        have HE := Lib.hid (sh_odd HM.out hp)
        clear hp
        go_wp2_with fail
        go_round
        case rel => exact ⟨k + 1, sh m, by omega, by go_num, by rw [HE.out], Lib.hid (by rw [hm.out, shn_succ'])⟩
        case measure => simp [intOf]; omega
    · go_wp2_with fail
      go_ret
      obtain rfl : k = 8 := by omega
      exact ⟨by rw [hm.out]; rfl, rfl⟩

theorem xor_top {m : Nat} (h : m < 4294967296) : bits BinOp.xor IntKind.u32 (m : Int) 4294967295 = ((m ^^^ ones : Nat) : Int) := xor_u32 h ones_lt
theorem rmore_any (s : Nat) (hs : s < 4294967296) (v : Value) (lo hi : Nat) (l : List Nat) (w : World) (hv : Bs w lo hi v l) (hl : ∀ c ∈ l, c < 256) :
    Calls Try.prog 55 #[.int .u32 (s : Int), v] w fun e w' => e = .returned (.int .u32 (more s l : Nat)) ∧ w = w' := by
  have HS := Lib.hid (xor_lt hs ones_lt)
  have HX := Lib.hid (xor_top hs)
  have HL := Lib.hid hl
  obtain ⟨A, c, rfl, q1, q2, q3, hby⟩ := hv
  have HBY := Lib.hid hby
  have hlen : l.length ≤ 9223372036854775807 := by unfold maxLen at q2; omega
  clear hs hl q1 q2 q3 hby
  go_enter Try.func55, Try.ntmps55
  go_wp2_with fail
  rw [HX.out]
  go_loop [5, 6] (fun r i => ∃ (k m : Nat), k ≤ l.length ∧ i = .int .i64 (k : Int) ∧ r = .int .u32 (m : Int) ∧ Hid (m = reg (s ^^^ ones) (l.take k))) (fun _ i => l.length - (intOf i).toNat)
  case atStart => exact ⟨0, s ^^^ ones, Nat.zero_le _, rfl, rfl, Lib.hid rfl⟩
  case round =>
    obtain ⟨k, m, hk, rfl, rfl, hm⟩ := hrel
    have HM := Lib.hid (show m < 4294967296 by rw [hm.out]; exact reg_take_lt HS.out HL.out k)
    by_cases hlt : k < l.length
    · obtain ⟨b, o, rfl, _, _, hcell⟩ := HBY.out.at_ hlt
      have hc256 := HL.out l[k] (List.getElem_mem hlt)
      have HC := Lib.hid (show l[k] < 4294967296 by omega)
      have HY := Lib.hid (xor_u32 HM.out HC.out)
      go_wp2_with fail
      rw [HY.out]
      refine (step_any _ (xor_lt HM.out HC.out) _).mono ?_
      rintro e w1 ⟨rfl, rfl⟩
      go_wp2_with fail
      go_round
      case rel => exact ⟨k + 1, _, by omega, by go_num, rfl, Lib.hid (by rw [reg_take _ l hlt, hm.out])⟩
      case measure => simp [intOf]; omega
    · have HZ := Lib.hid (xor_top HM.out)
      go_wp2_with fail
      go_ret
      obtain rfl : k = l.length := by omega
      exact ⟨by rw [HZ.out, hm.out, List.take_length]; rfl, rfl⟩
theorem rsum_any (v : Value) (lo hi : Nat) (l : List Nat) (w : World) (hv : Bs w lo hi v l) (hl : ∀ c ∈ l, c < 256) :
    Calls Try.prog 33 #[v] w fun e w' => e = .returned (.int .u32 (crc l : Nat)) ∧ w = w' := by
  have H := Lib.hid (rmore_any 0 (by omega) v lo hi l w hv hl)
  rw [more_zero] at H
  obtain ⟨A, c, rfl, q1, q2, q3, hby⟩ := hv
  clear q1 q2 q3 hby hl
  go_enter Try.func33, Try.ntmps33
  go_wp2_with fail
  refine Calls.mono H.out ?_
  rintro e w1 ⟨rfl, rfl⟩
  go_wp2_with fail
  go_ret
  exact ⟨rfl, rfl⟩
end Go.Proofs.Ytgflhbpmkcggnaa.Fm

/- The document's own answers: words, lengths. -/
namespace Go.Proofs.Ytgflhbpmkcggnaa.Fm
open Go.ChangeShapes Go.WideShapes Go.ChangeAt Go.RowKit

theorem own_lit (w : World) (l : List Nat) (hl : l.length ≤ 100) : Own w.heap.size l (.slice (some ⟨w.heap.size, 0, none⟩) l.length l.length) (w.alloc (.cells (bv l).toArray 5)) := by
  refine ⟨by simp [bv], .inr ⟨w.heap.size, l.length, _, rfl, Nat.le_refl _, heap_alloc_new w _, Nat.le_refl _, by unfold maxLen; omega, by simp [bv], ?_⟩⟩
  rw [List.toList_toArray, List.take_of_length_le (by simp [bv])]
theorem rword_any (n : Nat) (hn : n < 4294967296) (w : World) : Calls Try.prog 32 #[.int .u32 (n : Int)] w (NewBy w (be4 n)) := by
  have HN := Lib.hid hn
  have HO := Lib.hid (own_lit w (be4 n) (by simp [be4_length]))
  clear hn
  go_enter Try.func32, Try.ntmps32
  go_wp2_with fail
  go_ret
  exact ⟨_, rfl, HO.out, below_new _ _⟩

theorem rmay_any (n : Int) (w : World) : Calls Try.prog 66 #[.int .i64 n] w fun e w' => e = .returned (.bool (decide (1 ≤ n) && decide (n ≤ 1048576))) ∧ w = w' := by
  by_cases h : 1 ≤ n
  · have hd : decide (1 ≤ n) = true := by simp [h]
    obtain ⟨z, hz⟩ : ∃ z, decide (n ≤ 1048576) = z := ⟨_, rfl⟩
    rw [hd, hz]
    clear h
    go_enter Try.func66, Try.ntmps66
    go_wp2_with fail
    go_ret
    exact ⟨by simp [← hz], rfl⟩
  · have hd : decide (1 ≤ n) = false := by simp [h]
    rw [hd]
    clear h
    go_enter Try.func66, Try.ntmps66
    go_wp2_with fail
    go_ret
    exact ⟨rfl, rfl⟩

set_option maxRecDepth 100000 in
set_option maxHeartbeats 1000000 in
theorem rlength_any (v : Value) (lo hi : Nat) (l : List Nat) (w : World) (hv : Bs w lo hi v l) (hl : ∀ c ∈ l, c < 256) (h4 : 4 ≤ l.length) :
    Calls Try.prog 65 #[v] w fun e w' => e = .returned (.int .i64 (num4 (l.take 4) : Nat)) ∧ Below w.heap.size w w' := by
  obtain ⟨A, c, rfl, q1, q2, q3, hby⟩ := hv
  obtain ⟨b0, o0, x0, x1, x2, x3, rfl, hT, c0, c1, c2, c3⟩ := By.four hby h4
  have hx : ∀ x ∈ [x0, x1, x2, x3], x < 256 := fun x hx => hl x (List.mem_of_mem_take (by rw [hT]; exact hx))
  have hb0 := hx x0 (by simp)
  have hb1 := hx x1 (by simp)
  have hb2 := hx x2 (by simp)
  have hb3 := hx x3 (by simp)
  rw [hT]
  have i0 : (0 : Int) < (l.length : Int) := by omega
  have i1 : (1 : Int) < (l.length : Int) := by omega
  have i2 : (2 : Int) < (l.length : Int) := by omega
  have i3 : (3 : Int) < (l.length : Int) := by omega
  clear hl hx hT q1 q2 q3
  go_enter Try.func65, Try.ntmps65
  go_wp2_with fail
  go_quiet (fail)
  go_wp2_with fail
  go_ret
  refine ⟨?_, ⟨rfl, rfl, rfl, Nat.le_refl _, fun _ _ => rfl⟩⟩
  have e : ((num4 [x0, x1, x2, x3] : Nat) : Int) = (x0 : Int) * 16777216 + (x1 : Int) * 65536 + (x2 : Int) * 256 + (x3 : Int) := by simp only [num4, List.foldl]; omega
  rw [e]
  rfl

/-- A slice of bytes that is owned. -/
theorem Own.bs {w : World} {B : Nat} {l : List Nat} {v : Value} (h : Own B l v w) : Bs w B w.heap.size v l := Bs.of_own h

/-- 'append(s, x...)' of bytes onto bytes of the call's own. -/
theorem wpList_addbytes {ops : Array Oper} {rest : List Oper} {o : Oper} {a : Act} {Q : Exit → Act → World → Prop} {wr : World} (hgd : o.guard = none) (s x : Operand)
    (ho : o.op = .call { callee := .builtin .append, args := #[s, x], argTypes := #[29, 29] }) (B : Nat) (v : Value) (l : List Nat) (hs : a.eval s = v) (hown : Own B l v wr)
    (lo hi : Nat) (u : Value) (r : List Nat) (hx : a.eval x = u) (hu : Bs wr lo hi u r) (hlen : l.length + r.length ≤ 1099511627776) (hB : B ≤ wr.heap.size)
    (h : ∀ A' c' w', Own B (l ++ r) (.slice A' (l ++ r).length c') w' → (∀ w0, Below B w0 wr → Below B w0 w') → wpList Try.prog ops Q rest (a.put o.dst (.slice A' (l ++ r).length c')) w') :
    wpList Try.prog ops Q (o :: rest) a wr := by
  obtain ⟨i0, hi0, hz0, hz1, hz2⟩ := info_parts t5info
  obtain ⟨A, c, rfl, q1, q2, q3, hby⟩ := hu
  refine wpList_addall hgd s x 29 ho B 5 i0 (.int .u8 0) 1 Try.underlying29 hi0 hz0 hz1 hz2 rfl v l.length (bv l) hs hown lo hi A r.length c (bv r) hx q3 (bv_length r) hby (bv_one r) (by unfold maxLen; omega) (by omega) hB ?_
  intro v' w' h1 h2
  have h3 : Own B (l ++ r) v' w' := by unfold Own; rw [List.length_append, bv_append]; exact h1
  obtain ⟨A', c', rfl, _, _, _, _⟩ := Sl.of_own h3
  exact h A' c' w' h3 h2
theorem Own.nil (B : Nat) (w : World) : Own B [] (.slice none 0 0) w := World.ownsRow_nil _ _ _ _
theorem Own.below {B : Nat} {l : List Nat} {v : Value} {w w' : World} (h : Own B l v w) (hb : Ext w w') : Own B l v w' := own_below h hb (Nat.le_refl _)

set_option maxRecDepth 100000 in
set_option maxHeartbeats 4000000 in
/-- The frame around a payload. -/
theorem rput_any {w : World} {lo hi : Nat} {v : Value} {p : List Nat} (hv : Bs w lo hi v p) (hhi : hi ≤ w.heap.size) (hp : ∀ x ∈ p, x < 256) (hlen : p.length ≤ 1048576) :
    Calls Try.prog 17 #[v] w (NewBy w (frame p)) := by
  have HV := Lib.hid hv
  have HP := Lib.hid hp
  have HLEN := Lib.hid hlen
  obtain ⟨A, c, rfl, q1, q2, q3, _⟩ := hv
  have hconv : (p.length : Int) % 4294967296 = (p.length : Int) := by omega
  have HCR : Hid (crc (be4 p.length ++ p) < 4294967296) := crc_lt fun x hx => by rcases List.mem_append.1 hx with hx | hx; exact be4_lt _ x hx; exact hp x hx
  have hx : ∃ n4, n4 = be4 p.length := ⟨_, rfl⟩
  obtain ⟨n4, hn4⟩ := hx
  have HN4 : Hid (n4.length = 4) := by rw [hn4]; exact be4_length _
  have HN256 : Hid (∀ x ∈ n4, x < 256) := by rw [hn4]; exact be4_lt _
  have HW := Lib.hid (rword_any p.length (by omega) w)
  rw [← hn4] at HW HCR
  have HFR : Hid (frame p = (n4 ++ be4 (crc (n4 ++ p))) ++ p) := by rw [hn4]; rfl
  clear q1 q2 q3 hp hn4 hlen
  go_enter Try.func17, Try.ntmps17
  go_wp2_with fail
  refine HW.out.mono ?_
  rintro e w1 ⟨v1, rfl, hown1, hb1⟩
  have HB1 := Lib.hid hb1
  have HO1 : Hid (Own w.heap.size n4 v1 w1) := hown1
  obtain ⟨A1, c1, rfl, g1, g2, g3, g4⟩ := Sl.of_own hown1
  clear hb1 hown1 g1 g2 g3 g4
  go_wp2_with (at_builtin; refine wpList_addbytes rfl (.const (.slice none 0 0)) (.tmp 9) rfl w1.heap.size _ [] rfl (Own.nil _ w1) w.heap.size w1.heap.size _ n4 rfl HO1.out.bs ?l1 (Nat.le_refl _) ?_)
  case l1 => have := HN4.out; simp; omega
  intro A2 c2 w2 hown2 hb2
  have HO2 : Hid (Own w1.heap.size n4 (.slice A2 n4.length c2) w2) := hown2
  have HX2 : Hid (Ext w1 w2) := hb2 w1 (Below.refl _ _)
  clear hown2 hb2
  go_wp2_with (at_builtin; refine wpList_addbytes rfl (.tmp 10) (.tmp 11) rfl w1.heap.size _ n4 rfl HO2.out lo hi _ p rfl ((HV.out.below HB1.out hhi).below HX2.out (Nat.le_trans hhi HB1.out.size)) ?l2 HX2.out.size ?_)
  case l2 => have := HN4.out; have := HLEN.out; omega
  intro A3 c3 w3 hown3 hb3
  have HX3 : Hid (Ext w1 w3) := hb3 w1 HX2.out
  have HO3 := Lib.hid hown3
  clear hown3 hb3
  go_wp2_with fail
  refine (rsum_any _ _ _ (n4 ++ p) w3 HO3.out.bs (fun x hx => by rcases List.mem_append.1 hx with hx | hx; exact HN256.out x hx; exact HP.out x hx)).mono ?_
  rintro e w4 ⟨rfl, rfl⟩
  go_wp2_with fail
  refine (rword_any _ HCR.out w3).mono ?_
  rintro e w4 ⟨v4, rfl, hown4, hb4⟩
  obtain ⟨A4, c4, rfl, _, _, _, _⟩ := Sl.of_own hown4
  have HX4 : Hid (Ext w3 w4) := hb4
  have HO4 : Hid (Own w3.heap.size (be4 (crc (n4 ++ p))) (.slice A4 (be4 (crc (n4 ++ p))).length c4) w4) := hown4
  have HX14 : Hid (Ext w1 w4) := Ext.trans HX3.out HX4.out
  have HO14 : Hid (Own w.heap.size n4 (.slice A1 n4.length c1) w4) := HO1.out.below HX14.out
  have HB4 : Hid (Below w.heap.size w w4) := Ext.trans HB1.out HX14.out
  clear hown4 hb4
  go_wp2_with (at_builtin; refine wpList_addbytes rfl (.tmp 14) (.tmp 16) rfl w.heap.size _ n4 rfl HO14.out _ _ _ _ rfl HO4.out.bs ?l3 HB4.out.size ?_)
  case l3 => have := HN4.out; rw [be4_length]; omega
  intro A5 c5 w5 hown5 hb5
  have HO5 := Lib.hid hown5
  have HB5 := Lib.hid (hb5 w HB4.out)
  clear hown5 hb5
  go_wp2_with (at_builtin; refine wpList_addbytes rfl (.tmp 17) (.tmp 18) rfl w.heap.size _ _ rfl HO5.out lo hi _ p rfl (HV.out.below HB5.out hhi) ?l4 HB5.out.size ?_)
  case l4 => have := HN4.out; have := HLEN.out; rw [List.length_append, be4_length]; omega
  intro A6 c6 w6 hown6 hb6
  have HO6 := Lib.hid hown6
  have HB6 := Lib.hid (hb6 w HB5.out)
  clear hown6 hb6
  go_wp2
  go_ret
  exact ⟨_, rfl, by rw [HFR.out, List.append_assoc]; exact HO6.out, HB6.out⟩
end Go.Proofs.Ytgflhbpmkcggnaa.Fm

/- A frame at a place of bytes, in the reference's words: plain mathematics. -/
namespace Go.Proofs.Ytgflhbpmkcggnaa.Fm

theorem mid_drop (b : List Nat) (k i j : Nat) : mid (b.drop k) i j = mid b (k + i) (k + j) := by
  unfold mid; rw [List.drop_drop, show k + j - (k + i) = j - i by omega]
theorem claimed_few {r : List Nat} (h : r.length < 8) : claimed r = 0 := by unfold claimed; rw [if_pos h]
theorem claimed_may {r : List Nat} (h8 : 8 ≤ r.length) : claimed r = fsize (num4 (r.take 4)) := by unfold claimed; rw [if_neg (by omega)]
theorem whole1_few {r : List Nat} (h : r.length < 8) : whole1 r = none := by unfold whole1; rw [if_pos (.inl (claimed_few h))]
theorem whole1_bad {r : List Nat} (h8 : 8 ≤ r.length) (h : ¬ (1 ≤ num4 (r.take 4) ∧ num4 (r.take 4) ≤ 1048576)) : whole1 r = none := by
  unfold whole1; rw [if_pos (.inl (by rw [claimed_may h8]; unfold fsize; rw [if_neg h]))]
theorem whole1_long {r : List Nat} (h8 : 8 ≤ r.length) (h : r.length < num4 (r.take 4) + 8) : whole1 r = none := by
  unfold whole1
  by_cases hm : 1 ≤ num4 (r.take 4) ∧ num4 (r.take 4) ≤ 1048576
  · rw [if_pos (.inr (by rw [claimed_may h8]; unfold fsize; rw [if_pos hm]; exact h))]
  · rw [if_pos (.inl (by rw [claimed_may h8]; unfold fsize; rw [if_neg hm]))]
theorem whole1_sum {r : List Nat} (hr : ∀ c ∈ r, c < 256) (h8 : 8 ≤ r.length) (hm : 1 ≤ num4 (r.take 4) ∧ num4 (r.take 4) ≤ 1048576) (hl : num4 (r.take 4) + 8 ≤ r.length) :
    whole1 r = if be4 (crc (be4 (num4 (r.take 4)) ++ mid r 8 (num4 (r.take 4) + 8))) = mid r 4 8 then some (mid r 8 (num4 (r.take 4) + 8)) else none := by
  have hc : claimed r = num4 (r.take 4) + 8 := by rw [claimed_may h8]; unfold fsize; rw [if_pos hm]
  have h4 : (r.take 4).length = 4 := by simp; omega
  have hb4 : be4 (num4 (r.take 4)) = r.take 4 := be4_num4 h4 (fun c hx => hr c (List.mem_of_mem_take hx))
  have hm4 : (mid r 4 8).length = 4 := by rw [mid_length (by omega)]
  have hmb : ∀ c ∈ mid r 4 8, c < 256 := fun c hx => hr c (List.mem_of_mem_drop (List.mem_of_mem_take hx))
  have hcl : crc (r.take 4 ++ mid r 8 (num4 (r.take 4) + 8)) < 4294967296 := crc_lt fun c hx => by
    rcases List.mem_append.1 hx with hx | hx
    · exact hr c (List.mem_of_mem_take hx)
    · exact hr c (List.mem_of_mem_drop (List.mem_of_mem_take hx))
  unfold whole1
  rw [hc, if_neg (by omega), hb4]
  by_cases h : crc (r.take 4 ++ mid r 8 (num4 (r.take 4) + 8)) = num4 (mid r 4 8)
  · rw [if_pos h, if_pos (by rw [h]; exact be4_num4 hm4 hmb)]
  · rw [if_neg h, if_neg (fun e => h (by rw [← e, num4_be4 hcl]))]
end Go.Proofs.Ytgflhbpmkcggnaa.Fm
