/- WalOdd: from the walk to the statement. For every input the law answers true and leaves its arguments as they were. -/
import Derived.Test.YtgflhbpmkcggnaaMa14
import Derived.Test.YtgflhbpmkcggnaaMa12
import Derived.Test.YtgflhbpmkcggnaaMaLwputs
import Derived.Test.YtgflhbpmkcggnaaMa16
import Derived.Test.YtgflhbpmkcggnaaMa1

/- WalOdd: frames that are no batches; a rest that is odd; a batch that is too long. -/
namespace Go.Proofs.Ytgflhbpmkcggnaa
open Go.ChangeShapes Go.WideShapes Go.ChangeAt Go.RowKit
attribute [local go_sem] Oper.semAt_some

theorem put_A5 : Put1 (batA 5) := ⟨⟨by decide, by decide, by decide, by simp [batA, Ent.may, mayN]⟩, by have := small_form (b := batA 5) ⟨by decide, by decide, by decide, by simp [batA, Ent.may, mayN]⟩ (by simp [batA]); omega, by simp [batA]⟩
theorem Bat.form_three {b : Bat} (h : b.may) : 3 ≤ b.form.length := by
  have h2 := (bytesForm_len (lform_u64 h.2.2.2 h.2.2.1)).2
  have pos : ∀ n, 0 < (Go.Proofs.Ytgflhbpmkcggnaa.form n).length := fun n => by
    by_cases h0 : n < 128
    · rw [form_lo h0]; simp
    · rw [form_hi h0]; simp
  have h3 := pos b.idx.toNat
  have h4 : 0 < (lform b.es).length := by
    unfold lform
    rw [List.length_append]
    have := pos b.es.length
    omega
  unfold Bat.form
  rw [List.length_append]
  omega
theorem no_one (b : Bat) : ¬ IsBt [1] b := fun h => by
  have h1 := Bat.form_three h.1
  rw [h.2] at h1
  simp at h1
theorem no_zero (b : Bat) : ¬ IsBt [0, 1, 0] b := fun h => by
  have h1 := h.2
  unfold Bat.form at h1
  have e : ([0, 1, 0] : List Nat) = Go.Proofs.Ytgflhbpmkcggnaa.form 0 ++ [1, 0] := by rw [form_lo (by decide)]; rfl
  rw [e] at h1
  obtain ⟨h2, _⟩ := form_cut (Bat.may_u64 h.1) ⟨by decide⟩ h1
  have := h.1.1
  omega
def zero8 : List Nat := [0, 0, 0, 0, 0, 0, 0, 0]
theorem whole_zero8 : Fm.whole1 zero8 = none := Fm.whole1_bad (by decide) (by decide)
theorem claimed_zero8 : Fm.claimed zero8 = 0 := by decide
theorem may_one : Fm.mayP [1] := ⟨by decide, by decide, by decide⟩
theorem may_three : Fm.mayP [0, 1, 0] := ⟨by decide, by decide, by decide⟩
theorem odd_zero8 {bs : List Bat} (h : ∀ b ∈ bs, Put1 b) : wellB (logB bs ++ zero8) (gl 0 bs) = false := by
  have h1 := Fm.row_then (ps := bs.map Bat.form) (fun p hp => by obtain ⟨b, hb, rfl⟩ := List.mem_map.1 hp; exact (h b hb).mayP) whole_zero8
  unfold wellB
  have h3 : Fm.odd (logB bs ++ zero8) = true := by
    unfold Fm.odd
    rw [show logB bs = Fm.row (bs.map Bat.form) from rfl, h1.2, List.drop_left, claimed_zero8]
    rfl
  rw [h3]
  simp

theorem own_zero8 (w : World) : Own w.heap.size zero8 (.slice (some ⟨w.heap.size, 0, none⟩) 8 8) (w.alloc (.cells #[.int .u8 0, .int .u8 0, .int .u8 0, .int .u8 0, .int .u8 0, .int .u8 0, .int .u8 0, .int .u8 0] 5)) := Fm.own_lit w zero8 (by decide)
theorem own_three (w : World) : Own w.heap.size [0, 1, 0] (.slice (some ⟨w.heap.size, 0, none⟩) 3 3) (w.alloc (.cells #[.int .u8 0, .int .u8 1, .int .u8 0] 5)) := Fm.own_lit w [0, 1, 0] (by decide)

/-- The entries of the batch that is too long. -/
def bigZ : List Nat := List.replicate 65536 0
def bigE (k : Nat) : Ent := ⟨[k], 1, 1, bigZ⟩
def bigL (k : Nat) : List Ent := (List.range k).map bigE
theorem bigZ_len : bigZ.length = 65536 := List.length_replicate
theorem bigZ_lt : ∀ x ∈ bigZ, x < 256 := fun x hx => by rw [List.eq_of_mem_replicate hx]; decide
theorem bigE_may (k : Nat) : (bigE k).may = true := mayN_iff.2 ⟨by simp [bigE], by simp [bigE], by simp [bigE], by simp [bigE], .inl ⟨rfl, by rw [show (bigE k).val = bigZ from rfl, bigZ_len]; decide⟩⟩
theorem bigL_len (k : Nat) : (bigL k).length = k := by simp [bigL]
theorem bigL_succ (k : Nat) : bigL (k + 1) = bigL k ++ [bigE k] := by simp [bigL, List.range_succ]
theorem big_esz {L : List (Ent × Hd)} {k : Nat} (h : L.map Prod.fst = bigL k) : esz L = 65537 * k := by
  have e1 : (L.map fun p => p.1.key.length + p.1.val.length) = (L.map Prod.fst).map fun e => e.key.length + e.val.length := by rw [List.map_map]; rfl
  unfold esz
  rw [e1, h]
  clear e1 h L
  induction k with
  | zero => rfl
  | succ k ih =>
    rw [bigL_succ, List.map_append, List.sum_append, ih]
    simp only [List.map_cons, List.map_nil, List.sum_cons, List.sum_nil, bigE, List.length_cons, List.length_nil, bigZ_len]
    omega
theorem make_own (w : World) (n : Nat) (hn : n ≤ 1099511627776) : ∃ w', (Instr.makeSlice 29 (.int .i64 (n : Int)) (.int .i64 (n : Int))).run Try.prog w = .ok (.slice (some ⟨w.heap.size, 0, none⟩) n n) w' ∧ Own w.heap.size (List.replicate n 0) (.slice (some ⟨w.heap.size, 0, none⟩) n n) w' ∧ Ext w w' := by
  obtain ⟨i0, hi0, hz0, hz1, hz2⟩ := info_parts t5info
  obtain ⟨w', h1, h2, h3⟩ := run_make_full (P := Try.prog) w w.heap.size 29 5 i0 (.int .u8 0) 1 Try.underlying29 hi0 hz0 hz1 .i64 .i64 n (by rw [hz2]; omega) (by unfold maxLen; omega) (Nat.le_refl _)
  refine ⟨w', h1, ?_, Below.grown (Below.refl _ _) h3 (Nat.le_refl _) (fun k hk => by cases hk)⟩
  have e : (madeCells (Value.int .u8 0).cells (n * 1)).toList = bv (List.replicate n 0) := by
    rw [show (Value.int .u8 0).cells = #[.int .u8 0] from rfl, Nat.mul_one, toList_madeCells_one]
    simp [bv]
  rw [e] at h2
  unfold Own
  rw [List.length_replicate]
  exact h2
theorem make_big (w : World) : ∃ w', (Instr.makeSlice 29 (.int .i64 65536) (.int .i64 65536)).run Try.prog w = .ok (.slice (some ⟨w.heap.size, 0, none⟩) 65536 65536) w' ∧ Own w.heap.size bigZ (.slice (some ⟨w.heap.size, 0, none⟩) 65536 65536) w' ∧ Ext w w' := make_own w 65536 (by decide)
/-- 'append(l, e)', as what it gives. -/
theorem gives_pushent {o : Oper} {a : Act} {u : World} {K : Value → World → Prop} (s x : Operand)
    (ho : o.op = .call { callee := .builtin .append, args := #[s, x], argTypes := #[22, 22] }) (B : Nat) (v : Value) (R : List (Ent × Hd)) (hs : a.eval s = v) (hgot : Got B v R u)
    (p : Ent × Hd) (gb : Nat) (hx : a.eval x = .slice (some ⟨gb, 0, none⟩) 1 1) (hblk : u.heap[gb]? = some (.cells (ecells p).toArray 48 (0, 0))) (hp : Mine B p u) (hlen : R.length ≤ 1000000000000) (hB : B ≤ u.heap.size)
    (h : ∀ A' c' w', Got B (.slice A' (R.length + 1) c') (R ++ [p]) w' → (∀ w0, Below B w0 u → Below B w0 w') → K (.slice A' (R.length + 1) c') w') : GivesR Try.prog ((execOp a.eval o).run Try.prog u) K := by
  obtain ⟨i0, hi0', ix0, ix1, ix2⟩ := info_parts einfo
  obtain ⟨v', w5, hr, ho5, hgr, _⟩ := run_append_own (P := Try.prog) u B 22 o.type 48 i0 _ 4 64 Try.underlying22 hi0' ix0 ix1 ix2 rfl (by decide) v R.length (erow R) hgot.row ⟨gb, 0, none⟩ 1 1 (ecells p) rfl (fun j q hj => by rw [addr_add, Nat.zero_add]; exact cell_of hblk (by simpa using hj)) (fun q hq => erow_one [p] q (by simpa [erow] using hq)) (by unfold maxLen; omega) (by omega) hB
  unfold execOp
  simp only [ho, resolve, invoke, builtin, Sem.run_bind, Sem.run_pure, Result.andThen_ok, List.map_toArray, List.map_cons, List.map_nil, hs, hx, hr]
  have hlt := rowN_lt hgot.row
  have hke : ∀ q : Ent × Hd, Mine B q u → Mine B q w5 := fun q hq => by
    have hk : ∀ {l : List Nat} {x : Value}, Own B l x u → Own B l x w5 := fun hx => row_kept hx fun g' hg' => hgr.block g' (row_lt hx g' hg').2 (fun e => rows_apart hx hgot.row (by decide) hg' e.symm)
    exact ⟨hk hq.k, hk hq.v, hq.good⟩
  have hgot' : Got B v' (R ++ [p]) w5 := by
    refine ⟨by rw [List.length_append, erow_append]; simpa [erow] using ho5, fun q hq => ?_⟩
    rcases List.mem_append.1 hq with hq | hq
    · exact hke q (hgot.each q hq)
    · rw [List.mem_singleton] at hq; subst hq; exact hke q hp
  obtain ⟨A', c', rfl⟩ := rowN_slice ho5
  exact h A' c' w5 hgot' (fun w0 hb => hb.grown hgr hB fun k hk => (hlt k hk).1)
/-- One entry more, in a slot. -/
def EntV (D k : Nat) (v : Value) (u : World) : Prop := ∃ kA kc vA vc, v = .agg #[.slice kA 1 kc, .int .i64 1, .int .i64 1, .slice vA 65536 vc] ∧ Own D [k] (.slice kA 1 kc) u ∧ Own D bigZ (.slice vA 65536 vc) u
def LitE (D k : Nat) (v : Value) (u : World) : Prop := ∃ gb h, v = .slice (some ⟨gb, 0, none⟩) 1 1 ∧ u.heap[gb]? = some (.cells (ecells (bigE k, h)).toArray 48 (0, 0)) ∧ Mine D (bigE k, h) u
theorem Mono.entV (D k : Nat) : Mono (EntV D k) := fun _ _ _ ⟨a, b, c, d, h1, h2, h3⟩ hx => ⟨a, b, c, d, h1, h2.below hx, h3.below hx⟩
theorem Mono.litE (D k : Nat) : Mono (LitE D k) := fun _ _ _ ⟨a, b, h1, h2, h3⟩ hx => ⟨a, b, h1, ext_heap hx h2, h3.below hx⟩
def PushE (D k : Nat) (R : List (Ent × Hd)) (v : Value) (u u' : World) : Prop := ∃ A c h, v = .slice A (R.length + 1) c ∧ Got D v (R ++ [(bigE k, h)]) u' ∧ Below D u u'

set_option maxRecDepth 100000 in
set_option maxHeartbeats 16000000 in
theorem wodd_walk (w : World) : Calls Try.prog 8 #[] w fun e w' => e = .returned (.bool true) ∧ Ext w w' := by
  obtain ⟨l1, hl1⟩ : ∃ l1, l1 = Fm.frame (batA 5).form := ⟨_, rfl⟩
  have hm1 := put_A5.mayP
  have n1 : 9 ≤ l1.length ∧ l1.length ≤ 1048584 := by rw [hl1, Fm.frame_length]; have := hm1.1; have := hm1.2.1; omega
  have HL1 := Lib.hid hl1
  have HN := Lib.hid n1
  have i1 : (l1.length : Int) ≤ 1048584 := by omega
  have HB : Hid (∀ x ∈ l1, x < 256) := by rw [hl1]; exact Lib.hid (Fm.frame_lt hm1.2.2)
  have hall : ∀ b ∈ [batA 5], Put1 b := by simp [put_A5]
  obtain ⟨l2, hl2⟩ : ∃ l2, l2 = l1 ++ Fm.frame [1] := ⟨_, rfl⟩
  have HR2 : Hid (Batl (Fm.frs l2 0) 0 (gl 0 [batA 5]) ∧ wellB l2 (gl 0 [batA 5]) = false ∧ endAt 0 (gl 0 [batA 5]) (gl 0 [batA 5]).length = l1.length) := by
    have e : l1 ++ Fm.frame [1] = [] ++ (logB [batA 5] ++ (Fm.frame [1] ++ [])) := by rw [hl1]; simp [logB_cons, logB_nil]
    have h1 := batl_stop (x := []) may_one [batA 5] [] 0 hall (by simp [Ris, batA]) (fun b hb => absurd hb (no_one b))
    have h3 := endAt_gl 0 [batA 5]
    rw [← e, ← hl2] at h1
    refine ⟨h1.1, ?_, ?_⟩
    · unfold wellB
      rw [decide_eq_false (by rw [gl_length]; exact Nat.ne_of_lt h1.2), Bool.false_and]
    · rw [h3, logB_cons, logB_nil, ← hl1]; simp
  have HT2 : Hid (l2.length = l1.length + 9 ∧ ∀ x ∈ l2, x < 256) := by
    rw [hl2]
    refine ⟨by rw [List.length_append, Fm.frame_length]; rfl, fun x hx => ?_⟩
    rcases List.mem_append.1 hx with h | h
    · exact HB.out x h
    · exact Fm.frame_lt may_one.2.2 x h
  obtain ⟨l3, hl3⟩ : ∃ l3, l3 = l1 ++ zero8 := ⟨_, rfl⟩
  have HR3 : Hid (Batl (Fm.frs l3 0) 0 (gl 0 [batA 5]) ∧ wellB l3 (gl 0 [batA 5]) = false ∧ endAt 0 (gl 0 [batA 5]) (gl 0 [batA 5]).length = l1.length) := by
    have e : l1 ++ zero8 = [] ++ (logB [batA 5] ++ zero8) := by rw [hl1]; simp [logB_cons, logB_nil]
    have h1 := batl_good whole_zero8 [batA 5] [] 0 hall (by simp [Ris, batA])
    have h2 := odd_zero8 hall
    have h3 := endAt_gl 0 [batA 5]
    rw [← e, ← hl3] at h1
    refine ⟨h1, ?_, ?_⟩
    · rw [hl3, e, List.nil_append]; exact h2
    · rw [h3, logB_cons, logB_nil, ← hl1]; simp
  have HT3 : Hid (l3.length = l1.length + 8 ∧ ∀ x ∈ l3, x < 256) := by
    rw [hl3]
    refine ⟨by rw [List.length_append]; rfl, fun x hx => ?_⟩
    rcases List.mem_append.1 hx with h | h
    · exact HB.out x h
    · exact (show ∀ y ∈ zero8, y < 256 by decide) x h
  obtain ⟨l4, hl4⟩ : ∃ l4, l4 = Fm.frame [0, 1, 0] := ⟨_, rfl⟩
  have HR4 : Hid (Batl (Fm.frs l4 0) 0 [] ∧ wellB l4 [] = false) := by
    have e : Fm.frame [0, 1, 0] = [] ++ (logB [] ++ (Fm.frame [0, 1, 0] ++ [])) := by simp [logB_nil]
    have h1 := batl_stop (x := []) may_three [] [] 0 (by simp) trivial (fun b hb => absurd hb (no_zero b))
    rw [← e, ← hl4] at h1
    refine ⟨h1.1, ?_⟩
    unfold wellB
    rw [decide_eq_false (show ¬ ([] : List (Nat × Bat)).length = (Fm.frs l4 0).length from Nat.ne_of_lt h1.2), Bool.false_and]
  have HT4 : Hid (l4.length = 11 ∧ ∀ x ∈ l4, x < 256) := by
    rw [hl4]
    exact ⟨by rw [Fm.frame_length]; rfl, Fm.frame_lt may_three.2.2⟩
  have HL2 := Lib.hid hl2
  have HL3 := Lib.hid hl3
  have HL4 := Lib.hid hl4
  clear hl1 hl2 hl3 hl4 hm1 n1 hall
  go_enter Try.func8, Try.ntmps8
  go_wp2_with fail
  refine (batchA_any 5 (by decide) (by decide) w).mono ?_
  rintro e wa ⟨hxa, ⟨ni, eA, ec, lx⟩, hbx, rfl, hbm⟩
  have HXA := Lib.hid hxa
  have HPU := Lib.hid (wput_any hbm (Nat.le_refl _))
  rw [hbx] at HPU
  clear hxa hbx hbm
  dsimp only [Bx.val] at HPU ⊢
  go_wp2_with fail
  refine HPU.out.mono ?_
  rintro e w1 ⟨hx1, (⟨h1, _⟩ | ⟨_, h1, _⟩ | ⟨_, _, v1, rfl, hown1⟩)⟩
  · exact absurd put_A5.may h1
  · exact absurd put_A5.len (by omega)
  have HX1 : Hid (Ext w w1) := Ext.trans HXA.out hx1
  have HO1 : Hid (Own w.heap.size l1 v1 w1) := by rw [HL1.out]; exact hown1.base HXA.out.size
  obtain ⟨b1, c1, rfl⟩ := own_some HO1.out (by intro h; have := HN.out.1; rw [h] at this; simp at this)
  clear hx1 hown1 HPU
  -- behind it a frame of what is no batch
  go_wp2_with (at_builtin; refine wpList_addbytes rfl (.const (.slice none 0 0)) (.tmp 24) rfl w1.heap.size _ [] rfl (Own.nil _ _) 0 w1.heap.size _ l1 rfl HO1.out.bs (by have := HN.out; simp; omega) (Nat.le_refl _) ?_)
  intro A2 c2 u2 ho hb
  try simp only [List.nil_append] at ho ⊢
  have HU2 : Hid (Ext w1 u2) := hb w1 (Below.refl _ _)
  have HOU2 : Hid (Own w1.heap.size l1 (.slice A2 l1.length c2) u2) := ho
  clear ho hb
  have HLIT : Hid (Bs (u2.alloc (.cells #[.int .u8 1] 5)) 0 (u2.alloc (.cells #[.int .u8 1] 5)).heap.size (.slice (some ⟨u2.heap.size, 0, none⟩) 1 1) [1]) := Own.bs (own_lit u2 1)
  have HRP := Lib.hid (Fm.rput_any HLIT.out (Nat.le_refl _) may_one.2.2 (by decide))
  go_wp2_with fail
  refine HRP.out.mono ?_
  rintro e u3 ⟨v3, rfl, ho3, hx3⟩
  have HU3 : Hid (Ext u2 u3) := Ext.trans (ext_alloc _ _) hx3
  have HO3 : Hid (Own u2.heap.size (Fm.frame [1]) v3 u3) := Own.base ho3 (ext_alloc _ _).size
  have HP3 := Lib.hid (HOU2.out.below HU3.out)
  clear ho3 hx3 HRP HLIT
  go_wp2_with (at_builtin; refine wpList_addn rfl (.tmp 25) (.tmp 27) rfl w1.heap.size _ l1 rfl HP3.out _ _ _ (Fm.frame [1]) rfl HO3.out.bs l2 (l1.length + 9) HL2.out.symm HT2.out.1 ?l2 (Nat.le_trans HU2.out.size HU3.out.size) ?_)
  case l2 => have := HN.out; omega
  intro A4 c4 u4 ho hb
  have HU4 : Hid (Ext w1 u4) := hb w1 (Ext.trans HU2.out HU3.out)
  have HO4 : Hid (Own w1.heap.size l2 (.slice A4 (l1.length + 9) c4) u4) := ho
  have HP4 := Lib.hid (HO1.out.below HU4.out)
  clear ho hb HP3 HO3
  have HBT4 := Lib.hid (batches_any (show Bs u4 0 u4.heap.size (.slice A4 (l1.length + 9) c4) l2 from HO4.out.bs) (Nat.le_refl _) HT2.out.2 (by rw [HT2.out.1]; have := HN.out; omega) HR2.out.1)
  unfold BatsAns at HBT4
  rw [HR2.out.2.1, HR2.out.2.2] at HBT4
  go_wp2_with fail
  refine HBT4.out.mono ?_
  rintro e w5 ⟨X5, V5, q5, hmap, rfl, hbts, hx⟩
  have HM5 : Hid (X5.length = 1) := by have h := congrArg List.length hmap; rw [gl_map, List.length_map] at h; exact h
  have HX5 : Hid (Ext u4 w5) := hx
  have HP5 := Lib.hid (HP4.out.below HX5.out)
  clear hmap hbts hx HBT4 HP4
  -- eight noughts
  go_wp2_with (at_builtin; refine wpList_addbytes rfl (.const (.slice none 0 0)) (.tmp 35) rfl w5.heap.size _ [] rfl (Own.nil _ _) 0 w5.heap.size _ l1 rfl HP5.out.bs (by have := HN.out; simp; omega) (Nat.le_refl _) ?_)
  intro A6 c6 u6 ho hb
  try simp only [List.nil_append] at ho ⊢
  have HU6 : Hid (Ext w5 u6) := hb w5 (Below.refl _ _)
  have HOU6 : Hid (Own w5.heap.size l1 (.slice A6 l1.length c6) u6) := ho
  clear ho hb
  obtain ⟨u7, hu7⟩ : ∃ u7, u7 = u6.alloc (.cells #[.int .u8 0, .int .u8 0, .int .u8 0, .int .u8 0, .int .u8 0, .int .u8 0, .int .u8 0, .int .u8 0] 5) := ⟨_, rfl⟩
  have HU7 : Hid (Ext u6 u7) := by rw [hu7]; exact ext_alloc _ _
  have HZ7 : Hid (Bs u7 0 u7.heap.size (.slice (some ⟨u6.heap.size, 0, none⟩) 8 8) zero8) := by rw [hu7]; exact Own.bs (own_zero8 u6)
  have HP7 := Lib.hid (HOU6.out.below HU7.out)
  go_wp2_with (at_builtin; rw [← hu7]; clear hu7; refine wpList_addn rfl (.tmp 36) (.tmp 37) rfl w5.heap.size _ l1 rfl HP7.out _ _ _ zero8 rfl HZ7.out l3 (l1.length + 8) HL3.out.symm HT3.out.1 ?l3 (Nat.le_trans HU6.out.size HU7.out.size) ?_)
  case l3 => have := HN.out; omega
  intro A8 c8 u8 ho hb
  have HU8 : Hid (Ext w5 u8) := hb w5 (Ext.trans HU6.out HU7.out)
  have HO8 : Hid (Own w5.heap.size l3 (.slice A8 (l1.length + 8) c8) u8) := ho
  clear ho hb HP7 HZ7
  have HBT8 := Lib.hid (batches_any (show Bs u8 0 u8.heap.size (.slice A8 (l1.length + 8) c8) l3 from HO8.out.bs) (Nat.le_refl _) HT3.out.2 (by rw [HT3.out.1]; have := HN.out; omega) HR3.out.1)
  unfold BatsAns at HBT8
  rw [HR3.out.2.1, HR3.out.2.2] at HBT8
  go_wp2_with fail
  refine HBT8.out.mono ?_
  rintro e w9 ⟨X9, V9, q9, hmap, rfl, hbts, hx⟩
  have HM9 : Hid (X9.length = 1) := by have h := congrArg List.length hmap; rw [gl_map, List.length_map] at h; exact h
  have HX9 : Hid (Ext w w9) := Ext.trans HX1.out (Ext.trans HU4.out (Ext.trans HX5.out (Ext.trans HU8.out hx)))
  clear hmap hbts hx HBT8
  -- a batch of the place 0
  have HLIT : Hid (Bs (w9.alloc (.cells #[.int .u8 0, .int .u8 1, .int .u8 0] 5)) 0 (w9.alloc (.cells #[.int .u8 0, .int .u8 1, .int .u8 0] 5)).heap.size (.slice (some ⟨w9.heap.size, 0, none⟩) 3 3) [0, 1, 0]) := Own.bs (own_three w9)
  have HRP := Lib.hid (Fm.rput_any HLIT.out (Nat.le_refl _) may_three.2.2 (by decide))
  go_wp2_with fail
  refine HRP.out.mono ?_
  rintro e w10 ⟨v10, rfl, ho10, hx10⟩
  have HX10 : Hid (Ext w w10) := Ext.trans HX9.out (Ext.trans (ext_alloc _ _) hx10)
  obtain ⟨A10, c10, rfl⟩ := Own.slice (show Own (w9.alloc (.cells #[.int .u8 0, .int .u8 1, .int .u8 0] 5)).heap.size (Fm.frame [0, 1, 0]) v10 w10 from ho10)
  have HO10 : Hid (Own (w9.alloc (.cells #[.int .u8 0, .int .u8 1, .int .u8 0] 5)).heap.size l4 (.slice A10 l4.length c10) w10) := by rw [HL4.out]; exact ho10
  rw [← HL4.out]
  clear ho10 hx10 HRP HLIT
  have HBT10 := Lib.hid (batches_any HO10.out.bs (Nat.le_refl _) HT4.out.2 (by rw [HT4.out.1]; decide) HR4.out.1)
  unfold BatsAns at HBT10
  rw [HR4.out.2] at HBT10
  have e00 : endAt 0 [] ([] : List (Nat × Bat)).length = 0 := rfl
  rw [e00] at HBT10
  clear e00
  go_wp2_with fail
  refine HBT10.out.mono ?_
  rintro e w11 ⟨X11, V11, q11, hmap, rfl, hbts, hx⟩
  have HX11 : Hid (Ext w w11) := Ext.trans HX10.out hx
  clear hmap hbts hx HBT10
  obtain ⟨w12, hw12⟩ : ∃ w12, w12 = w11.alloc (.cells #[.int .i64 1, .slice none 0 0] 24) := ⟨_, rfl⟩
  have HB12 : Hid (w12.heap[w11.heap.size]? = some (.cells #[.int .i64 1, .slice none 0 0] 24 (0, 0))) := by rw [hw12]; exact heap_at _ _ rfl
  have HX12 : Hid (Ext w11 w12) := by rw [hw12]; exact ext_alloc _ _
  have HW12 := Lib.hid hw12
  clear hw12
  go_wp2_with fail
  rw [← HW12.out]
  clear HW12
  obtain ⟨D, hD⟩ : ∃ D, D = w11.heap.size := ⟨_, rfl⟩
  rw [← hD] at HB12 ⊢
  have HD := Lib.hid hD
  clear hD
  go_loopw [16] (fun i wr => ∃ (k : Nat) (R : List (Ent × Hd)) (A : Option Addr) (c : Nat), k ≤ 17 ∧ i = .int .i64 (k : Int) ∧ Hid (R.map Prod.fst = bigL k) ∧ Hid (wr.heap[D]? = some (.cells #[.int .i64 1, .slice A R.length c] 24 (0, 0))) ∧ Hid (Got (D + 1) (.slice A R.length c) R wr) ∧ Hid (Ext w11 wr)) (fun i _ => 17 - (intOf i).toNat)
  case atStart => exact ⟨0, [], none, 0, by omega, rfl, Lib.hid rfl, HB12, Lib.hid (Got.nil _ _), HX12⟩
  case round =>
    obtain ⟨k, R, A, c, hk, rfl, HR, HC, HG, HX⟩ := hrel
    have HRL : Hid (R.length = k) := by have h := congrArg List.length HR.out; rw [List.length_map, bigL_len] at h; exact h
    by_cases hlt : k < 17
    · have d : decide ((k : Int) < 17) = true := decide_eq_true (by omega)
      have dn : decide (k < 17) = true := decide_eq_true hlt
      have hcv : IntKind.u8.wrap (k : Int) = (k : Int) := by simp [IntKind.wrap, IntKind.bits, IntKind.signed]; omega
      have c1 := cell_of HC.out (k := 1) rfl
      have HLT : Hid (D + 1 ≤ wr.heap.size) := (Array.getElem?_eq_some_iff.1 HC.out).1
      go_upto_region 12 with (fail)
      refine S2.flow (by kernel_rfl) [Is (.pointer (some ⟨D, 1, none⟩)), Is (.slice A R.length c), Is (.int .i64 (k : Int)), Is (.int .u8 (k : Int)), Own (D + 1) [k], Own (D + 1) bigZ, EntV (D + 1) k, LitE (D + 1) k, (fun _ _ => True), Is (.pointer (some ⟨D, 1, none⟩)), (fun _ _ => True)] 8 10 [9] (PushE (D + 1) k R) (fun v u2 u => u = u2.setCell ⟨D, 1, none⟩ v) (by kernel_rfl) (by kernel_rfl) (by kernel_rfl) ?mono12 (fun f1 => ?obl12) ?fin12
      case mono12 =>
        simp only [List.forall_mem_cons, List.not_mem_nil, false_imp_iff, implies_true, and_true]
        exact ⟨.is _, .is _, .is _, .is _, .own _ _, .own _ _, .entV _ _, .litE _ _, (fun _ _ _ h _ => h), .is _, (fun _ _ _ h _ => h)⟩
      case obl12 =>
        refine ⟨fun u hu hd => ?_, ?_⟩
        · go_simp
          exact ⟨Ext.refl _, rfl⟩
        refine ⟨fun u hu hd => ?_, ?_⟩
        · simp only [Act.put, List.setIfInBounds_toArray, List.set_cons_zero, List.set_cons_succ]
          have e0 : f1 0 = .pointer (some ⟨D, 1, none⟩) := hd 0 (by kernel_rfl)
          have hu2 := Ext.trans (Ext.drew wr) hu
          have q1 := ext_cell hu2 c1
          go_simp
          exact ⟨Ext.refl _, rfl⟩
        refine ⟨fun u hu hd => ?_, ?_⟩
        · simp only [Act.put, List.setIfInBounds_toArray, List.set_cons_zero, List.set_cons_succ]
          go_simp
          exact ⟨Ext.refl _, rfl⟩
        refine ⟨fun u hu hd => ?_, ?_⟩
        · simp only [Act.put, List.setIfInBounds_toArray, List.set_cons_zero, List.set_cons_succ]
          have e2 : f1 2 = .int .i64 (k : Int) := hd 2 (by kernel_rfl)
          clear hd
          go_simp
          exact ⟨Ext.refl _, rfl⟩
        refine ⟨fun u hu hd => ?_, ?_⟩
        · simp only [Act.put, List.setIfInBounds_toArray, List.set_cons_zero, List.set_cons_succ]
          have e3 : f1 3 = .int .u8 (k : Int) := hd 3 (by kernel_rfl)
          have HL := Lib.hid (Nat.le_trans HLT.out (Ext.trans (Ext.drew wr) hu).size)
          clear hd hu
          go_simp
          exact ⟨ext_alloc _ _, Own.base (show Own u.heap.size [k] _ _ from own_lit u k) HL.out⟩
        refine ⟨fun u hu hd => ?_, ?_⟩
        · simp only [Act.put, List.setIfInBounds_toArray, List.set_cons_zero, List.set_cons_succ]
          have HL := Lib.hid (Nat.le_trans HLT.out (Ext.trans (Ext.drew wr) hu).size)
          obtain ⟨u', hm1, hm2, hm3⟩ := make_big u
          have HM := Lib.hid (And.intro hm2 hm3)
          clear hd hu hm2 hm3
          go_simp
          exact ⟨HM.out.2, HM.out.1.base HL.out⟩
        refine ⟨fun u hu hd => ?_, ?_⟩
        · simp only [Act.put, List.setIfInBounds_toArray, List.set_cons_zero, List.set_cons_succ]
          have h4 := (show Own (D + 1) [k] (f1 4) u from hd 4 (by kernel_rfl))
          have h5 := (show Own (D + 1) bigZ (f1 5) u from hd 5 (by kernel_rfl))
          obtain ⟨kA, kc, e4⟩ := Own.slice h4
          obtain ⟨vA, vc, e5⟩ := Own.slice h5
          rw [e4] at h4
          rw [e5] at h5
          rw [bigZ_len] at e5 h5
          have HN := Lib.hid (And.intro h4 h5)
          clear hd hu h4 h5
          go_simp
          exact ⟨Ext.refl _, kA, kc, vA, vc, rfl, HN.out.1, HN.out.2⟩
        refine ⟨fun u hu hd => ?_, ?_⟩
        · simp only [Act.put, List.setIfInBounds_toArray, List.set_cons_zero, List.set_cons_succ]
          obtain ⟨kA, kc, vA, vc, e6, h1, h2⟩ := (show EntV (D + 1) k (f1 6) u from hd 6 (by kernel_rfl))
          have hx := ext_alloc u (.cells (ecells (bigE k, ⟨kA, kc, vA, vc⟩)).toArray 48)
          have HN : Hid (Mine (D + 1) (bigE k, ⟨kA, kc, vA, vc⟩) (u.alloc (.cells (ecells (bigE k, ⟨kA, kc, vA, vc⟩)).toArray 48))) := by
            refine ⟨h1.below hx, ?_, ⟨(by intro x hx; rw [List.mem_singleton.1 hx]; omega), bigZ_lt, (by decide : (-9223372036854775808 : Int) ≤ 1), (by decide : (1 : Int) ≤ 9223372036854775807), (by decide : (-9223372036854775808 : Int) ≤ 1), (by decide : (1 : Int) ≤ 9223372036854775807)⟩⟩
            have h3 := h2.below hx
            rw [← bigZ_len] at h3
            exact h3
          have HE : Hid ((ecells (bigE k, ⟨kA, kc, vA, vc⟩)).toArray = #[.slice kA 1 kc, .int .i64 1, .int .i64 1, .slice vA 65536 vc]) := by show #[_, _, _, Value.slice vA bigZ.length vc] = _; rw [bigZ_len]; rfl
          rw [HE.out] at HN hx
          have HXX := Lib.hid hx
          clear hd hu h1 h2 hx
          go_simp
          exact ⟨HXX.out, _, ⟨kA, kc, vA, vc⟩, rfl, by rw [HE.out]; exact heap_at _ _ rfl, HN.out⟩
        refine ⟨fun u hu hd => ?_, ?_⟩
        · simp only [Act.put, List.setIfInBounds_toArray, List.set_cons_zero, List.set_cons_succ]
          have e1 : f1 1 = .slice A R.length c := hd 1 (by decide) (by decide) (by decide) (by decide)
          obtain ⟨gb, h, e7, hh, hm⟩ := (show LitE (D + 1) k (f1 7) u from hd 7 (by decide) (by decide) (by decide) (by decide))
          have hu2 := Ext.trans (Ext.drew wr) hu
          rw [if_pos (by rfl)]
          refine gives_pushent (.tmp 59) (.tmp 65) rfl (D + 1) (.slice A R.length c) R e1 (HG.out.below hu2) (bigE k, h) gb e7 hh hm (by rw [HRL.out]; omega) (Nat.le_trans HLT.out hu2.size) ?_
          intro A' c' w' hg hb
          exact ⟨A', c', h, rfl, hg, hb u (Below.refl _ _)⟩
        refine ⟨fun u u' hu hd => ?_, ?_⟩
        · simp only [Act.put, List.setIfInBounds_toArray, List.set_cons_zero, List.set_cons_succ]
          go_simp
          exact ⟨rfl, rfl⟩
        refine ⟨fun u1 u2 hu hd hs => ?_, trivial⟩
        simp only [Act.put, List.setIfInBounds_toArray, List.set_cons_zero, List.set_cons_succ]
        have e9 : f1 9 = .pointer (some ⟨D, 1, none⟩) := hd 9 (by kernel_rfl) (by decide)
        obtain ⟨A', c', h, e8, hg, hb⟩ := hs
        have hc2 := (hb.block D (by omega)).trans (ext_heap (Ext.trans (Ext.drew wr) hu) HC.out)
        have q1 := cell_of hc2 (k := 1) rfl
        have z1 := frozen_four hc2 (j := 1)
        clear hd hu hg hb hc2
        go_simp
        exact rfl
      case fin12 =>
        intro g1 u1 u2 u3 hu hg hs hu3
        simp only [puts, Act.put, List.setIfInBounds_toArray, List.set_cons_zero, List.set_cons_succ]
        obtain ⟨A', c', h, e8, hgot, hb⟩ := hs
        have hx1 := Ext.trans (Ext.drew wr) hu
        have hc2 := (hb.block D (by omega)).trans (ext_heap hx1 HC.out)
        rw [e8] at hgot hu3
        have hl : R.length + 1 = (R ++ [(bigE k, h)]).length := by simp
        rw [hl] at hgot hu3
        have HC3 : Hid (u3.heap[D]? = some (.cells #[.int .i64 1, .slice A' (R ++ [(bigE k, h)]).length c'] 24 (0, 0))) := by rw [hu3]; unfold Hid; rw [heap_setCell_same u2 D 1 _ _ _ hc2]; rfl
        have HG3 : Hid (Got (D + 1) (.slice A' (R ++ [(bigE k, h)]).length c') (R ++ [(bigE k, h)]) u3) := by
          rw [hu3]
          refine hgot.chg (Chg.setCell (S := fun i => i = D) _ _ _ rfl) fun k hk => .inl (by omega)
        have HX3 : Hid (Ext w11 u3) := by
          rw [hu3]
          refine Below.setCell (Below.trans (Ext.trans HX.out hx1) (hb.mono (by rw [HD.out]; omega))) (by show w11.heap.size ≤ D; rw [HD.out]; exact Nat.le_refl _) _
        clear hu hg e8 hgot hb hx1 hc2 hu3 hl c1
        go_wp2_with fail
        go_roundw
        case rel => exact ⟨k + 1, R ++ [(bigE k, h)], A', c', by omega, by go_num, Lib.hid (by rw [List.map_append, HR.out, bigL_succ]; rfl), HC3, HG3, HX3⟩
        case measure => simp [intOf]; omega
    · have d : decide ((k : Int) < 17) = false := decide_eq_false (by omega)
      have dn : decide (k < 17) = false := decide_eq_false hlt
      have hk17 : k = 17 := by omega
      subst hk17
      have HBM : Hid (Bm wr 0 wr.heap.size ⟨1, A, c, R⟩) := ⟨HG.out.es, (by decide : (-9223372036854775808 : Int) ≤ 1), (by decide : (1 : Int) ≤ 9223372036854775807), (show R.length ≤ 1000000000000 by rw [HRL.out]; decide)⟩
      have HMAY : Hid ((⟨1, A, c, R⟩ : Bx).bat.may) := ⟨(by decide : (1 : Int) ≤ 1), (by decide : (1 : Int) ≤ 2147483647), (by show (R.map Prod.fst).length ≤ 65536; rw [List.length_map, HRL.out]; decide), fun e he => by
        have he2 : e ∈ bigL 17 := by rw [← HR.out]; exact he
        obtain ⟨j, _, rfl⟩ := List.mem_map.1 he2
        exact bigE_may j⟩
      have HBIG : Hid (1048576 < (⟨1, A, c, R⟩ : Bx).bat.form.length) := by have h1 := Bx.form_ge HMAY.out; have h2 := big_esz HR.out; rw [show (⟨1, A, c, R⟩ : Bx).L = R from rfl, h2] at h1; unfold Hid; omega
      have HP := Lib.hid (wput_any HBM.out (Nat.le_refl _))
      unfold Bx.val at HP
      dsimp only at HP
      have k0 := cell_of HC.out (k := 0) rfl
      have k1 := cell_of HC.out (k := 1) rfl
      go_wp2_with fail
      refine HP.out.mono ?_
      rintro e w13 ⟨hx13, (⟨h1, _⟩ | ⟨_, _, rfl⟩ | ⟨_, h1, _⟩)⟩
      · exact absurd HMAY.out h1
      rotate_left
      · exact absurd HBIG.out (by omega)
      have HX13 : Hid (Ext wr w13) := hx13
      have p0 := ext_cell hx13 k0
      have p1 := ext_cell hx13 k1
      have HMY := Lib.hid (wmay_any (HBM.out.ext hx13 (Nat.le_refl _)) hx13.size)
      unfold Bx.val at HMY
      dsimp only at HMY
      have x5 : X5.length = 1 := HM5.out
      have x9 : X9.length = 1 := HM9.out
      have t5 : ((X5.length : Int) == 1) = true := by rw [x5]; rfl
      have t9 : ((X9.length : Int) == 1) = true := by rw [x9]; rfl
      have tl : ((l1.length : Int) == (l1.length : Int)) = true := by simp
      clear hx13 k0 k1 HP x5 x9
      go_wp2_with fail
      refine (wnum_any _ _).mono ?_
      rintro e u ⟨rfl, hu⟩
      have hu := hu.symm
      subst hu
      go_wp2_with fail
      refine (wnum_any _ _).mono ?_
      rintro e u ⟨rfl, hu⟩
      have hu := hu.symm
      subst hu
      go_wp2_with fail
      refine HMY.out.mono ?_
      rintro e w14 ⟨z, hz, rfl, hx14⟩
      obtain rfl : z = true := hz.2 HMAY.out
      have HX14 : Hid (Ext w w14) := Ext.trans HX11.out (Ext.trans HX.out (Ext.trans HX13.out hx14))
      clear hz hx14 HMY p0 p1
      go_wp2_with fail
      refine (wknown_any w14).mono ?_
      rintro e w15 ⟨rfl, hx15⟩
      have HX15 : Hid (Ext w w15) := Ext.trans HX14.out hx15
      clear hx15
      go_wp2_with fail
      go_ret
      exact ⟨rfl, HX15.out⟩
end Go.Proofs.Ytgflhbpmkcggnaa

/- WalOdd: from the walk to the statement. For every input the law answers true and leaves its arguments as they were. -/
namespace Go.Proofs.Ytgflhbpmkcggnaa.walOdd
open Go.ChangeShapes Go.WideShapes Go.ChangeAt Go.RowKit
set_option linter.unusedVariables false

set_option maxRecDepth 100000 in
theorem lifted (os : Os) (started : os.Started) (H : Type) (enc : TypeId × Value → H) :
    ReturnsInHanded {} Try.checked os 8 .any (Rows.walOddSpec.pre6 enc Try.prog Try.f8 Rows.walOddRow.domain false) (Rows.walOddSpec.post enc Try.prog Try.f8 false true false false) := by
  refine returnsInHanded_of_change_sized (C := Try.checked) own started (by kernel_rfl) Try.func8
    (ChangeSpec.witness6 (enc := enc) (C := Try.checked) false ⟨#[], #[], []⟩ 8 (by kernel_rfl) (by kernel_rfl) (by kernel_rfl) (by kernel_rfl)) ?_
  intro W base args ds gs before hval0 hW hcnd hsz0 _
  have hsz : (DataW.weightsEach Try.prog (Try.f8.params.toList ++ Rows.walOddSpec.plain.varTypes Try.prog) (ds ++ gs)).all (· ≤ reachBytes) = true := hsz0
  have hval : ∀ (j : Nat) t v, Try.f8.params[j]? = some t → args[j]? = some v → Value.okWide Try.prog W .any base t v := hval0
  have hW' := hW
  obtain ⟨p, q, hA0, hV, rfl, hfz, hnd⟩ := hW
  have hA : DataW.TrodAll enc Try.prog W 0 (fun _ => true) true Try.f8.params.toList args.toList ds p := hA0
  obtain ⟨rfl, rfl, rfl⟩ := trodAll_none hA
  obtain ⟨rfl, rfl⟩ := trodVars_none hV
  clear hA0 hval0 hsz0
  refine (wodd_walk W ).mono fun e W' ⟨he, bel⟩ => ?_
  subst he
  exact ⟨_, rfl, _, _, _, [], _, [], hW', trodAll_mk1 (shut_bool Try.underlying4 _), trodAll_mk0, rfl, bel.frame _, fun h => by cases h⟩

theorem over : Rows.walOddRow.holds Try.pinned (OpenSpec.ofChange Rows.walOddSpec) :=
  OpenClaim.holds_of_wide 8 Try.f8 rfl rfl rfl rfl rfl rfl rfl ⟨rfl, rfl, rfl, rfl, rfl⟩ rfl rfl rfl rfl rfl (by kernel_rfl) Try.func8 (by kernel_rfl)
    (of_decide_eq_true (by kernel_rfl)) (by unfold Func.isWrapper; first | (rw [if_pos (by decide +kernel)]; kernel_rfl) | (rw [if_neg (by decide +kernel)]; exact ⟨rfl, rfl⟩))
    (fun os started H enc _ => lifted os started H enc)

theorem proved : Rows.WalOddSaid := over
end Go.Proofs.Ytgflhbpmkcggnaa.walOdd
