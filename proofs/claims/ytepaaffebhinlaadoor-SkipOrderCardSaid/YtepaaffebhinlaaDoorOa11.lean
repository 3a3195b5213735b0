/- Slevel Sord Swithin Slevels Sfew, joined. -/
import Derived.Test.YtepaaffebhinlaaDoorOa8
import Derived.Test.YtepaaffebhinlaaDoorOa10
import Derived.OwnWalkIn
import Derived.Test.YtepaaffebhinlaaDoorOa2
import Derived.Deep.LoopGhost
import Derived.Test.YtepaaffebhinlaaDoorOa9

/- level: a level's entries, as a row of the call's own. -/
namespace Go.Proofs.YtepaaffebhinlaaDoor
open Go.ChangeShapes Go.WideShapes Go.ChangeAt Go.RowKit Go.Shelf
attribute [local go_sem] Oper.semAt_some

/-- 'append(l, e)', within a fence. -/
theorem wpListIn_pushent {F : Fence} {nF : Nat} {ops : Array Oper} {rest : List Oper} {o : Oper} {a : Act} {Q : Exit → Act → World → Prop} {u : World} (hgd : o.guard = none) (s x : Operand)
    (ho : o.op = .call { callee := .builtin .append, args := #[s, x], argTypes := #[22, 22] }) (B : Nat) (v : Value) (R : List (Ent × Hd)) (hs : a.eval s = v) (hgot : Got B v R u)
    (p : Ent × Hd) (gb : Nat) (hx : a.eval x = .slice (some ⟨gb, 0, none⟩) 1 1) (hblk : u.heap[gb]? = some (.cells (ecells p).toArray 28 (0, 0))) (hp : Mine B p u) (hlen : R.length ≤ 1000000000000) (hB : B ≤ u.heap.size)
    (h : ∀ A' c' w', Got B (.slice A' (R.length + 1) c') (R ++ [p]) w' → u.grownBy w' v.ownBlock → wpListIn F nF Tryd.prog ops Q rest (a.put o.dst (.slice A' (R.length + 1) c')) w') :
    wpListIn F nF Tryd.prog ops Q (o :: rest) a u := by
  obtain ⟨i0, hi0', ix0, ix1, ix2⟩ := info_parts einfo
  refine wpListIn_append_own _ hgd s x 22 ho B 28 i0 _ 4 64 Tryd.underlying22 hi0' ix0 ix1 ix2 rfl (by decide) v R.length (erow R) hs hgot.row ⟨gb, 0, none⟩ 1 1 (ecells p) hx rfl (fun j q hj => ?n1) (fun q hq => ?n2) ?n3 ?n4 hB (fun v' w5 ho hgr _ => ?rest)
  case n1 => rw [addr_add, Nat.zero_add]; exact cell_of hblk (by simpa using hj)
  case n2 => exact erow_one [p] q (by simpa [erow] using hq)
  case n3 => unfold maxLen; omega
  case n4 => omega
  case rest =>
    have hke : ∀ q : Ent × Hd, Mine B q u → Mine B q w5 := fun q hq => by
      have hk : ∀ {l : List Nat} {x : Value}, Own B l x u → Own B l x w5 := fun hx => row_kept hx fun g' hg' => hgr.block g' (row_lt hx g' hg').2 (fun e => rows_apart hx hgot.row (by decide) hg' e.symm)
      exact ⟨hk hq.k, hk hq.v, hq.good⟩
    have hgot' : Got B v' (R ++ [p]) w5 := by
      refine ⟨by rw [List.length_append, erow_append]; simpa [erow] using ho, fun q hq => ?_⟩
      rcases List.mem_append.1 hq with hq | hq
      · exact hke q (hgot.each q hq)
      · rw [List.mem_singleton] at hq; subst hq; exact hke q hp
    obtain ⟨A', c', rfl⟩ := rowN_slice ho
    exact h A' c' w5 hgot' hgr

theorem Got.btw {B : Nat} {v : Value} {R : List (Ent × Hd)} {w w' : World} {S : Nat → Prop} (h : Got B v R w) (hc : Chg S w w') (hS : ∀ b, B ≤ b → ¬ S b) : Got B v R w' := h.keepS hc fun _ hb => hS _ (h.blk hb).1
theorem lev_chg {n₁ : Nat} {v : Value} {R : List (Ent × Hd)} {A w5 : World} {o : Obj} (h : Got n₁ v R A) (hg : (A.alloc o).grownBy w5 v.ownBlock) : Chg (fun i => n₁ ≤ i) A w5 :=
  (Chg.alloc (S := fun i => n₁ ≤ i) A o).trans (Chg.grown hg (fun k hk => (rowN_lt h.row k hk).1))
theorem lev_ne {a b n₁ : Nat} (h : b + 2 ≤ n₁) (hb : b = a + 1) : ¬ n₁ ≤ a := by omega
/-- Between two rounds. -/
structure LevI (w : World) (b7 : Nat) (L : List Tw) (n₁ k : Nat) (A : World) : Prop where
  below : Below w.heap.size w A
  box : ∃ (X : Option Addr) (c : Nat) (R : List (Ent × Hd)), Boxed A b7 22 (.slice X R.length c) ∧ Got n₁ (.slice X R.length c) R A ∧ R.map Prod.fst = (L.take k).map Tw.e
  z1 : n₁ ≤ A.heap.size

set_option maxRecDepth 100000 in
set_option maxHeartbeats 8000000 in
theorem level_any {w : World} {D : Nat → Prop} {lb hb n : Nat} {T : List Tw} (h : Sk w D lb hb T) (hn : n < 8) (hfew : T.length ≤ 1000000) :
    Calls Tryd.prog 30 #[.pointer (some ⟨lb, 0, none⟩), .int .i64 (n : Int)] w fun e w' => ∃ (X : Option Addr) (c : Nat) (R : List (Ent × Hd)), e = .returned (.tuple #[.slice X R.length c, .bool true]) ∧ Got w.heap.size (.slice X R.length c) R w' ∧ R.map Prod.fst = (rowOf T nobodyE n).map Tw.e ∧ Below w.heap.size w w' := by
  have HINS : Hid (∀ t ∈ rowOf T nobodyE n, InE t.e) := rowOf_ins h.ins _ _
  have HLEV := Lib.hid (slevel_any h hn)
  obtain ⟨L, hL⟩ : ∃ L, L = rowOf T nobodyE n := ⟨_, rfl⟩
  have HLL : Hid (L.length ≤ 1000000) := by
    have h1 : L.length ≤ T.length := by
      rw [hL]; unfold rowOf
      exact Nat.le_trans (List.length_filter_le _ _) (by rw [List.length_drop]; omega)
    unfold Hid; omega
  rw [← hL] at HINS HLEV ⊢
  clear hL h
  refine (callsIn_wide (n := 6)).1 ?_
  refine callsIn_of_wp_marks Tryd.func30 rfl trivial ?_
  simp only [Tryd.ntmps30, List.size_toArray, List.length_cons, List.length_nil, Nat.reduceAdd, Nat.reduceSub, Array.replicate_succ, Array.replicate_zero, List.push_toArray, List.append_toArray, List.nil_append, List.cons_append]
  have hf2 : Fence.wide.fn 18 := trivial
  gi_wp2_with (gi_at_call 18; refine (callsIn_wide.2 HLEV.out).mono ?_; rintro e w1 ⟨hx, bd, rfl, hit⟩; have hfn := copies_some bd)
  have HX1 : Hid (Ext w w1) := hx
  have HIT := Lib.hid hit
  clear hx hit hfn
  obtain ⟨w2, hw2⟩ : ∃ w2, w2 = w1.alloc (.cells #[.slice none 0 0] 22) := ⟨_, rfl⟩
  rw [← hw2]
  have HX2 : Hid (Ext w1 w2) := by rw [hw2]; exact ext_alloc _ _
  have HZ2 : Hid (w2.heap.size = w1.heap.size + 1) := by rw [hw2]; simp [Hid]
  have HB2 : Hid (Boxed w2 w1.heap.size 22 (.slice none 0 0)) := by rw [hw2]; exact heap_at _ _ rfl
  have HXW : Hid (Ext w w2) := Ext.trans HX1.out HX2.out
  clear hw2
  refine wpIn_over rfl enters_copies1 (Iter.ext HIT.out HX2.out) (fun _ => rfl) (LevI w1 w1.heap.size L) (fun _ _ => False) (fun _ _ _ h => h.below) ?hI (fun _ _ _ h _ => h) ?h0 ?round ?done (fun _ _ _ _ h _ => h.elim)
  case hI =>
    intro n₁ k A1 A2 hn hi hc
    have z2 := HZ2.out
    obtain ⟨X, c, R, hbox, hgot, hR⟩ := hi.box
    exact ⟨hi.below.trans (hc.below (fun i hb => by have := hb.1; omega) hi.below.size), ⟨X, c, R, boxed_chg hbox hc (fun hb => by have := hb.1; omega), hgot.btw hc (fun b hb hs => by have := hs.2; omega), hR⟩, Nat.le_trans hi.z1 hc.size⟩
  case h0 =>
    intro A1 hx
    exact ⟨Ext.trans HX2.out hx, ⟨none, 0, [], ext_heap hx HB2.out, Got.nil _ _, rfl⟩, Nat.le_refl _⟩
  case round =>
    rintro l2 n₁ k ⟨e, g⟩ A1 hl1 hl2 hn hnA hi hk ⟨p, hp, he, hmk, hmv⟩
    have he' : e = p.e := he
    subst he'
    have HP := Lib.hid hp
    have HINE := Lib.hid (HINS.out p (List.mem_of_getElem? hp))
    have HMK := Lib.hid hmk
    have HMV := Lib.hid hmv
    have HI1 := Lib.hid hi
    have HN1 := Lib.hid hn
    have HL12 := Lib.hid (And.intro hl1 hl2)
    have HK1 := Lib.hid hk
    obtain ⟨e, he⟩ : ∃ e, e = p.e := ⟨_, rfl⟩
    have HEQ := Lib.hid he
    rw [← he] at HINE HMK HMV ⊢
    clear hl1 hl2 hn hnA hi hk hp hmk hmv he
    dsimp only at HMK HMV
    dsimp only [rowV, Ent.at_]
    gi_wp2
    obtain ⟨A2, hA2⟩ : ∃ A2, A2 = A1.alloc (.cells #[.slice g.kA e.key.length g.kc, .int .i64 e.seq, .int .i64 e.kind, .slice g.vA e.val.length g.vc] 28) := ⟨_, rfl⟩
    rw [← hA2]
    have HX2 : Hid (Ext A1 A2) := by rw [hA2]; exact ext_alloc _ _
    have HBE : Hid (A2.heap[A1.heap.size]? = some (.cells #[.slice g.kA e.key.length g.kc, .int .i64 e.seq, .int .i64 e.kind, .slice g.vA e.val.length g.vc] 28 (0, 0))) := by rw [hA2]; exact heap_at _ _ rfl
    clear hA2
    refine ⟨Step.of_chg (S := fun _ => False) (Chg.of_ext HX2.out) HI1.out.z1 (fun _ _ _ h => h), fun A3 hc => ?_⟩
    have HCH : Hid (Chg (fun i => i = l2) A1 A3) := (Chg.of_ext HX2.out).trans hc
    obtain ⟨X, cR, R, hbox, hgot, hR⟩ := HI1.out.box
    have hbox3 := boxed_chg hbox HCH.out (fun hb => by have := HL12.out.1; have := HZ2.out; omega)
    have HGOT : Hid (Got n₁ (.slice X R.length cR) R A3) := hgot.btw HCH.out (fun b hb hs => by have := HL12.out.2; omega)
    have HMINE : Hid (Mine n₁ (e, g) A3) := by
      obtain ⟨a1, a2, a3, a4, a5⟩ := HINE.out.s
      have k3 : Own n₁ e.key (.slice g.kA e.key.length g.kc) A3 := row_chg HMK.out HCH.out (fun i h1 h2 => by have := HL12.out.2; omega)
      have v3 : Own n₁ e.val (.slice g.vA e.val.length g.vc) A3 := row_chg HMV.out HCH.out (fun i h1 h2 => by have := HL12.out.2; omega)
      have hgood : Good e := ⟨HINE.out.bk, HINE.out.bv, by omega, by omega, by rcases a5 with ⟨a, _⟩ | ⟨a, _⟩ <;> omega, by rcases a5 with ⟨a, _⟩ | ⟨a, _⟩ <;> omega⟩
      exact ⟨k3, v3, hgood⟩
    have HB3' : Hid (A3.heap[A1.heap.size]? = some (.cells #[.slice g.kA e.key.length g.kc, .int .i64 e.seq, .int .i64 e.kind, .slice g.vA e.val.length g.vc] 28 (0, 0))) :=
      (hc.block _ (Array.getElem?_eq_some_iff.1 HBE.out).1 (fun e => by have := HI1.out.z1; have := HL12.out.2; omega)).trans HBE.out
    have HBOX := Lib.hid hbox3
    have HRR := Lib.hid hR
    have HZA : Hid (n₁ ≤ A3.heap.size) := Nat.le_trans HI1.out.z1 HCH.out.size
    have HRL : Hid (R.length = k) := by
      have h1 := congrArg List.length hR
      simp only [List.length_map, List.length_take] at h1
      have := HK1.out
      unfold Hid; omega
    have q0 := hbox3.cell
    have e0 := cell_of HB3'.out (k := 0) rfl
    have e1 := cell_of HB3'.out (k := 1) rfl
    have e2 := cell_of HB3'.out (k := 2) rfl
    have e3 := cell_of HB3'.out (k := 3) rfl
    clear hc hbox hgot hR hbox3
    have HLN : Hid (R.length ≤ 1000000000000) := by have := HRL.out; have := HK1.out; have := HLL.out; unfold Hid; omega
    gi_wp2_with (gi_at_builtin; refine wpListIn_pushent rfl (.tmp 16) (.tmp 18) rfl n₁ _ R rfl (HGOT.out.below (ext_alloc _ _)) (e, g) A3.heap.size rfl (heap_at _ _ rfl) (HMINE.out.below (ext_alloc _ _)) HLN.out (Nat.le_trans HZA.out (by simp)) ?_; intro X5 c5 w5 hgot5 hgr5; have HG5 := Lib.hid hgot5; have hc5 := lev_chg HGOT.out hgr5; have HC5 := Lib.hid hc5; have q1 := boxed_chg HBOX.out hc5 (lev_ne HN1.out HZ2.out); have HQ1 := Lib.hid q1; have q2 := q1.cell; have q3 := q1.frozen; clear hgot5 hgr5 hc5 q1)
    have hz2 := HZ2.out
    have hn1 : w2.heap.size + 2 ≤ n₁ := HN1.out
    have hc6 := HC5.out.mono (S' := fun i => n₁ ≤ i ∨ i = w1.heap.size) (fun k _ hk => .inl hk)
    have hc7 := hc6.trans (Chg.setCell (S := fun i => n₁ ≤ i ∨ i = w1.heap.size) w5 ⟨w1.heap.size, 0, none⟩ (.slice X5 (R.length + 1) c5) (.inr rfl))
    have hRk : (R ++ [(e, g)]).map Prod.fst = (L.take (k + 1)).map Tw.e := by
      rw [List.take_add_one, HP.out, List.map_append, List.map_append, HRR.out, HEQ.out]; rfl
    have hlen : (R ++ [(e, g)]).length = R.length + 1 := by simp
    have hb3 : Below w1.heap.size w1 A3 := HI1.out.below.trans (HCH.out.below (fun i hb => by have := HL12.out.1; omega) HI1.out.below.size)
    refine ⟨Step.of_chg hc7 HZA.out (fun i h1 h2 hs => by rcases hs with hs | hs <;> omega), ⟨hb3.trans (hc7.below (fun i hi => by rcases hi with hi | hi <;> omega) hb3.size), ⟨X5, c5, R ++ [(e, g)], ?_, ?_, hRk⟩, Nat.le_trans HZA.out hc7.size⟩⟩
    · rw [hlen]; exact HQ1.out.set _
    · rw [hlen]; exact HG5.out.btw (Chg.setCell (S := fun i => i = w1.heap.size) w5 ⟨w1.heap.size, 0, none⟩ (.slice X5 (R.length + 1) c5) rfl) (fun b hb hs => by omega)
  case done =>
    rintro D' n₁ W' hDl hDn hn hi hD
    obtain ⟨X, cR, R, hbox, hgot, hR⟩ := hi.box
    rw [List.take_length] at hR
    have HDL := Lib.hid (And.intro hDl hDn)
    have HDD := Lib.hid hD
    have HI := Lib.hid hi
    have HG := Lib.hid hgot
    have HRR := Lib.hid hR
    have HN := Lib.hid hn
    have q0 := hbox.cell
    clear hDl hDn hn hi hD hbox hgot hR
    gi_wp2
    refine ⟨by simp, .inl ⟨_, _, rfl, run_takeDeferred HDD.out, ?_⟩⟩
    refine ⟨_, results_tmp2 rfl _ _ _, ⟨X, cR, R, rfl, ?_, HRR.out, ?_⟩⟩
    · have hz := HX1.out.size
      have hn := HN.out
      have hz2 := HZ2.out
      exact (HG.out.btw (putObj_chg _ D' _) (fun b hb hs => by have := HDL.out; omega)).base (by omega)
    · have hb : Below w.heap.size w W' := Below.trans HX1.out (HI.out.below.mono HX1.out.size)
      exact hb.trans ((putObj_chg _ D' _).below (fun i e => by have h1 := HDL.out; have h2 := HZ2.out; have h3 := HX1.out.size; omega) hb.size)
end Go.Proofs.YtepaaffebhinlaaDoor

/- In whatever order entries are put, the places are the same: plain mathematics of the list. -/
namespace Go.Proofs.YtepaaffebhinlaaDoor

/-- Has a list an entry of that place? -/
def HasP (l : List Ent) (y : Ent) : Prop := ∃ e ∈ l, cmpE e y = 0
theorem same_place {a b c : Ent} (h : cmpE a b = 0) : (cmpE a c = 0 ↔ cmpE b c = 0) := by
  obtain ⟨h1, h2⟩ := cmpE_zero.1 h
  rw [cmpE_zero, cmpE_zero, h1, h2]
theorem place_turn {a b : Ent} : cmpE a b = 0 ↔ cmpE b a = 0 := by rw [cmpE_zero, cmpE_zero]; exact ⟨fun h => ⟨h.1.symm, h.2.symm⟩, fun h => ⟨h.1.symm, h.2.symm⟩⟩
theorem putE_has (L : List Ent) (x y : Ent) : HasP (putE L x).1 y ↔ HasP L y ∨ (x.may = true ∧ cmpE x y = 0) := by
  have key : ∀ k, x.may = true → (HasP (L.take k ++ x :: L.drop k) y ↔ HasP L y ∨ (x.may = true ∧ cmpE x y = 0)) := fun k hm => by
    constructor
    · rintro ⟨e, he, hc⟩
      rcases List.mem_append.1 he with h | h
      · exact .inl ⟨e, List.mem_of_mem_take h, hc⟩
      · rcases List.mem_cons.1 h with rfl | h
        · exact .inr ⟨hm, hc⟩
        · exact .inl ⟨e, List.mem_of_mem_drop h, hc⟩
    · rintro (⟨e, he, hc⟩ | ⟨_, hc⟩)
      · rw [← List.take_append_drop k L] at he
        refine ⟨e, ?_, hc⟩
        rcases List.mem_append.1 he with h | h
        · exact List.mem_append.2 (.inl h)
        · exact List.mem_append.2 (.inr (List.mem_cons_of_mem _ h))
      · exact ⟨x, List.mem_append.2 (.inr List.mem_cons_self), hc⟩
  unfold putE
  split
  · rename_i hm
    split
    · rename_i e he
      split
      · rename_i h0
        refine ⟨.inl, ?_⟩
        rintro (h | ⟨_, hc⟩)
        · exact h
        · exact ⟨e, List.mem_of_getElem? he, (same_place h0).2 hc⟩
      · exact key _ hm
    · exact key _ hm
  · rename_i hm
    exact ⟨.inl, fun h => h.resolve_right fun h => hm h.1⟩
theorem fold_has : ∀ (l r : List Ent) (y : Ent), HasP (l.foldl (fun r x => (putE r x).1) r) y ↔ HasP r y ∨ ∃ x ∈ l, x.may = true ∧ cmpE x y = 0
  | [], r, y => by simp
  | x :: l, r, y => by
    rw [List.foldl_cons, fold_has l, putE_has]
    constructor
    · rintro ((h | h) | ⟨z, hz, h⟩)
      · exact .inl h
      · exact .inr ⟨x, List.mem_cons_self, h⟩
      · exact .inr ⟨z, List.mem_cons_of_mem _ hz, h⟩
    · rintro (h | ⟨z, hz, h⟩)
      · exact .inl (.inl h)
      · rcases List.mem_cons.1 hz with rfl | hz
        · exact .inl (.inr h)
        · exact .inr ⟨z, hz, h⟩

/-- Ascending lists of the same places are alike, place by place. -/
theorem asc_same : ∀ (A B : List Ent), Asc A → Asc B → (∀ y, HasP A y ↔ HasP B y) → A.length = B.length ∧ ∀ (i : Nat) (a b : Ent), A[i]? = some a → B[i]? = some b → cmpE a b = 0
  | [], [], _, _, _ => ⟨rfl, fun i a b h => by simp at h⟩
  | [], b :: B, _, _, h => by
    obtain ⟨e, he, _⟩ := (h b).2 ⟨b, List.mem_cons_self, cmpE_zero.2 ⟨rfl, rfl⟩⟩
    cases he
  | a :: A, [], _, _, h => by
    obtain ⟨e, he, _⟩ := (h a).1 ⟨a, List.mem_cons_self, cmpE_zero.2 ⟨rfl, rfl⟩⟩
    cases he
  | a :: A, b :: B, hA, hB, h => by
    have hA' := List.pairwise_cons.1 hA
    have hB' := List.pairwise_cons.1 hB
    have hab : cmpE a b = 0 := by
      obtain ⟨e, he, hc⟩ := (h a).1 ⟨a, List.mem_cons_self, cmpE_zero.2 ⟨rfl, rfl⟩⟩
      rcases List.mem_cons.1 he with rfl | he
      · exact place_turn.1 hc
      · have h1 := hB'.1 e he
        obtain ⟨e', he', hc'⟩ := (h b).2 ⟨b, List.mem_cons_self, cmpE_zero.2 ⟨rfl, rfl⟩⟩
        rcases List.mem_cons.1 he' with rfl | he'
        · exact hc'
        · have h2 := hA'.1 e' he'
          exfalso
          have h3 : cmpE b a < 0 := by
            obtain ⟨q1, q2⟩ := cmpE_zero.1 hc
            unfold cmpE at h1 ⊢
            rw [q1, q2] at h1; exact h1
          have h4 : cmpE a b < 0 := by
            obtain ⟨q1, q2⟩ := cmpE_zero.1 hc'
            unfold cmpE at h2 ⊢
            rw [q1, q2] at h2; exact h2
          have := cmpE_turn a b
          omega
    have htail : ∀ y, HasP A y ↔ HasP B y := fun y => by
      have far : ∀ {c : Ent} {C : List Ent}, (∀ e ∈ C, cmpE c e < 0) → HasP C y → ¬ cmpE c y = 0 := fun hC ⟨e, he, hc⟩ h0 => by
        have h1 := hC e he
        obtain ⟨q1, q2⟩ := cmpE_zero.1 hc
        obtain ⟨p1, p2⟩ := cmpE_zero.1 h0
        have : cmpE _ e = 0 := cmpE_zero.2 ⟨p1.trans q1.symm, p2.trans q2.symm⟩
        omega
      constructor
      · intro hy
        have hy' := hy
        obtain ⟨e, he, hc⟩ := hy
        obtain ⟨e', he', hc'⟩ := (h y).1 ⟨e, List.mem_cons_of_mem _ he, hc⟩
        rcases List.mem_cons.1 he' with rfl | he'
        · exact absurd ((same_place hab).2 hc') (far hA'.1 hy')
        · exact ⟨e', he', hc'⟩
      · intro hy
        have hy' := hy
        obtain ⟨e, he, hc⟩ := hy
        obtain ⟨e', he', hc'⟩ := (h y).2 ⟨e, List.mem_cons_of_mem _ he, hc⟩
        rcases List.mem_cons.1 he' with rfl | he'
        · exact absurd ((same_place hab).1 hc') (far hB'.1 hy')
        · exact ⟨e', he', hc'⟩
    obtain ⟨hl, hi⟩ := asc_same A B hA'.2 hB'.2 htail
    refine ⟨by simp [hl], fun i x y hx hy => ?_⟩
    cases i with
    | zero => simp at hx hy; subst hx hy; exact hab
    | succ i => exact hi i x y (by simpa using hx) (by simpa using hy)

/-- A list, turned round and begun anywhere. -/
def turnL {α : Type} (l : List α) (at_ : Nat) (k : Nat) : List α := (List.range k).filterMap fun i => l[(at_ + l.length - i) % l.length]?
theorem turnL_succ {α : Type} {l : List α} {at_ k : Nat} {x : α} (hx : l[(at_ + l.length - k) % l.length]? = some x) : turnL l at_ (k + 1) = turnL l at_ k ++ [x] := by
  unfold turnL
  rw [List.range_succ, List.filterMap_append]
  simp [hx]
theorem turnL_length {α : Type} {l : List α} {at_ : Nat} (hl : 0 < l.length) (k : Nat) : (turnL l at_ k).length = k := by
  induction k with
  | zero => rfl
  | succ k ih =>
    have hx := List.getElem?_eq_getElem (Nat.mod_lt (at_ + l.length - k) hl)
    rw [turnL_succ hx, List.length_append, ih]
    rfl
theorem turn_back {n at_ j : Nat} (ha : at_ < n) (hj : j < n) : ∃ i, i < n ∧ (at_ + n - i) % n = j := by
  rcases Nat.lt_or_ge at_ j with h | h
  · exact ⟨at_ + n - j, by omega, by rw [show at_ + n - (at_ + n - j) = j by omega, Nat.mod_eq_of_lt hj]⟩
  · refine ⟨at_ - j, by omega, ?_⟩
    rw [show at_ + n - (at_ - j) = j + n by omega, Nat.add_mod_right, Nat.mod_eq_of_lt hj]
theorem turnL_mem {α : Type} {l : List α} {at_ : Nat} (ha : at_ < l.length) (x : α) : x ∈ turnL l at_ l.length ↔ x ∈ l := by
  unfold turnL
  rw [List.mem_filterMap]
  constructor
  · rintro ⟨i, _, h⟩
    exact List.mem_of_getElem? h
  · intro h
    obtain ⟨j, hj, rfl⟩ := List.mem_iff_getElem.1 h
    obtain ⟨i, hi, he⟩ := turn_back ha hj
    exact ⟨i, List.mem_range.2 hi, by rw [he]; exact List.getElem?_eq_getElem hj⟩
theorem fold_turn {l : List Ent} {o : List Ent} (h : ∀ x, x ∈ o ↔ x ∈ l) (hA : Asc (l.foldl (fun r x => (putE r x).1) [])) (hB : Asc (o.foldl (fun r x => (putE r x).1) [])) :
    (l.foldl (fun r x => (putE r x).1) []).length = (o.foldl (fun r x => (putE r x).1) []).length ∧ ∀ (i : Nat) (a b : Ent), (l.foldl (fun r x => (putE r x).1) [])[i]? = some a → (o.foldl (fun r x => (putE r x).1) [])[i]? = some b → cmpE a b = 0 := by
  refine asc_same _ _ hA hB fun y => ?_
  rw [fold_has, fold_has]
  refine or_congr Iff.rfl ⟨fun ⟨x, hx, hc⟩ => ⟨x, (h x).2 hx, hc⟩, fun ⟨x, hx, hc⟩ => ⟨x, (h x).1 hx, hc⟩⟩

/-- One step of looking for a list among another one. -/
theorem sub_step {α : Type} {x y : α} {r os : List α} (h : (x :: r).Sublist (y :: os)) : (x = y → r.Sublist (y :: os)) ∧ (x ≠ y → (x :: r).Sublist os) := by
  constructor
  · rintro rfl
    exact (List.cons_sublist_cons.1 h).trans (List.sublist_cons_self _ _)
  · intro hne
    cases h with
    | cons _ h => exact h
    | cons_cons _ h => exact absurd rfl hne
end Go.Proofs.YtepaaffebhinlaaDoor

/- within: are all of a list's entries among another one's, in its order? -/
namespace Go.Proofs.YtepaaffebhinlaaDoor
open Go.ChangeShapes Go.WideShapes Go.ChangeAt Go.RowKit Go.Shelf

theorem drop_at {α : Type} {l : List α} {k : Nat} {x : α} (h : l[k]? = some x) : l.drop k = x :: l.drop (k + 1) := by
  obtain ⟨hk, rfl⟩ := List.getElem?_eq_some_iff.1 h
  exact List.drop_eq_getElem_cons hk
theorem sub_at {α : Type} {l m : List α} {k j : Nat} {x y : α} (h : (l.drop k).Sublist (m.drop j)) (hx : l[k]? = some x) (hy : m[j]? = some y) : (x = y → (l.drop (k + 1)).Sublist (m.drop j)) ∧ (x ≠ y → (l.drop k).Sublist (m.drop (j + 1))) := by
  rw [drop_at hx, drop_at hy] at h
  have h2 := sub_step h
  rw [drop_at hx, drop_at hy]
  exact h2
theorem sub_more {α : Type} {l m : List α} {k j : Nat} (h : (l.drop k).Sublist (m.drop j)) (hk : k < l.length) : j < m.length := by
  have h1 := h.length_le
  simp only [List.length_drop] at h1
  omega

set_option maxRecDepth 100000 in
set_option maxHeartbeats 8000000 in
theorem within_any {w : World} {hi hi2 : Nat} {A B : Option Addr} {c c2 : Nat} {L O : List (Ent × Hd)} (hL : Es w 0 hi A L) (hhi : hi ≤ w.heap.size) (hO : Es w 0 hi2 B O) (hhi2 : hi2 ≤ w.heap.size) (hl : L.length ≤ 1000000) (hl2 : O.length ≤ 1000000)
    (hsub : (L.map Prod.fst).Sublist (O.map Prod.fst)) :
    Calls Tryd.prog 31 #[.slice A L.length c, .slice B O.length c2] w fun e w' => e = .returned (.bool true) ∧ Ext w w' := by
  have HL := Lib.hid hL
  have HO := Lib.hid hO
  have HSUB := Lib.hid hsub
  have hlI : (L.length : Int) ≤ 1000000 := by omega
  have hoI : (O.length : Int) ≤ 1000000 := by omega
  clear hL hO hsub hl hl2
  go_enter Tryd.func31, Tryd.ntmps31
  go_wp2_with fail
  go_loopg [5, 6] (L.length + 1) (fun gh a i wr => ∃ (k j : Nat), gh + k = L.length + 1 ∧ k ≤ L.length ∧ j ≤ O.length ∧ i = .int .i64 (k : Int) ∧ a = .int .i64 (j : Int) ∧ Hid (((L.map Prod.fst).drop k).Sublist ((O.map Prod.fst).drop j)) ∧ Hid (Ext w wr))
  case atStart => exact ⟨0, 0, rfl, Nat.zero_le _, Nat.zero_le _, rfl, rfl, by simpa using HSUB, Lib.hid (Ext.refl _)⟩
  case round =>
    obtain ⟨k, j0, hgk, hk, hj0, rfl, rfl, HS0, HX0⟩ := hrel
    have HGK := Lib.hid hgk
    clear hgk
    by_cases hlt : k < L.length
    · have d : decide ((k : Int) < (L.length : Int)) = true := decide_eq_true (by omega)
      have dn : decide (k < L.length) = true := decide_eq_true hlt
      obtain ⟨b, o, rfl⟩ := HL.out.base (by omega)
      obtain ⟨p, hp⟩ : ∃ p, L[k]? = some p := ⟨_, List.getElem?_eq_getElem hlt⟩
      have HP := Lib.hid hp
      have hp1 : (L.map Prod.fst)[k]? = some p.1 := by rw [List.getElem?_map, hp]; rfl
      have HP1 := Lib.hid hp1
      have hj0' : j0 < O.length := by
        have h := sub_more HS0.out (by rw [List.length_map]; exact hlt)
        rw [List.length_map] at h; exact h
      obtain ⟨b2, o2, rfl⟩ := HO.out.base (by omega)
      clear hp hp1 hj0'
      go_wp2_with fail
      go_loopw [5] (fun a wr => ∃ j : Nat, j ≤ O.length ∧ a = .int .i64 (j : Int) ∧ Hid (((L.map Prod.fst).drop k).Sublist ((O.map Prod.fst).drop j)) ∧ Hid (Ext w wr)) (fun a _ => O.length - (intOf a).toNat)
      case atStart => exact ⟨j0, hj0, rfl, HS0, HX0⟩
      case round =>
        obtain ⟨j, hj, rfl, HSJ, HXJ⟩ := hrel
        have hjl : j < O.length := by
          have h := sub_more HSJ.out (by rw [List.length_map]; exact hlt)
          rw [List.length_map] at h; exact h
        have d1 : decide ((j : Int) < (O.length : Int)) = true := decide_eq_true (by omega)
        have d2 : decide (j < O.length) = true := decide_eq_true hjl
        obtain ⟨q, hq⟩ : ∃ q, O[j]? = some q := ⟨_, List.getElem?_eq_getElem hjl⟩
        have hq1 : (O.map Prod.fst)[j]? = some q.1 := by rw [List.getElem?_map, hq]; rfl
        have HSA := Lib.hid (sub_at HSJ.out HP1.out hq1)
        obtain ⟨c0, c1, c2', c3⟩ := (HL.out.below HXJ.out hhi).get HP.out
        obtain ⟨e0, e1, e2, e3⟩ := (HO.out.below HXJ.out hhi2).get hq
        obtain ⟨z, hz⟩ : ∃ z : Bool, (z = true ↔ q.1 = p.1) := by
          by_cases h : q.1 = p.1
          · exact ⟨true, by simp [h]⟩
          · exact ⟨false, by simp [h]⟩
        have HZ := Lib.hid hz
        have HQ := Lib.hid hq
        have HRS : Hid (∀ u, Ext _ u → Calls Tryd.prog 22 #[.agg #[.slice q.2.kA q.1.key.length q.2.kc, .int .i64 q.1.seq, .int .i64 q.1.kind, .slice q.2.vA q.1.val.length q.2.vc], .agg #[.slice p.2.kA p.1.key.length p.2.kc, .int .i64 p.1.seq, .int .i64 p.1.kind, .slice p.2.vA p.1.val.length p.2.vc]] u fun x w' => x = .returned (.bool z) ∧ Ext u w') := fun u hu => by
          have hxu := Ext.trans HXJ.out hu
          refine (rsame_any ((HO.out.below hxu hhi2).each q (List.mem_of_getElem? HQ.out)) ((HL.out.below hxu hhi).each p (List.mem_of_getElem? HP.out)) (Nat.le_trans hhi2 hxu.size) (Nat.le_trans hhi hxu.size)).mono ?_
          rintro x w' ⟨y, hy, rfl, hx⟩
          have : y = z := by
            cases y <;> cases z
            · rfl
            · exact absurd (hy.2 (HZ.out.1 rfl)) (by decide)
            · exact absurd (HZ.out.2 (hy.1 rfl)) (by decide)
            · rfl
          rw [this]
          exact ⟨rfl, hx⟩
        have n1 : (0 : Int) ≤ (j : Int) := by omega
        have n2 : (j : Int) < (O.length : Int) := by omega
        have n3 : (0 : Int) ≤ (k : Int) := by omega
        have n4 : (k : Int) < (L.length : Int) := by omega
        have HJL := Lib.hid hjl
        have HKL := Lib.hid hlt
        clear hq hq1 hz hjl hlt hj hk hj0
        go_upto_region 5 with (fail)
        refine flow (by kernel_rfl) [Is (.int .i64 (j : Int)), Is (.slice (some ⟨b2, o2, none⟩) O.length c2), Is (.int .i64 (O.length : Int)), Is (.bool true), Is (.bool true), Is (.slice (some ⟨b2, o2, none⟩) O.length c2), Is (.int .i64 (j : Int)), Is (.pointer (some ⟨b2, o2 + j * 4, none⟩)), Is (.agg #[.slice q.2.kA q.1.key.length q.2.kc, .int .i64 q.1.seq, .int .i64 q.1.kind, .slice q.2.vA q.1.val.length q.2.vc]), Is (.slice (some ⟨b, o, none⟩) L.length c), Is (.int .i64 (k : Int)), Is (.pointer (some ⟨b, o + k * 4, none⟩)), Is (.agg #[.slice p.2.kA p.1.key.length p.2.kc, .int .i64 p.1.seq, .int .i64 p.1.kind, .slice p.2.vA p.1.val.length p.2.vc]), Is (.bool z), Is (.bool !z), Is (.bool !z)] (by kernel_rfl) (by kernel_rfl) ?mono (fun f1 => ?obl) ?fin
        case mono =>
          simp only [List.forall_mem_cons, List.not_mem_nil, false_imp_iff, implies_true, and_true]
          exact ⟨.is _, .is _, .is _, .is _, .is _, .is _, .is _, .is _, .is _, .is _, .is _, .is _, .is _, .is _, .is _, .is _⟩
        case fin =>
          intro g1 u hu hg
          simp only [puts, Act.put, List.setIfInBounds_toArray, List.set_cons_zero, List.set_cons_succ]
          have h15 : g1 15 = .bool !z := hg 15 (by decide)
          rw [h15]
          have HXU : Hid (Ext w u) := Ext.trans HXJ.out (Ext.trans (Ext.drew wr) hu)
          clear hg hu h15 c0 c1 c2' c3 e0 e1 e2 e3
          cases z with
          | true =>
            have HNX : Hid (((L.map Prod.fst).drop (k + 1)).Sublist ((O.map Prod.fst).drop j)) := HSA.out.1 (HZ.out.1 rfl).symm
            have x1 : ((j : Int) == (O.length : Int)) = false := by simp; omega
            go_wp2_with fail
            go_roundg (L.length + 1 - (k + 1))
            case rel => exact ⟨k + 1, j, by have := HKL.out; omega, by have := HKL.out; omega, by have := HJL.out; omega, by go_num, rfl, HNX, HXU⟩
            case measure => have := HKL.out; have := HGK.out; omega
          | false =>
            have HNX : Hid (((L.map Prod.fst).drop k).Sublist ((O.map Prod.fst).drop (j + 1))) := HSA.out.2 (fun h => absurd (HZ.out.2 h.symm) (by decide))
            go_wp2_with fail
            go_roundw
            case rel => exact ⟨j + 1, by have := HJL.out; omega, by go_num, HNX, HXU⟩
            case measure => have := HJL.out; simp [intOf]; omega
        case obl =>
          refine ⟨fun u hu hd => ?_, ?_⟩
          · go_simp
            exact ⟨Ext.refl _, rfl⟩
          refine ⟨fun u hu hd => ?_, ?_⟩
          · simp only [Act.put, List.setIfInBounds_toArray, List.set_cons_zero, List.set_cons_succ]
            go_simp
            exact ⟨Ext.refl _, rfl⟩
          refine ⟨fun u hu hd => ?_, ?_⟩
          · simp only [Act.put, List.setIfInBounds_toArray, List.set_cons_zero, List.set_cons_succ]
            have e1 : f1 1 = .slice (some ⟨b2, o2, none⟩) O.length c2 := hd 1 (by kernel_rfl)
            go_simp
            exact ⟨Ext.refl _, rfl⟩
          refine ⟨fun u hu hd => ?_, ?_⟩
          · simp only [Act.put, List.setIfInBounds_toArray, List.set_cons_zero, List.set_cons_succ]
            have e0 : f1 0 = .int .i64 (j : Int) := hd 0 (by kernel_rfl)
            have e2 : f1 2 = .int .i64 (O.length : Int) := hd 2 (by kernel_rfl)
            go_simp
            exact ⟨Ext.refl _, rfl⟩
          refine ⟨fun u hu hd => ?_, ?_⟩
          · simp only [Act.put, List.setIfInBounds_toArray, List.set_cons_zero, List.set_cons_succ]
            have e3 : f1 3 = .bool true := hd 3 (by kernel_rfl)
            go_simp
            exact ⟨Ext.refl _, rfl⟩
          refine ⟨fun u hu hd => ?_, ?_⟩
          · simp only [Act.put, List.setIfInBounds_toArray, List.set_cons_zero, List.set_cons_succ]
            have e4 : f1 4 = .bool true := hd 4 (by kernel_rfl)
            go_simp
            exact ⟨Ext.refl _, rfl⟩
          refine ⟨fun u hu hd => ?_, ?_⟩
          · simp only [Act.put, List.setIfInBounds_toArray, List.set_cons_zero, List.set_cons_succ]
            have e4 : f1 4 = .bool true := hd 4 (by kernel_rfl)
            go_simp
            exact ⟨Ext.refl _, rfl⟩
          refine ⟨fun u hu hd => ?_, ?_⟩
          · simp only [Act.put, List.setIfInBounds_toArray, List.set_cons_zero, List.set_cons_succ]
            have e4 : f1 4 = .bool true := hd 4 (by kernel_rfl)
            have e5 : f1 5 = .slice (some ⟨b2, o2, none⟩) O.length c2 := hd 5 (by kernel_rfl)
            have e6 : f1 6 = .int .i64 (j : Int) := hd 6 (by kernel_rfl)
            go_simp
            exact ⟨Ext.refl _, rfl⟩
          refine ⟨fun u hu hd => ?_, ?_⟩
          · simp only [Act.put, List.setIfInBounds_toArray, List.set_cons_zero, List.set_cons_succ]
            have e4 : f1 4 = .bool true := hd 4 (by kernel_rfl)
            have e7 : f1 7 = .pointer (some ⟨b2, o2 + j * 4, none⟩) := hd 7 (by kernel_rfl)
            have hu2 := Ext.trans (Ext.drew wr) hu
            have q0 := ext_cell hu2 e0
            have q1 := ext_cell hu2 e1
            have q2 := ext_cell hu2 e2
            have q3 := ext_cell hu2 e3
            go_simp
            exact ⟨Ext.refl _, rfl⟩
          refine ⟨fun u hu hd => ?_, ?_⟩
          · simp only [Act.put, List.setIfInBounds_toArray, List.set_cons_zero, List.set_cons_succ]
            have e4 : f1 4 = .bool true := hd 4 (by kernel_rfl)
            go_simp
            exact ⟨Ext.refl _, rfl⟩
          refine ⟨fun u hu hd => ?_, ?_⟩
          · simp only [Act.put, List.setIfInBounds_toArray, List.set_cons_zero, List.set_cons_succ]
            have e4 : f1 4 = .bool true := hd 4 (by kernel_rfl)
            go_simp
            exact ⟨Ext.refl _, rfl⟩
          refine ⟨fun u hu hd => ?_, ?_⟩
          · simp only [Act.put, List.setIfInBounds_toArray, List.set_cons_zero, List.set_cons_succ]
            have e4 : f1 4 = .bool true := hd 4 (by kernel_rfl)
            have e9 : f1 9 = .slice (some ⟨b, o, none⟩) L.length c := hd 9 (by kernel_rfl)
            have e10 : f1 10 = .int .i64 (k : Int) := hd 10 (by kernel_rfl)
            go_simp
            exact ⟨Ext.refl _, rfl⟩
          refine ⟨fun u hu hd => ?_, ?_⟩
          · simp only [Act.put, List.setIfInBounds_toArray, List.set_cons_zero, List.set_cons_succ]
            have e4 : f1 4 = .bool true := hd 4 (by kernel_rfl)
            have e11 : f1 11 = .pointer (some ⟨b, o + k * 4, none⟩) := hd 11 (by kernel_rfl)
            have hu2 := Ext.trans (Ext.drew wr) hu
            have q0 := ext_cell hu2 c0
            have q1 := ext_cell hu2 c1
            have q2 := ext_cell hu2 c2'
            have q3 := ext_cell hu2 c3
            go_simp
            exact ⟨Ext.refl _, rfl⟩
          refine ⟨fun u hu hd => ?_, ?_⟩
          · simp only [Act.put, List.setIfInBounds_toArray, List.set_cons_zero, List.set_cons_succ]
            have e4 : f1 4 = .bool true := hd 4 (by kernel_rfl)
            have e8 : f1 8 = .agg #[.slice q.2.kA q.1.key.length q.2.kc, .int .i64 q.1.seq, .int .i64 q.1.kind, .slice q.2.vA q.1.val.length q.2.vc] := hd 8 (by kernel_rfl)
            have e12 : f1 12 = .agg #[.slice p.2.kA p.1.key.length p.2.kc, .int .i64 p.1.seq, .int .i64 p.1.kind, .slice p.2.vA p.1.val.length p.2.vc] := hd 12 (by kernel_rfl)
            have hu2 := Ext.trans (Ext.drew wr) hu
            go_simp
            refine (HRS.out u hu2).mono ?_
            rintro x w9 ⟨rfl, hx9⟩
            exact ⟨_, rfl, hx9, rfl⟩
          refine ⟨fun u hu hd => ?_, ?_⟩
          · simp only [Act.put, List.setIfInBounds_toArray, List.set_cons_zero, List.set_cons_succ]
            have e4 : f1 4 = .bool true := hd 4 (by kernel_rfl)
            have e13 : f1 13 = .bool z := hd 13 (by kernel_rfl)
            go_simp
            exact ⟨Ext.refl _, rfl⟩
          refine ⟨fun u hu hd => ?_, ?_⟩
          · simp only [Act.put, List.setIfInBounds_toArray, List.set_cons_zero, List.set_cons_succ]
            have e4 : f1 4 = .bool true := hd 4 (by kernel_rfl)
            have e14 : f1 14 = .bool !z := hd 14 (by kernel_rfl)
            go_simp
            exact ⟨Ext.refl _, rfl⟩
          trivial
    · have d : decide ((k : Int) < (L.length : Int)) = false := decide_eq_false (by omega)
      have dn : decide (k < L.length) = false := decide_eq_false hlt
      go_wp2_with fail
      go_ret
      exact ⟨rfl, HX0.out⟩
end Go.Proofs.YtepaaffebhinlaaDoor

/- levels: each level's entries are among those of the level below. -/
namespace Go.Proofs.YtepaaffebhinlaaDoor
open Go.ChangeShapes Go.WideShapes Go.ChangeAt Go.RowKit Go.Shelf

theorem filter_sub {α : Type} (l : List α) (p q : α → Bool) (h : ∀ x, p x = true → q x = true) : (l.filter p).Sublist (l.filter q) := by
  have e : l.filter p = (l.filter q).filter p := by
    rw [List.filter_filter]
    refine List.filter_congr fun x _ => ?_
    cases hp : p x with
    | false => rfl
    | true => rw [h x hp]; rfl
  rw [e]
  exact List.filter_sublist
theorem row_sub (T : List Tw) (q : Ent → Bool) (n : Nat) : ((rowOf T q (n + 1)).map Tw.e).Sublist ((rowOf T q n).map Tw.e) := by
  refine List.Sublist.map _ (filter_sub _ _ _ fun t ht => ?_)
  simp only [decide_eq_true_eq] at ht ⊢
  omega
theorem row_short {T : List Tw} {q : Ent → Bool} {n : Nat} : (rowOf T q n).length ≤ T.length := by
  unfold rowOf
  exact Nat.le_trans (List.length_filter_le _ _) (by rw [List.length_drop]; omega)

set_option maxRecDepth 100000 in
set_option maxHeartbeats 8000000 in
theorem levels_any {w : World} {D : Nat → Prop} {lb hb : Nat} {T : List Tw} (h : Sk w D lb hb T) (hfew : T.length ≤ 1000000) :
    Calls Tryd.prog 9 #[.pointer (some ⟨lb, 0, none⟩)] w fun e w' => e = .returned (.bool true) ∧ Ext w w' := by
  have HLV : Hid (∀ u, Ext w u → ∀ n : Nat, n < 8 → Calls Tryd.prog 30 #[.pointer (some ⟨lb, 0, none⟩), .int .i64 (n : Int)] u fun e w' => ∃ (X : Option Addr) (c : Nat) (R : List (Ent × Hd)), e = .returned (.tuple #[.slice X R.length c, .bool true]) ∧ Got u.heap.size (.slice X R.length c) R w' ∧ R.map Prod.fst = (rowOf T nobodyE n).map Tw.e ∧ Below u.heap.size u w') :=
    fun u hu n hn => level_any (h.ext hu) hn hfew
  have HFEW := Lib.hid hfew
  clear h hfew
  go_enter Tryd.func9, Tryd.ntmps9
  go_wp2_with fail
  go_loopw [3, 4] (fun b n wr => ∃ (k : Nat) (X : Option Addr) (c : Nat) (R : List (Ent × Hd)), k ≤ 8 ∧ n = .int .i64 (k : Int) ∧ b = .slice X R.length c ∧ Hid (Got w.heap.size (.slice X R.length c) R wr) ∧ Hid (∀ m, k = m + 1 → R.map Prod.fst = (rowOf T nobodyE m).map Tw.e) ∧ Hid (Ext w wr)) (fun _ n _ => 8 - (intOf n).toNat)
  case atStart => exact ⟨0, none, 0, [], Nat.zero_le _, rfl, rfl, Lib.hid (Got.nil _ _), Lib.hid (fun m hm => by omega), Lib.hid (Ext.refl _)⟩
  case round =>
    obtain ⟨k, X, c, R, hk, rfl, rfl, HG, HR, HX⟩ := hrel
    by_cases hlt : k < 8
    · have d : decide ((k : Int) < 8) = true := decide_eq_true (by omega)
      have dn : decide (k < 8) = true := decide_eq_true hlt
      have HL := Lib.hid (HLV.out _ HX.out k hlt)
      go_wp2_with fail
      refine Calls.mono HL.out ?_
      rintro e w2 ⟨X2, c2, R2, rfl, hg2, hr2, hx2⟩
      have HX2 : Hid (Ext _ w2) := hx2
      have HXW : Hid (Ext w w2) := Ext.trans HX.out hx2
      have HG2 : Hid (Got w.heap.size (.slice X2 R2.length c2) R2 w2) := hg2.base HX.out.size
      have HR2 := Lib.hid hr2
      have HL2 : Hid (R2.length ≤ 1000000) := by
        have h1 := congrArg List.length hr2
        simp only [List.length_map] at h1
        have := row_short (T := T) (q := nobodyE) (n := k)
        have := HFEW.out
        unfold Hid; omega
      clear hg2 hr2 hx2 HL
      cases k with
      | zero =>
        have d0 : decide ((0 : Int) < ((0 : Nat) : Int)) = false := by decide
        go_wp2_with fail
        go_roundw
        case rel => exact ⟨1, X2, c2, R2, by omega, by go_num, rfl, HG2, Lib.hid (fun m hm => by obtain rfl : m = 0 := (by omega); exact HR2.out), HXW⟩
        case measure => simp [intOf]
      | succ k =>
        have d0 : decide ((0 : Int) < ((k + 1 : Nat) : Int)) = true := decide_eq_true (by omega)
        have d1 : decide (0 < k + 1) = true := decide_eq_true (by omega)
        have HG1 := Lib.hid (HG.out.below HX2.out)
        have HL1 : Hid (R.length ≤ 1000000) := by
          have h1 := congrArg List.length (HR.out k rfl)
          simp only [List.length_map] at h1
          have := row_short (T := T) (q := nobodyE) (n := k)
          have := HFEW.out
          unfold Hid; omega
        have HW : Hid (Calls Tryd.prog 31 #[.slice X2 R2.length c2, .slice X R.length c] w2 fun e w' => e = .returned (.bool true) ∧ Ext w2 w') :=
          within_any HG2.out.rs (Nat.le_refl _) HG1.out.rs (Nat.le_refl _) HL2.out HL1.out (by rw [HR2.out, HR.out k rfl]; exact row_sub T nobodyE k)
        go_wp2_with fail
        refine Calls.mono HW.out ?_
        rintro e w3 ⟨rfl, hx3⟩
        have HX3 : Hid (Ext w w3) := Ext.trans HXW.out hx3
        have HG3 := Lib.hid (HG2.out.below hx3)
        clear hx3 HW
        go_wp2_with fail
        go_roundw
        case rel => exact ⟨k + 1 + 1, X2, c2, R2, by omega, by go_num, rfl, HG3, Lib.hid (fun m hm => by obtain rfl : m = k + 1 := (by omega); exact HR2.out), HX3⟩
        case measure => simp [intOf]; omega
    · have d : decide ((k : Int) < 8) = false := decide_eq_false (by omega)
      have dn : decide (k < 8) = false := decide_eq_false hlt
      go_wp2_with fail
      go_ret
      exact ⟨rfl, HX.out⟩
end Go.Proofs.YtepaaffebhinlaaDoor

/- few: are they few enough to be gone through? -/
namespace Go.Proofs.YtepaaffebhinlaaDoor
open Go.ChangeShapes Go.WideShapes Go.ChangeAt Go.RowKit

/-- Are they much, as the laws ask it? -/
def Much2Ans (L : List (Ent × Hd)) (z : Bool) : Prop := z = false → L.length ≤ 200000 ∧ ∀ p ∈ L, p.1.key.length + p.1.val.length < 200000

set_option maxRecDepth 100000 in
set_option maxHeartbeats 4000000 in
theorem much2_any {w : World} {lo hi : Nat} {A : Option Addr} {c : Nat} {L : List (Ent × Hd)} (h : Es w lo hi A L) (hhi : hi ≤ w.heap.size) (hlen : L.length ≤ 4000000000000) (hln : ∀ p ∈ L, p.1.key.length ≤ 140737488351232 ∧ p.1.val.length ≤ 140737488351232) :
    Calls Tryd.prog 26 #[.slice A L.length c, .int .i64 200000] w fun x w' => ∃ z : Bool, Much2Ans L z ∧ x = .returned (.bool z) ∧ Ext w w' := by
  have HE := Lib.hid h
  have HHI := Lib.hid hhi
  have HL := Lib.hid hlen
  have HLN := Lib.hid hln
  clear h hhi hlen hln
  go_enter Tryd.func26, Tryd.ntmps26
  go_wp2_with fail
  go_loopw [5, 6] (fun a b wr => ∃ s i : Nat, a = .int .i64 (s : Int) ∧ b = .int .i64 (i : Int) ∧ i ≤ L.length ∧ s ≤ 900000 ∧ Hid (s ≤ 200000 → i ≤ s ∧ ∀ p ∈ L.take i, p.1.key.length + p.1.val.length < s) ∧ Hid (Ext w wr)) (fun _ b _ => L.length - (intOf b).toNat)
  case atStart => exact ⟨0, 0, rfl, rfl, by omega, by omega, fun _ => ⟨by omega, by simp⟩, Lib.hid (Ext.refl _)⟩
  case round =>
    obtain ⟨s, i, rfl, rfl, hm, hs, HR, HX⟩ := hrel
    by_cases hlt : i < L.length
    · have d : decide ((i : Int) < (L.length : Int)) = true := decide_eq_true (by omega)
      have dn : decide (i < L.length) = true := decide_eq_true hlt
      by_cases hs1 : s ≤ 200000
      · have t : decide ((s : Int) ≤ 200000) = true := decide_eq_true (by omega)
        have tn : decide (s ≤ 200000) = true := decide_eq_true hs1
        obtain ⟨b, o, hA⟩ := HE.out.base (by omega)
        subst hA
        obtain ⟨p, hp⟩ : ∃ p, L[i]? = some p := ⟨_, List.getElem?_eq_getElem hlt⟩
        obtain ⟨c0, c1, c2, c3⟩ := (HE.out.below HX.out HHI.out).get hp
        have HP := Lib.hid hp
        have HLP := Lib.hid (HLN.out p (List.mem_of_getElem? hp))
        have n1 : (0 : Int) ≤ (i : Int) := by omega
        have n2 : (i : Int) < (L.length : Int) := by omega
        obtain ⟨x, hx⟩ : ∃ x, x = min p.1.key.length 200001 := ⟨_, rfl⟩
        obtain ⟨y, hy⟩ : ∃ y, y = min p.1.val.length 200001 := ⟨_, rfl⟩
        have HMX : Hid ((min (p.1.key.length : Int) 200001) = (x : Int)) := by unfold Hid; omega
        have HMY : Hid ((min (p.1.val.length : Int) 200001) = (y : Int)) := by unfold Hid; omega
        have HXY := Lib.hid (And.intro hx hy)
        have HS1 := Lib.hid hs1
        clear hp c1 c2 hx hy
        go_upto_region 5 with (fail)
        refine flow (by kernel_rfl) [Is (.int .i64 (s : Int)), Is (.int .i64 ((s : Int) + 1)), Is (.slice (some ⟨b, o, none⟩) L.length c), Is (.int .i64 (i : Int)), Is (.pointer (some ⟨b, o + i * 4, none⟩)), Is (.pointer (some ⟨b, o + i * 4, none⟩)), Is (.slice p.2.kA p.1.key.length p.2.kc), Is (.int .i64 (p.1.key.length : Int)), Is (.int .i64 (200000 : Int)), Is (.int .i64 (200001 : Int)), Is (.int .i64 (x : Int)), Is (.int .i64 ((s : Int) + 1 + (x : Int))), Is (.slice (some ⟨b, o, none⟩) L.length c), Is (.int .i64 (i : Int)), Is (.pointer (some ⟨b, o + i * 4, none⟩)), Is (.pointer (some ⟨b, o + i * 4 + 3, none⟩)), Is (.slice p.2.vA p.1.val.length p.2.vc), Is (.int .i64 (p.1.val.length : Int)), Is (.int .i64 (200000 : Int)), Is (.int .i64 (200001 : Int)), Is (.int .i64 (y : Int)), Is (.int .i64 ((s : Int) + 1 + (x : Int) + (y : Int))), Is (.int .i64 ((s : Int) + 1 + (x : Int) + (y : Int)))] (by kernel_rfl) (by kernel_rfl) ?mono (fun f1 => ?obl) ?fin
        case mono =>
          simp only [List.forall_mem_cons, List.not_mem_nil, false_imp_iff, implies_true, and_true]
          exact ⟨.is _, .is _, .is _, .is _, .is _, .is _, .is _, .is _, .is _, .is _, .is _, .is _, .is _, .is _, .is _, .is _, .is _, .is _, .is _, .is _, .is _, .is _, .is _⟩
        case fin =>
          intro g1 u hu hg
          simp only [puts, Act.put, List.setIfInBounds_toArray, List.set_cons_zero, List.set_cons_succ]
          have h22 : g1 22 = .int .i64 ((s : Int) + 1 + (x : Int) + (y : Int)) := hg 22 (by decide)
          rw [h22]
          have HXU : Hid (Ext w u) := Ext.trans HX.out (Ext.trans (Ext.drew wr) hu)
          have hL := HL.out
          clear h22 hg hu c0 c3
          go_wp2_with fail
          go_roundw
          case rel =>
            have hxy := HXY.out
            have hs1 := HS1.out
            refine ⟨s + 1 + x + y, i + 1, by simp, by go_num, by omega, by omega, Lib.hid fun hle => ?_, HXU⟩
            obtain ⟨h1, h2⟩ := HR.out hs1
            refine ⟨by omega, fun q hq => ?_⟩
            rw [List.take_succ_eq_append_getElem hlt, List.mem_append, List.mem_singleton] at hq
            rcases hq with hq | hq
            · have := h2 q hq; omega
            · have hpe : q = p := by rw [hq]; exact (List.getElem?_eq_some_iff.1 HP.out).2
              subst hpe
              omega
          case measure => simp [intOf]; omega
        case obl =>
          refine ⟨fun u hu hd => ?_, ?_⟩
          · go_simp
            exact ⟨Ext.refl _, rfl⟩
          refine ⟨fun u hu hd => ?_, ?_⟩
          · simp only [Act.put, List.setIfInBounds_toArray, List.set_cons_zero, List.set_cons_succ]
            have e0 : f1 0 = .int .i64 (s : Int) := hd 0 (by kernel_rfl)
            have q : IntKind.i64.wrap ((s : Int) + 1) = (s : Int) + 1 := by rw [IntKind.wrap_i64]; omega
            go_simp
            exact ⟨Ext.refl _, rfl⟩
          refine ⟨fun u hu hd => ?_, ?_⟩
          · simp only [Act.put, List.setIfInBounds_toArray, List.set_cons_zero, List.set_cons_succ]
            go_simp
            exact ⟨Ext.refl _, rfl⟩
          refine ⟨fun u hu hd => ?_, ?_⟩
          · simp only [Act.put, List.setIfInBounds_toArray, List.set_cons_zero, List.set_cons_succ]
            go_simp
            exact ⟨Ext.refl _, rfl⟩
          refine ⟨fun u hu hd => ?_, ?_⟩
          · simp only [Act.put, List.setIfInBounds_toArray, List.set_cons_zero, List.set_cons_succ]
            have e2 : f1 2 = .slice (some ⟨b, o, none⟩) L.length c := hd 2 (by kernel_rfl)
            have e3 : f1 3 = .int .i64 (i : Int) := hd 3 (by kernel_rfl)
            go_simp
            exact ⟨Ext.refl _, rfl⟩
          refine ⟨fun u hu hd => ?_, ?_⟩
          · simp only [Act.put, List.setIfInBounds_toArray, List.set_cons_zero, List.set_cons_succ]
            have e4 : f1 4 = .pointer (some ⟨b, o + i * 4, none⟩) := hd 4 (by kernel_rfl)
            go_simp
            exact ⟨Ext.refl _, rfl⟩
          refine ⟨fun u hu hd => ?_, ?_⟩
          · simp only [Act.put, List.setIfInBounds_toArray, List.set_cons_zero, List.set_cons_succ]
            have e5 : f1 5 = .pointer (some ⟨b, o + i * 4, none⟩) := hd 5 (by kernel_rfl)
            have hu2 := Ext.trans (Ext.drew wr) hu
            have q0 := ext_cell hu2 c0
            go_simp
            exact ⟨Ext.refl _, rfl⟩
          refine ⟨fun u hu hd => ?_, ?_⟩
          · simp only [Act.put, List.setIfInBounds_toArray, List.set_cons_zero, List.set_cons_succ]
            have e6 : f1 6 = .slice p.2.kA p.1.key.length p.2.kc := hd 6 (by kernel_rfl)
            go_simp
            exact ⟨Ext.refl _, rfl⟩
          refine ⟨fun u hu hd => ?_, ?_⟩
          · simp only [Act.put, List.setIfInBounds_toArray, List.set_cons_zero, List.set_cons_succ]
            go_simp
            exact ⟨Ext.refl _, rfl⟩
          refine ⟨fun u hu hd => ?_, ?_⟩
          · simp only [Act.put, List.setIfInBounds_toArray, List.set_cons_zero, List.set_cons_succ]
            have e8 : f1 8 = .int .i64 (200000 : Int) := hd 8 (by kernel_rfl)
            go_simp
            exact ⟨Ext.refl _, rfl⟩
          refine ⟨fun u hu hd => ?_, ?_⟩
          · simp only [Act.put, List.setIfInBounds_toArray, List.set_cons_zero, List.set_cons_succ]
            have e7 : f1 7 = .int .i64 (p.1.key.length : Int) := hd 7 (by kernel_rfl)
            have e9 : f1 9 = .int .i64 (200001 : Int) := hd 9 (by kernel_rfl)
            have q := HMX.out
            go_simp
            exact ⟨Ext.refl _, rfl⟩
          refine ⟨fun u hu hd => ?_, ?_⟩
          · simp only [Act.put, List.setIfInBounds_toArray, List.set_cons_zero, List.set_cons_succ]
            have e1 : f1 1 = .int .i64 ((s : Int) + 1) := hd 1 (by kernel_rfl)
            have e10 : f1 10 = .int .i64 (x : Int) := hd 10 (by kernel_rfl)
            have q1 : x ≤ 200001 ∧ y ≤ 200001 := by have := HXY.out; omega
            have q : IntKind.i64.wrap ((s : Int) + 1 + (x : Int)) = (s : Int) + 1 + (x : Int) := by rw [IntKind.wrap_i64]; omega
            go_simp
            exact ⟨Ext.refl _, rfl⟩
          refine ⟨fun u hu hd => ?_, ?_⟩
          · simp only [Act.put, List.setIfInBounds_toArray, List.set_cons_zero, List.set_cons_succ]
            go_simp
            exact ⟨Ext.refl _, rfl⟩
          refine ⟨fun u hu hd => ?_, ?_⟩
          · simp only [Act.put, List.setIfInBounds_toArray, List.set_cons_zero, List.set_cons_succ]
            go_simp
            exact ⟨Ext.refl _, rfl⟩
          refine ⟨fun u hu hd => ?_, ?_⟩
          · simp only [Act.put, List.setIfInBounds_toArray, List.set_cons_zero, List.set_cons_succ]
            have e12 : f1 12 = .slice (some ⟨b, o, none⟩) L.length c := hd 12 (by kernel_rfl)
            have e13 : f1 13 = .int .i64 (i : Int) := hd 13 (by kernel_rfl)
            go_simp
            exact ⟨Ext.refl _, rfl⟩
          refine ⟨fun u hu hd => ?_, ?_⟩
          · simp only [Act.put, List.setIfInBounds_toArray, List.set_cons_zero, List.set_cons_succ]
            have e14 : f1 14 = .pointer (some ⟨b, o + i * 4, none⟩) := hd 14 (by kernel_rfl)
            go_simp
            exact ⟨Ext.refl _, rfl⟩
          refine ⟨fun u hu hd => ?_, ?_⟩
          · simp only [Act.put, List.setIfInBounds_toArray, List.set_cons_zero, List.set_cons_succ]
            have e15 : f1 15 = .pointer (some ⟨b, o + i * 4 + 3, none⟩) := hd 15 (by kernel_rfl)
            have hu2 := Ext.trans (Ext.drew wr) hu
            have q0 := ext_cell hu2 c3
            go_simp
            exact ⟨Ext.refl _, rfl⟩
          refine ⟨fun u hu hd => ?_, ?_⟩
          · simp only [Act.put, List.setIfInBounds_toArray, List.set_cons_zero, List.set_cons_succ]
            have e16 : f1 16 = .slice p.2.vA p.1.val.length p.2.vc := hd 16 (by kernel_rfl)
            go_simp
            exact ⟨Ext.refl _, rfl⟩
          refine ⟨fun u hu hd => ?_, ?_⟩
          · simp only [Act.put, List.setIfInBounds_toArray, List.set_cons_zero, List.set_cons_succ]
            go_simp
            exact ⟨Ext.refl _, rfl⟩
          refine ⟨fun u hu hd => ?_, ?_⟩
          · simp only [Act.put, List.setIfInBounds_toArray, List.set_cons_zero, List.set_cons_succ]
            have e18 : f1 18 = .int .i64 (200000 : Int) := hd 18 (by kernel_rfl)
            go_simp
            exact ⟨Ext.refl _, rfl⟩
          refine ⟨fun u hu hd => ?_, ?_⟩
          · simp only [Act.put, List.setIfInBounds_toArray, List.set_cons_zero, List.set_cons_succ]
            have e17 : f1 17 = .int .i64 (p.1.val.length : Int) := hd 17 (by kernel_rfl)
            have e19 : f1 19 = .int .i64 (200001 : Int) := hd 19 (by kernel_rfl)
            have q := HMY.out
            go_simp
            exact ⟨Ext.refl _, rfl⟩
          refine ⟨fun u hu hd => ?_, ?_⟩
          · simp only [Act.put, List.setIfInBounds_toArray, List.set_cons_zero, List.set_cons_succ]
            have e11 : f1 11 = .int .i64 ((s : Int) + 1 + (x : Int)) := hd 11 (by kernel_rfl)
            have e20 : f1 20 = .int .i64 (y : Int) := hd 20 (by kernel_rfl)
            have q1 : x ≤ 200001 ∧ y ≤ 200001 := by have := HXY.out; omega
            have q : IntKind.i64.wrap ((s : Int) + 1 + (x : Int) + (y : Int)) = (s : Int) + 1 + (x : Int) + (y : Int) := by rw [IntKind.wrap_i64]; omega
            go_simp
            exact ⟨Ext.refl _, rfl⟩
          refine ⟨fun u hu hd => ?_, ?_⟩
          · simp only [Act.put, List.setIfInBounds_toArray, List.set_cons_zero, List.set_cons_succ]
            have e21 : f1 21 = .int .i64 ((s : Int) + 1 + (x : Int) + (y : Int)) := hd 21 (by kernel_rfl)
            go_simp
            exact ⟨Ext.refl _, rfl⟩
          trivial
      · have t : decide ((s : Int) ≤ 200000) = false := decide_eq_false (by omega)
        have tn : decide (s ≤ 200000) = false := decide_eq_false hs1
        have t2 : decide ((200000 : Int) < (s : Int)) = true := decide_eq_true (by omega)
        have t2n : decide (200000 < s) = true := decide_eq_true (by omega)
        clear hs1 hlt hm hs
        go_wp2_with fail
        go_ret
        exact ⟨true, fun h => (by cases h), rfl, HX.out⟩
    · have d : decide ((i : Int) < (L.length : Int)) = false := decide_eq_false (by omega)
      have dn : decide (i < L.length) = false := decide_eq_false hlt
      have HI : Hid (i = L.length) := by unfold Hid; omega
      by_cases hs1 : s ≤ 200000
      · have t2 : decide ((200000 : Int) < (s : Int)) = false := decide_eq_false (by omega)
        have t2n : decide (200000 < s) = false := decide_eq_false (by omega)
        have HS1 := Lib.hid hs1
        clear hs1 hlt hm hs
        go_wp2_with fail
        go_ret
        refine ⟨false, fun _ => ?_, rfl, HX.out⟩
        obtain ⟨h1, h2⟩ := HR.out HS1.out
        have h3 := HI.out
        have h4 := HS1.out
        rw [h3, List.take_length] at h2
        exact ⟨by omega, fun p hp => by have := h2 p hp; omega⟩
      · have t2 : decide ((200000 : Int) < (s : Int)) = true := decide_eq_true (by omega)
        have t2n : decide (200000 < s) = true := decide_eq_true (by omega)
        clear hs1 hlt hm hs
        go_wp2_with fail
        go_ret
        exact ⟨true, fun h => (by cases h), rfl, HX.out⟩


/-- Few entries. -/
def FewE (L : List (Ent × Hd)) : Prop := L.length ≤ 200 ∧ ∀ p ∈ L, p.1.key.length + p.1.val.length < 200000
set_option maxRecDepth 100000 in
set_option maxHeartbeats 4000000 in
theorem few_any {w : World} {lo hi : Nat} {A : Option Addr} {c : Nat} {L : List (Ent × Hd)} (h : Es w lo hi A L) (hhi : hi ≤ w.heap.size) (hlen : L.length ≤ 4000000000000) (hln : ∀ p ∈ L, p.1.key.length ≤ 140737488351232 ∧ p.1.val.length ≤ 140737488351232) :
    Calls Tryd.prog 6 #[.slice A L.length c] w fun x w' => ∃ z : Bool, (z = true → FewE L) ∧ x = .returned (.bool z) ∧ Ext w w' := by
  have HM := Lib.hid (much2_any (c := c) h hhi hlen hln)
  clear h hhi hln
  go_enter Tryd.func6, Tryd.ntmps6
  by_cases h1 : L.length ≤ 200
  · have d : decide ((L.length : Int) ≤ 200) = true := decide_eq_true (by omega)
    have dn : decide (L.length ≤ 200) = true := decide_eq_true h1
    have H1 := Lib.hid h1
    clear h1 hlen
    go_wp2_with fail
    refine Calls.mono HM.out ?_
    rintro x w' ⟨z, hz, rfl, hx⟩
    have HZ := Lib.hid hz
    have HX := Lib.hid hx
    clear hz hx
    cases z with
    | true =>
      go_wp2_with fail
      go_ret
      exact ⟨false, (fun h => by cases h), rfl, HX.out⟩
    | false =>
      go_wp2_with fail
      go_ret
      exact ⟨true, fun _ => ⟨H1.out, (HZ.out rfl).2⟩, rfl, HX.out⟩
  · have d : decide ((L.length : Int) ≤ 200) = false := decide_eq_false (by omega)
    have dn : decide (L.length ≤ 200) = false := decide_eq_false h1
    clear h1
    go_wp2_with fail
    go_ret
    exact ⟨false, (fun h => by cases h), rfl, Ext.refl _⟩
end Go.Proofs.YtepaaffebhinlaaDoor
