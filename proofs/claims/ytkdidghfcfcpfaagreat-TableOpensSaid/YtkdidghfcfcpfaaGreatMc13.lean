import Derived.Test.YtkdidghfcfcpfaaGreatMc12
import Derived.Laws.ResultCell
import Derived.RangeFuncLeaves
import Derived.Test.YtkdidghfcfcpfaaGreatMc5
import Derived.Test.YtkdidghfcfcpfaaGreatMc0
namespace Go.Proofs.YtkdidghfcfcpfaaGreat
open Go.ChangeShapes Go.WideShapes Go.ChangeAt Go.RowKit Go.Shelf
attribute [local go_sem] Oper.semAt_some
def tbcells (b p f : Value) (vf vt : Value) (ve : Bool) : Array Value := #[b, p, f, vf, vt, .bool ve]
theorem made_results {fn : Func} (hfn : fn.results = #[.cell 2 87, .tmp 3]) {tmps : Array Value} {w : World} {g : Nat} {c : Array Value} {k : Value} (h2 : tmps.getD 2 undef = .pointer (some ⟨g, 0, none⟩)) (h3 : tmps.getD 3 undef = k) (hg : w.heap[g]? = some (.cells c 87 (0, 0))) (hc : c.size = 6) :
    (results fn tmps).run Tryz.prog w = .ok (.tuple #[.agg c, k]) w := by
 have hi : (Tryz.prog.info? 87).map (·.size) = some 6 := by kernel_rfl
 have hl := run_loadVar_row (P := Tryz.prog) w g 87 87 c (0, 0) _ hg Tryz.underlying87 rfl (by rw [hc]; exact hi)
 have ha : (asAddr (.pointer (some ⟨g, 0, none⟩))).run Tryz.prog w = .ok ⟨g, 0, none⟩ w := rfl
 rw [results_cell_tmp hfn, h2, h3, ha, Result.andThen_ok, hl, Result.andThen_ok]
theorem set_six {u : World} {g : Nat} {a b c d e f x0 x1 x2 x3 x4 x5 : Value} {ty : TypeId} (h : u.heap[g]? = some (.cells #[a, b, c, d, e, f] ty (0, 0))) :
    ((((((u.setCell ⟨g, 0, none⟩ x0).setCell ⟨g, 1, none⟩ x1).setCell ⟨g, 2, none⟩ x2).setCell ⟨g, 3, none⟩ x3).setCell ⟨g, 4, none⟩ x4).setCell ⟨g, 5, none⟩ x5).heap[g]? = some (.cells #[x0, x1, x2, x3, x4, x5] ty (0, 0)) := by
 have h1 := heap_setCell_same u g 0 _ _ x0 h
 have h2 := heap_setCell_same _ g 1 _ _ x1 h1
 have h3 := heap_setCell_same _ g 2 _ _ x2 h2
 have h4 := heap_setCell_same _ g 3 _ _ x3 h3
 have h5 := heap_setCell_same _ g 4 _ _ x4 h4
 have h6 := heap_setCell_same _ g 5 _ _ x5 h5
 rw [h6]; rfl
theorem chg_six {u : World} {g : Nat} {x0 x1 x2 x3 x4 x5 : Value} : Chg (fun i => i = g) u ((((((u.setCell ⟨g, 0, none⟩ x0).setCell ⟨g, 1, none⟩ x1).setCell ⟨g, 2, none⟩ x2).setCell ⟨g, 3, none⟩ x3).setCell ⟨g, 4, none⟩ x4).setCell ⟨g, 5, none⟩ x5) :=
 ((((Chg.trans (S := fun i => i = g) (Chg.setCell u ⟨g, 0, none⟩ x0 rfl) (Chg.setCell _ ⟨g, 1, none⟩ x1 rfl)).trans (Chg.setCell _ ⟨g, 2, none⟩ x2 rfl)).trans (Chg.setCell _ ⟨g, 3, none⟩ x3 rfl)).trans (Chg.setCell _ ⟨g, 4, none⟩ x4 rfl)).trans (Chg.setCell _ ⟨g, 5, none⟩ x5 rfl)
theorem frozen_six {u : World} {g j : Nat} {c : Array Value} {ty : TypeId} (h : u.heap[g]? = some (.cells c ty (0, 0))) : u.frozen? ⟨g, j, none⟩ = false := by simp [World.frozen?, h]
structure TbH (B lo hi : Nat) (C : List (List Ent)) (L : List Ent) (bv_ pv_ fv_ : Value) (u : World) : Prop where
 bytes : Own B (tb C L) bv_ u
 filt : Own B (Bl.mk (keysT L)) fv_ u
 ex : ∃ PA pc P, pv_ = .slice PA P.length pc ∧ u.ownsRow B 90 6 (.slice PA P.length pc) P.length (prow P) ∧ P.map Prod.fst = pls C ∧ ∀ p ∈ P, PEm u lo hi p
def MadeAns (w : World) (lo hi : Nat) (L : List Ent) (x : Ending) (w' : World) : Prop :=
 Ext w w' ∧ ((MayT L ∧ ∃ C bv_ pv_ fv_, C.flatten = L ∧ Cuts C ∧ x = .returned (.tuple #[.agg (tbcells bv_ pv_ fv_ (.slice none 0 0) (.slice none 0 0) false), .int .i64 0]) ∧ TbH w.heap.size lo hi C L bv_ pv_ fv_ w') ∨
  (¬ MayT L ∧ x = .returned (.tuple #[.agg (tbcells (.slice none 0 0) (.slice none 0 0) (.slice none 0 0) (.slice none 0 0) (.slice none 0 0) false), .int .i64 2])))
def IRow (ns : List Nat) (v : Value) (u : World) : Prop := ∃ g, v = .slice (some ⟨g, 0, none⟩) ns.length ns.length ∧ u.heap[g]? = some (.cells (iv ns).toArray 3 (0, 0))
theorem IRow.mono (ns : List Nat) : Mono (IRow ns) := fun _ _ _ ⟨g, h, hb⟩ hu => ⟨g, h, ext_heap hu hb⟩
theorem IRow.sl {ns : List Nat} {g : Nat} {u : World} (h : u.heap[g]? = some (.cells (iv ns).toArray 3 (0, 0))) : Sl u 0 u.heap.size (some ⟨g, 0, none⟩) (iv ns) := .inr ⟨g, 0, rfl, Nat.zero_le _, (zAg.1 h).1, fun i x hx => by rw [Nat.zero_add]; exact cell_of h (by simpa using hx)⟩
theorem irow_lit (u : World) (a b c d : Nat) : IRow [a, b, a + b, c, d] (.slice (some ⟨u.heap.size, 0, none⟩) 5 5) (u.alloc (.cells #[.int .i64 (a : Int), .int .i64 (b : Int), .int .i64 ((a : Int) + (b : Int)), .int .i64 (c : Int), .int .i64 (d : Int)] 3)) := by
 have e : ((a : Int) + (b : Int)) = ((a + b : Nat) : Int) := by omega
 rw [e]
 exact ⟨u.heap.size, rfl, heap_at _ _ rfl⟩
theorem closed_tb (C : List (List Ent)) (L : List Ent) : closedOf [(blks C).length, (index C).length, (blks C).length + (index C).length, (Bl.mk (keysT L)).length, L.length] (ahd C L) = tb C L := by
 have e : footOf [(blks C).length, (index C).length, (blks C).length + (index C).length, (Bl.mk (keysT L)).length, L.length] (ahd C L) = foot24 C L := by
  unfold footOf foot24
  simp [List.flatMap_cons, List.append_assoc]
 unfold closedOf tb
 rw [e]
theorem made_done {W U : World} {rb D : Nat} {S : Nat → Prop} {tmps : Array Value} {c6 : Array Value} {R : Ending → World → Prop} (h2 : tmps.getD 2 undef = .pointer (some ⟨rb, 0, none⟩)) (h3 : tmps.getD 3 undef = .int .i64 0) (hD : W.heap[D]? = some (.deferred (some [])))
    (hb : U.heap[rb]? = some (.cells c6 87 (0, 0))) (hc6 : c6.size = 6) (hC : Chg S W U) (hS : ¬ S D) (hne : rb ≠ D)
    (hR : ∀ U', Chg (fun i => S i ∨ i = D) W U' → (∀ i, i ≠ D → U'.heap[i]? = U.heap[i]?) → R (.returned (.tuple #[.agg c6, .int .i64 0])) U') :
    bodyPostM Fence.wide 6 Tryz.prog Tryz.f66 R .ret { tmps := tmps, defers := [{ target := .collected D, args := #[] }] } U := by
 have hk : ∀ i, i ≠ D → (U.putObj D (.deferred none)).heap[i]? = U.heap[i]? := fun i h => World.putObj_heap_other (by omega)
 refine ⟨by simp, .inl ⟨_, _, rfl, run_takeDeferred (by rw [hC.block D (zAg.1 hD).1 hS]; exact hD), ?_⟩⟩
 exact ⟨_, made_results rfl h2 h3 ((hk rb hne).trans hb) hc6, hR _ ((hC.mono fun i _ h => .inl h).trans ((putObj_chg U D _).mono fun i _ h => .inr h)) hk⟩
theorem chg_ofb {B : Nat} {w w' : World} (h : Below B w w') : Chg (fun i => B ≤ i) w w' := ⟨h.os, h.tape, h.output, h.size, fun k _ hn => h.block k (by have : ¬ B ≤ k := hn; omega)⟩
theorem blks_lt : ∀ {C : List (List Ent)}, (∀ p ∈ C, MayB p) → (∀ e ∈ C.flatten, (∀ x ∈ e.key, x < 256) ∧ ∀ x ∈ e.val, x < 256) → ∀ x ∈ blks C, x < 256
 | [], _, _, x, hx => by cases hx
 | p :: C, hm, hb, x, hx => by
  unfold blks at hx
  rw [List.flatMap_cons] at hx
  rcases List.mem_append.1 hx with h | h
  · exact wr_lt (hm p (List.mem_cons_self ..)) (fun e he => hb e (by rw [List.flatten_cons]; exact List.mem_append_left _ he)) x h
  · exact blks_lt (fun q hq => hm q (List.mem_cons_of_mem _ hq)) (fun e he => hb e (by rw [List.flatten_cons]; exact List.mem_append_right _ he)) x h
theorem idxs_lt : ∀ {C : List (List Ent)} {a : Nat}, (∀ e ∈ C.flatten, (∀ x ∈ e.key, x < 256) ∧ ∀ x ∈ e.val, x < 256) → ∀ x ∈ idxs a C, x < 256
 | [], _, _, x, hx => by cases hx
 | p :: C, a, hb, x, hx => by
  unfold idxs at hx
  rcases List.mem_append.1 hx with h | h
  · unfold idx1 at h
    cases hl : p.getLast? with
    | none => rw [hl] at h; cases h
    | some e =>
     rw [hl] at h
     simp only [Option.map_some, Option.getD_some, List.mem_append] at h
     unfold bytesForm at h
     rcases h with h | h | h | h
     · rcases List.mem_append.1 h with h | h
       · exact form_bytes _ x h
       · exact (hb e (by rw [List.flatten_cons]; exact List.mem_append_left _ (List.mem_of_getLast? hl))).1 x h
     · exact form_bytes _ x h
     · exact form_bytes _ x h
     · exact form_bytes _ x h
  · exact idxs_lt (fun e he => hb e (by rw [List.flatten_cons]; exact List.mem_append_right _ he)) x h
theorem ahd_lt {C : List (List Ent)} (hc : Cuts C) (hm : ∀ e ∈ C.flatten, e.may = true) (hr : Rise C.flatten) (hb : ∀ e ∈ C.flatten, (∀ x ∈ e.key, x < 256) ∧ ∀ x ∈ e.val, x < 256) (L : List Ent) : ∀ x ∈ ahd C L, x < 256 := by
 intro x hx
 unfold ahd index at hx
 rcases List.mem_append.1 hx with h | h
 · exact blks_lt (pieces_mayB hr hm hc) hb x h
 rcases List.mem_append.1 h with h | h
 · rcases List.mem_append.1 h with h | h
   · exact form_bytes _ x h
   · exact idxs_lt hb x h
 · exact Bl.mk_lt _ x h
structure MdI (w : World) (zs rb tb0 pb lo hi c : Nat) (A : Option Addr) (L : List (Ent × Hd)) (C : List (List Ent)) (FV : Value) (n₁ k : Nat) (W : World) : Prop where
 below : Below w.heap.size w W
 pc : PcC pb lo hi A L c W
 ex : ∃ BA bc PA pc P, W.heap[tb0]? = some (.cells (tbcells (.slice BA (blks (C.take k)).length bc) (.slice PA P.length pc) FV (.slice none 0 0) (.slice none 0 0) false) 87 (0, 0)) ∧ Own n₁ (blks (C.take k)) (.slice BA (blks (C.take k)).length bc) W ∧
  W.ownsRow n₁ 90 6 (.slice PA P.length pc) P.length (prow P) ∧ P.map Prod.fst = (pls C).take k ∧ ∀ p ∈ P, PEm W lo hi p
 fil : Own w.heap.size (Bl.mk (keysT (L.map Prod.fst))) FV W ∧ ∀ g, FV.ownBlock = some g → g < zs
 res : W.heap[rb]? = some (.cells (tbcells (.slice none 0 0) (.slice none 0 0) (.slice none 0 0) (.slice none 0 0) (.slice none 0 0) false) 87 (0, 0))
 z : n₁ ≤ W.heap.size
theorem MdI.chg {w : World} {zs rb tb0 pb lo hi c : Nat} {A : Option Addr} {L : List (Ent × Hd)} {C : List (List Ent)} {FV : Value} {n₁ k : Nat} {A1 A2 : World} (h : MdI w zs rb tb0 pb lo hi c A L C FV n₁ k A1) (hw : w.heap.size ≤ zs) (hrb : rb < zs) (htb : tb0 < zs) (hpb : pb < zs) (hhi : hi ≤ zs) (hc : Chg (Btw zs n₁) A1 A2) : MdI w zs rb tb0 pb lo hi c A L C FV n₁ k A2 := by
 obtain ⟨BA, bc, PA, pc, P, h1, h2, h3, h4, h5⟩ := h.ex
 have lt : ∀ {g : Nat} {o : Obj}, g < zs → A1.heap[g]? = some o → A2.heap[g]? = some o := fun hg ho => (hc.block _ (zAg.1 ho).1 (fun hb => by have := hb.1; omega)).trans ho
 have hbel : Below (min zs A1.heap.size) A1 A2 := hc.below (fun i hb => by have := hb.1; omega) (Nat.min_le_right _ _)
 have hE : Es A2 lo hi A L := h.pc.2.1.below hbel (by have := h.pc.2.2; omega)
 refine ⟨h.below.trans (hc.below (fun i hb => by have := hb.1; omega) h.below.size), ⟨cell_chg h.pc.1 hc (fun hb => by have h9 : zs ≤ pb := hb.1; omega), hE, zNt h.pc.2.2 hc.size⟩,
  ⟨BA, bc, PA, pc, P, lt htb h1, row_chg h2 hc (fun k hk hb => by have := hb.2; omega), rowN_kept h3 (fun g hg => hc.block g (rowN_lt h3 g hg).2.1 (fun hb => by have := (rowN_lt h3 g hg).1; have := hb.2; omega)), h4, fun p hp => Bs.below (h5 p hp) hbel (by have := h.pc.2.2; omega)⟩,
  ⟨h.fil.1.wall fun g hg => hc.block g (row_lt h.fil.1 g hg).2 (fun hb => by have := h.fil.2 g hg; have := hb.1; omega), h.fil.2⟩, lt hrb h.res, zNt h.z hc.size⟩
set_option maxRecDepth 100000 in
set_option maxHeartbeats 16000000 in
theorem made_any {w : World} {lo hi c : Nat} {A : Option Addr} {L : List (Ent × Hd)} (h : Es w lo hi A L) (hhi : hi ≤ w.heap.size) (hlc : L.length ≤ c) (hlen : L.length ≤ 1000000000000) :
    Calls Tryz.prog 66 #[.slice A L.length c] w (MadeAns w lo hi (L.map Prod.fst)) := by
 obtain ⟨Ls, hLs⟩ : ∃ Ls, Ls = L.map Prod.fst := ⟨_, rfl⟩
 have HLS := zHd hLs
 have HLL : Hid (Ls.length = L.length) := by rw [hLs]; simp [Hid]
 have HE := zHd h
 have HHI := zHd hhi
 have HLC := zHd hlc
 obtain ⟨rb, hrb⟩ : ∃ rb, rb = w.heap.size := ⟨_, rfl⟩
 obtain ⟨w1, hw1⟩ : ∃ w1, w1 = w.alloc (.cells #[.slice none 0 0, .slice none 0 0, .slice none 0 0, .slice none 0 0, .slice none 0 0, .bool false] 87) := ⟨_, rfl⟩
 have HX1 : Hid (Ext w w1) := by rw [hw1]; exact ext_alloc _ _
 have HZ1 : Hid (w1.heap.size = w.heap.size + 1 ∧ rb = w.heap.size) := by rw [hw1, hrb]; simp [Hid]
 have HB1 : Hid (w1.heap[rb]? = some (.cells #[.slice none 0 0, .slice none 0 0, .slice none 0 0, .slice none 0 0, .slice none 0 0, .bool false] 87 (0, 0))) := by rw [hw1, hrb]; exact heap_at _ _ rfl
 have HRI := zHd (rises_any (c := c) (h.below HX1.out hhi) (zNt hhi HX1.out.size) hlen)
 -- what is refused
 have HNO : Hid (∀ (u : World) (tmps : Array Value), ¬ MayT Ls → Ext w u → u.heap[rb]? = some (.cells #[.slice none 0 0, .slice none 0 0, .slice none 0 0, .slice none 0 0, .slice none 0 0, .bool false] 87 (0, 0)) → tmps.getD 2 undef = .pointer (some ⟨rb, 0, none⟩) → tmps.getD 3 undef = .int .i64 2 →
     ∃ v, (results Tryz.f66 tmps).run Tryz.prog u = .ok v u ∧ MadeAns w lo hi Ls (.returned v) u) := fun u tmps hm hx hb h2 h3 => ⟨_, made_results rfl h2 h3 hb rfl, hx, .inr ⟨hm, rfl⟩⟩
 rw [← hLs] at HRI ⊢
 clear h hhi hlc hLs hlen
 refine (callsIn_wide (n := 6)).1 ?_
 refine callsIn_of_wp_marks Tryz.func66 rfl trivial ?_
 simp only [Tryz.ntmps66, List.size_toArray, List.length_cons, List.length_nil, Nat.reduceAdd, Nat.reduceSub, Array.replicate_succ, Array.replicate_zero, List.push_toArray, List.append_toArray, List.nil_append, List.cons_append]
 refine wpIn_wide.2 ?_
 by_cases hl1 : L.length < 1
 · have d1 : decide ((L.length : Int) < 1) = true := decide_eq_true (by omega)
   have d1n : decide (L.length < 1) = true := decide_eq_true hl1
   have HNM : Hid (¬ MayT Ls) := fun hm => by have := hm.1; rw [HLL.out] at this; omega
   clear hl1
   have q0 := cell_of HB1.out (k := 0) rfl
   have z0 := frozen_six (j := 0) HB1.out
   have q1 := cell_of HB1.out (k := 1) rfl
   have z1 := frozen_six (j := 1) HB1.out
   have q2 := cell_of HB1.out (k := 2) rfl
   have z2 := frozen_six (j := 2) HB1.out
   have q3 := cell_of HB1.out (k := 3) rfl
   have z3 := frozen_six (j := 3) HB1.out
   have q4 := cell_of HB1.out (k := 4) rfl
   have z4 := frozen_six (j := 4) HB1.out
   have q5 := cell_of HB1.out (k := 5) rfl
   have z5 := frozen_six (j := 5) HB1.out
   go_upto_region 2 with (fail)
   rw [← hw1, ← hrb]
   clear hw1 hrb
   go_wp2_with fail
   exact HNO.out _ _ HNM.out (Below.trans (B := w.heap.size) HX1.out (chg_six.below (fun i hi => by rw [hi, HZ1.out.2]; exact zNr _) HX1.out.size)) (set_six HB1.out) rfl rfl
 by_cases hl2 : 4096 < L.length
 · have d1 : decide ((L.length : Int) < 1) = false := decide_eq_false (by omega)
   have d1n : decide (L.length < 1) = false := decide_eq_false hl1
   have d2 : decide ((4096 : Int) < (L.length : Int)) = true := decide_eq_true (by omega)
   have d2n : decide (4096 < L.length) = true := decide_eq_true hl2
   have HNM : Hid (¬ MayT Ls) := fun hm => by have := hm.2.1; rw [HLL.out] at this; omega
   clear hl1 hl2
   have q0 := cell_of HB1.out (k := 0) rfl
   have z0 := frozen_six (j := 0) HB1.out
   have q1 := cell_of HB1.out (k := 1) rfl
   have z1 := frozen_six (j := 1) HB1.out
   have q2 := cell_of HB1.out (k := 2) rfl
   have z2 := frozen_six (j := 2) HB1.out
   have q3 := cell_of HB1.out (k := 3) rfl
   have z3 := frozen_six (j := 3) HB1.out
   have q4 := cell_of HB1.out (k := 4) rfl
   have z4 := frozen_six (j := 4) HB1.out
   have q5 := cell_of HB1.out (k := 5) rfl
   have z5 := frozen_six (j := 5) HB1.out
   go_upto_region 2 with (fail)
   rw [← hw1, ← hrb]
   clear hw1 hrb
   go_wp2_with fail
   exact HNO.out _ _ HNM.out (Below.trans (B := w.heap.size) HX1.out (chg_six.below (fun i hi => by rw [hi, HZ1.out.2]; exact zNr _) HX1.out.size)) (set_six HB1.out) rfl rfl
 have d1 : decide ((L.length : Int) < 1) = false := decide_eq_false (by omega)
 have d1n : decide (L.length < 1) = false := decide_eq_false hl1
 have d2 : decide ((4096 : Int) < (L.length : Int)) = false := decide_eq_false (by omega)
 have d2n : decide (4096 < L.length) = false := decide_eq_false hl2
 have HL : Hid (1 ≤ L.length ∧ L.length ≤ 4096) := by unfold Hid; omega
 clear hl1 hl2
 go_wp2_with fail
 rw [← hw1, ← hrb]
 refine HRI.out.mono ?_
 rintro x w2 ⟨z, hz, rfl, hx2⟩
 have HX2 : Hid (Ext w1 w2) := hx2
 have HZ := zHd hz
 clear hz hx2 HRI hw1 hrb d1 d1n d2 d2n
 cases z with
 | false =>
  have HNM : Hid (¬ MayT Ls) := fun hm => by
   have h := HZ.out.2 ⟨hm.2.2.1, List.all_eq_true.2 fun p hp => hm.2.2.2 _ (by rw [HLS.out]; exact List.mem_map_of_mem hp)⟩
   cases h
  have HB2 := zHd (ext_heap HX2.out HB1.out)
  have HXW2 : Hid (Ext w w2) := zEt HX1.out HX2.out
  have q0 := cell_of HB2.out (k := 0) rfl
  have z0 := frozen_six (j := 0) HB2.out
  have q1 := cell_of HB2.out (k := 1) rfl
  have z1 := frozen_six (j := 1) HB2.out
  have q2 := cell_of HB2.out (k := 2) rfl
  have z2 := frozen_six (j := 2) HB2.out
  have q3 := cell_of HB2.out (k := 3) rfl
  have z3 := frozen_six (j := 3) HB2.out
  have q4 := cell_of HB2.out (k := 4) rfl
  have z4 := frozen_six (j := 4) HB2.out
  have q5 := cell_of HB2.out (k := 5) rfl
  have z5 := frozen_six (j := 5) HB2.out
  go_upto_region 2 with (fail)
  go_wp2_with fail
  exact HNO.out _ _ HNM.out (Below.trans (B := w.heap.size) HXW2.out (chg_six.below (fun i hi => by rw [hi, HZ1.out.2]; exact zNr _) HXW2.out.size)) (set_six HB2.out) rfl rfl
 | true =>
  have HMT : Hid (MayT Ls) := by
   have h := HZ.out.1 rfl
   refine ⟨by rw [HLL.out]; exact HL.out.1, by rw [HLL.out]; exact HL.out.2, h.1, fun e he => ?_⟩
   rw [HLS.out] at he
   obtain ⟨p, hp, rfl⟩ := List.mem_map.1 he
   exact List.all_eq_true.1 h.2 p hp
  have HE2 := zHd (HE.out.below (zEt HX1.out HX2.out) HHI.out)
  have HFI := zHd (filter_any (c := c) HE2.out (zNt HHI.out (zEt HX1.out HX2.out).size) HL.out.2 (fun p hp => (HE.out.each p hp).bk))
  rw [← HLS.out] at HFI
  clear HZ
  go_wp2_with fail
  refine HFI.out.mono ?_
  rintro x w3 ⟨FV, rfl, hfo, hx3⟩
  have HX3 : Hid (Ext w w3) := zEt HX1.out (zEt HX2.out hx3)
  have HFO : Hid (Own w.heap.size (Bl.mk (keysT Ls)) FV w3) := hfo.base (zEt HX1.out HX2.out).size
  have HB3 := zHd (ext_heap (zEt HX2.out hx3) HB1.out)
  obtain ⟨FA, fc, rfl⟩ := hfo.slice
  obtain ⟨fl, hfl⟩ : ∃ fl, fl = (Bl.mk (keysT Ls)).length := ⟨_, rfl⟩
  rw [← hfl] at HFO ⊢
  have HFL := zHd hfl
  clear hfo hx3 HFI HE2 hfl
  go_upto_region 4 with (fail)
  obtain ⟨tb0, htb⟩ : ∃ tb0, tb0 = w3.heap.size := ⟨_, rfl⟩
  obtain ⟨w4, hw4⟩ : ∃ w4, w4 = w3.alloc (.cells #[.slice none 0 0, .slice none 0 0, .slice FA fl fc, .slice none 0 0, .slice none 0 0, .bool false] 87) := ⟨_, rfl⟩
  rw [← hw4, ← htb]
  have HX4 : Hid (Ext w3 w4) := by rw [hw4]; exact ext_alloc _ _
  have HZ4 : Hid (w4.heap.size = tb0 + 1 ∧ rb < tb0 ∧ w.heap.size < tb0) := by
   have h1 := HZ1.out; have h2 := HX2.out.size; have h3 := HX3.out.size
   have h4 := (zAg.1 HB3.out).1
   rw [hw4, htb]; unfold Hid; simp; omega
  have HT4 : Hid (w4.heap[tb0]? = some (.cells #[.slice none 0 0, .slice none 0 0, .slice FA fl fc, .slice none 0 0, .slice none 0 0, .bool false] 87 (0, 0))) := by rw [hw4, htb]; exact heap_at _ _ rfl
  have HB4 := zHd (ext_heap HX4.out HB3.out)
  have HFL4 : Hid (∀ g, (Value.slice FA fl fc).ownBlock = some g → g < tb0) := fun g hg => by rw [htb]; exact (row_lt HFO.out g hg).2
  have HFO4 := zHd (HFO.out.below HX4.out)
  have HXW4 : Hid (Ext w w4) := zEt HX3.out HX4.out
  clear hw4 htb HB3 HX2 HB1 HX1 HFO HX3
  go_wp2_with fail
  refine (pieces_any A L.length c w4).mono ?_
  rintro x w5 ⟨rfl, hw5⟩
  have HX5 : Hid (Ext w4 w5) := by rw [hw5]; exact ext_alloc _ _
  have HZ5 : Hid (w5.heap.size = tb0 + 2) := by rw [hw5]; have := HZ4.out; unfold Hid; simp; omega
  have HP5 : Hid (w5.cell? ⟨tb0 + 1, 0, none⟩ = some (.slice A L.length c)) := by rw [hw5]; exact cell_of (heap_at _ _ HZ4.out.1.symm) rfl
  have hz4 : w4.heap.size = tb0 + 1 := HZ4.out.1
  rw [hz4]
  have HXW5 : Hid (Ext w w5) := zEt HXW4.out HX5.out
  clear hw5 hz4
  obtain ⟨C, hC, hCf⟩ := cuts_exists _ Ls (zNr _)
  have HC := zHd (And.intro hC hCf)
  have HCF : Hid (C.flatten = L.map Prod.fst) := by rw [← HLS.out]; exact hCf
  have HFEW := zHd (few HMT.out hC hCf)
  clear hC hCf
  obtain ⟨b, o, hA⟩ := HE.out.base HL.out.1
  subst hA
  go_wp2_with fail
  rename_i ak
  refine (wpIn_wide (n := 6)).1 ?_
  refine wpIn_over rfl enters_pieces1 (pieces_iter (lo := lo) (hi := hi) HC.out.1 HCF.out HLC.out HL.out.2 (by rw [← HLS.out]; exact HMT.out.2.2.1) (by rw [← HLS.out]; exact HMT.out.2.2.2)) (fun _ => rfl) (MdI w w5.heap.size rb tb0 (tb0 + 1) lo hi c (some ⟨b, o, none⟩) L C (.slice FA fl fc)) (fun _ _ => False) (fun _ _ _ h => h.pc) ?hI (fun _ _ _ h _ => h) ?h0 ?round ?done (fun _ _ _ _ h _ => h.elim)
  case hI =>
   intro n₁ k A1 A2 _ hi' hc
   have h1 := HZ5.out; have h2 := HZ4.out; have h3 := HXW5.out.size; have h4 := HHI.out
   exact hi'.chg h3 (by omega) (by omega) (by omega) (by omega) hc
  case h0 =>
   intro A1 hx
   have hx5 := zEt HX5.out hx
   refine ⟨zEt HXW5.out hx, ⟨ext_cell hx HP5.out, HE.out.below (zEt HXW5.out hx) HHI.out, zNt HHI.out (zEt HXW5.out hx).size⟩, ⟨none, 0, none, 0, [], ext_heap hx5 HT4.out, Own.nil _ _, World.ownsRow_nil _ _ _ _, rfl, fun p hp => by cases hp⟩, ⟨?_, fun g hg => ?_⟩, ext_heap hx5 HB4.out, zNr _⟩
   · rw [← HLS.out]; exact HFO4.out.below hx5
   · have := HFL4.out g hg; have := HZ5.out; omega
  case round =>
   rintro l2 n₁ k ⟨off, m⟩ A1 hl1 hl2 hn1 hnA hi' hk ⟨p, hp, hx⟩
   obtain ⟨ho, hm⟩ : off = offK C k ∧ m = p.length := by injection hx with h1 h2; exact ⟨h1, h2⟩
   have HP := zHd hp
   have HMB : Hid (MayB p) := pieces_mayB (by rw [HCF.out, ← HLS.out]; exact HMT.out.2.2.1) (by rw [HCF.out, ← HLS.out]; exact HMT.out.2.2.2) HC.out.1 p (List.mem_of_getElem? hp)
   obtain ⟨m1, hm1⟩ : ∃ m1, m = m1 + 1 := ⟨m - 1, by have := HMB.out.1; omega⟩
   have hpl : p.length = m1 + 1 := by omega
   have hole : off + (m1 + 1) ≤ L.length := by
    have h1 := offK_succ hp
    have h2 := offK_le C (k + 1)
    have h3 := congrArg List.length HCF.out
    rw [List.length_map] at h3
    omega
   have HPE : Hid (((L.map Prod.fst).drop off).take (m1 + 1) = p) := by
    have hd : C.drop k = p :: C.drop (k + 1) := by obtain ⟨h8, rfl⟩ := zLg.1 hp; exact List.drop_eq_getElem_cons h8
    rw [← HCF.out, ho, flat_drop, hd, List.flatten_cons, ← hpl]
    unfold Hid
    rw [List.take_left]
   have HMM : Hid (m1 + 1 ≤ 128 ∧ off + (m1 + 1) ≤ L.length ∧ p.length = m1 + 1) := ⟨by have := piece_few (cuts_piece HC.out.1 p (List.mem_of_getElem? hp)) HMB.out.2.2.2; omega, hole, hpl⟩
   have HN1 := zHd hn1
   have HL12 := zHd (And.intro hl1 hl2)
   have HI1 := zHd hi'
   rw [hm1]
   clear hl1 hl2 hn1 hnA hi' hk hp hx ho hm hm1 hpl hole
   dsimp only [pcV]
   gi_wp2
   refine ⟨Step.refl _ _ _, fun A2 hc => ?_⟩
   have HI2 : Hid (MdI w w5.heap.size rb tb0 (tb0 + 1) lo hi c (some ⟨b, o, none⟩) L C (.slice FA fl fc) n₁ k A2) := by
    have h1 := HZ5.out; have h2 := HZ4.out; have h3 := HXW5.out.size; have h4 := HHI.out
    exact HI1.out.chg h3 (by omega) (by omega) (by omega) (by omega) (hc.mono fun i _ e => ⟨by have := HL12.out.1; omega, by have := HL12.out.2; omega⟩)
   clear hc
   obtain ⟨BA, bc, PA, pc, P, ht, hbo, hpo, hpm, hpk⟩ := HI2.out.ex
   have HT := zHd ht
   have HBO := zHd hbo
   have HPO := zHd hpo
   have HPM := zHd hpm
   have HPK := zHd hpk
   have HEA := zHd HI2.out.pc.2
   obtain ⟨o2, ho2⟩ : ∃ o2, o2 = o + off * 4 := ⟨_, rfl⟩
   obtain ⟨c2, hc2⟩ : ∃ c2, c2 = c - off := ⟨_, rfl⟩
   have HO2 : Hid (o2 = o + off * 4 ∧ c2 = c - off) := ⟨ho2, hc2⟩
   have HEP : Hid (Es A2 lo hi (some ⟨b, o2, none⟩) ((L.drop off).take (m1 + 1))) := by
    have hE := HEA.out.1.drop (k := off) (c := c) (by have := HMM.out; omega) HLC.out
    rw [if_neg (by have := HMM.out; have := HLC.out; omega)] at hE
    have e0 : (some (⟨b, o, none⟩ : Addr)).map (·.add (off * 4)) = some ⟨b, o2, none⟩ := by show some (Addr.add _ _) = _; rw [addr_add, ho2]
    rw [e0] at hE
    exact hE.take (by rw [List.length_drop]; have := HMM.out; omega)
   have HLP : Hid (((L.drop off).take (m1 + 1)).length = m1 + 1 ∧ ((L.drop off).take (m1 + 1)).map Prod.fst = p) := by
    refine ⟨by rw [List.length_take, List.length_drop]; have := HMM.out; omega, ?_⟩
    rw [List.map_take, List.map_drop]; exact HPE.out
   have HWR : Hid (Calls Tryz.prog 102 #[.slice (some ⟨b, o2, none⟩) (m1 + 1) c2] A2 (WriteAns A2 p)) := by
    have h := write_any (c := c2) HEP.out HEA.out.2 (by rw [HLP.out.1]; have := HMM.out; have := HLC.out; have := HO2.out; omega) (by rw [HLP.out.1]; have := HMM.out; omega)
    rwa [HLP.out.1, HLP.out.2] at h
   rw [← ho2, ← hc2]
   clear ht hbo hpo hpm hpk ho2 hc2
   gi_wp2
   refine ⟨trivial, (CallsIn.inRound l2 (callsIn_wide.2 HWR.out)).mono ?_⟩
   rintro x A3 ⟨hx3, (⟨_, WA, wc, rfl, hown⟩ | ⟨hno, _⟩)⟩
   rotate_left
   · exact absurd HMB.out hno
   have HX3 : Hid (Ext A2 A3) := hx3
   have HWO := zHd hown
   obtain ⟨WL, hWL⟩ : ∃ WL, WL = (wr p).length := ⟨_, rfl⟩
   have HWL := zHd hWL
   rw [← hWL]
   have HEP3 := zHd (HEP.out.below hx3 HEA.out.2)
   obtain ⟨q, hq⟩ : ∃ q, ((L.drop off).take (m1 + 1))[m1]? = some q := ⟨_, List.getElem?_eq_getElem (by rw [HLP.out.1]; omega)⟩
   have HQP : Hid (p.getLast? = some q.1) := by
    have h1 : p[m1]? = some q.1 := by rw [← HLP.out.2, List.getElem?_map, hq]; rfl
    unfold Hid
    rw [List.getLast?_eq_getElem?, HMM.out.2.2]
    exact h1
   have HQE := zHd (HEP3.out.each q (List.mem_of_getElem? hq))
   obtain ⟨sn, hsn⟩ : ∃ sn : Nat, q.1.seq = (sn : Int) := by
    have := mayN_iff.1 (HMB.out.2.2.2 q.1 (List.mem_of_getLast? HQP.out))
    exact ⟨q.1.seq.toNat, by omega⟩
   have HSN := zHd hsn
   obtain ⟨c0, c1, c2', c3⟩ := HEP3.out.get hq
   rw [hsn] at c1
   have hwm : wrap64 (m1 : Int) = (m1 : Int) := by have := HMM.out; unfold wrap64; omega
   have HT3 := zHd (ext_heap hx3 HT.out)
   obtain ⟨a, ha⟩ : ∃ a, a = (blks (C.take k)).length := ⟨_, rfl⟩
   have HAE := zHd ha
   have HAL : Hid (a ≤ 269144064) := by rw [ha]; have := blks_take_le C k; have := HFEW.out.b; unfold Hid; omega
   rw [← ha] at HT3 HBO
   have HBO3 := zHd (HBO.out.below hx3)
   have HPO3 : Hid (A3.ownsRow n₁ 90 6 (.slice PA P.length pc) P.length (prow P)) := rowN_kept HPO.out fun g hg => hx3.block g (rowN_lt HPO.out g hg).2.1
   have HPN : Hid (P.length ≤ 4096) := by
    have h1 := congrArg List.length HPM.out
    rw [List.length_map, List.length_take, pls_length] at h1
    have := HFEW.out.c
    unfold Hid; omega
   obtain ⟨A4, hA4⟩ : ∃ A4, A4 = A3.alloc (.cells #[.slice q.2.kA q.1.key.length q.2.kc, .int .i64 (sn : Int), .int .i64 q.1.kind, .slice q.2.vA q.1.val.length q.2.vc] 50) := ⟨_, rfl⟩
   have HX4' : Hid (Ext A3 A4) := by rw [hA4]; exact ext_alloc _ _
   have HEB : Hid (A4.heap[A3.heap.size]? = some (.cells #[.slice q.2.kA q.1.key.length q.2.kc, .int .i64 (sn : Int), .int .i64 q.1.kind, .slice q.2.vA q.1.val.length q.2.vc] 50 (0, 0))) := by rw [hA4]; exact heap_at _ _ rfl
   have ht4 := ext_heap HX4'.out HT3.out
   have t0 := cell_of (v := .slice BA a bc) ht4 (k := 0) rfl
   have t1 := cell_of (v := .slice PA P.length pc) ht4 (k := 1) rfl
   have e0 := cell_of HEB.out (k := 0) rfl
   have e1 := cell_of HEB.out (k := 1) rfl
   have HT4' := zHd ht4
   have HBO4 := zHd (HBO3.out.below HX4'.out)
   have HPO4 : Hid (A4.ownsRow n₁ 90 6 (.slice PA P.length pc) P.length (prow P)) := rowN_kept HPO3.out fun g hg => HX4'.out.block g (rowN_lt HPO3.out g hg).2.1
   have HWO4 := zHd (HWO.out.below HX4'.out)
   rw [hA4] at t0 t1 e0 e1
   have HPL5 : Hid (∀ ob, (A4.alloc ob).ownsRow n₁ 90 6 (.slice PA P.length pc) P.length (prow P)) := fun ob => rowN_kept HPO4.out fun g hg => (ext_alloc A4 ob).block g (rowN_lt HPO4.out g hg).2.1
   have HS4 : Hid (n₁ ≤ A4.heap.size ∧ tb0 < n₁ ∧ rb < n₁ ∧ tb0 + 1 < n₁ ∧ w.heap.size < n₁ ∧ tb0 < A4.heap.size) := by
    have h1 := HI2.out.z; have h2 := HX3.out.size; have h3 := HX4'.out.size; have h4 := HZ4.out; have h5 := HZ5.out; have h6 := HN1.out
    unfold Hid; omega
   have HTX : Hid (∀ ob (w6 : World), (A4.alloc ob).grownBy w6 (Value.slice PA P.length pc).ownBlock → w6.heap[tb0]? = some (.cells #[.slice BA a bc, .slice PA P.length pc, .slice FA fl fc, .slice none 0 0, .slice none 0 0, .bool false] 87 (0, 0)) ∧ Own n₁ (blks (C.take k)) (.slice BA a bc) w6 ∧ Own A2.heap.size (wr p) (.slice WA (wr p).length wc) w6) := fun ob w6 hg => by
    refine ⟨(hg.block tb0 (Nat.lt_of_lt_of_le HS4.out.2.2.2.2.2 (ext_alloc _ _).size) (fun e => by have := (rowN_lt HPO4.out _ e.symm).1; have := HS4.out; omega)).trans (ext_heap (ext_alloc _ _) HT4'.out), ?_, ?_⟩
    · have h1 := HBO4.out.below (ext_alloc A4 ob)
      exact h1.wall fun g hg' => hg.block g (row_lt h1 g hg').2 (fun e => rows_apart h1 (HPL5.out ob) (by decide) hg' e.symm)
    · have h1 := HWO4.out.below (ext_alloc A4 ob)
      exact h1.wall fun g hg' => hg.block g (row_lt h1 g hg').2 (fun e => rows_apart h1 (HPL5.out ob) (by decide) hg' e.symm)
   have HWP : Hid (0 < (wr p).length) := by have := wr_pos p; unfold Hid; omega
   have HWLE : Hid ((wr p).length ≤ 269144064) := by
    have h1 := blks_take_le C (k + 1)
    rw [offB_succ HP.out, List.length_append] at h1
    have := HFEW.out.b
    unfold Hid; omega
   clear hx3 hown HWR hWL hq hsn ha ht4
   rw [HWL.out]
   gi_wp2_with (gi_at_builtin; first
    | (refine wpListIn_pushplace rfl (.tmp 45) (.tmp 57) rfl n₁ _ P rfl (by rw [← hA4]; exact HPL5.out _) ((⟨q.1.key, sn, a, (wr p).length⟩ : Pl), (q.2.kA, q.2.kc)) _ rfl (heap_at _ _ (by simp)) (by have := HPN.out; omega) (by rw [← hA4]; exact zNt HS4.out.1 (ext_alloc _ _).size) ?_
       intro PA5 pc5 w6 ho6 hg6
       rw [← hA4] at hg6
       have HG6 := zHd hg6
       have HO6 := zHd ho6
       have h6 := HTX.out _ w6 hg6
       have HT6 := zHd h6
       have t0 := cell_of (v := .slice BA a bc) h6.1 (k := 0) rfl
       have t1 := cell_of (v := .slice PA P.length pc) h6.1 (k := 1) rfl
       have z0 := frozen_six (j := 0) h6.1
       have z1 := frozen_six (j := 1) h6.1
       have HT7 : Hid ((w6.setCell ⟨tb0, 1, none⟩ (.slice PA5 (P.length + 1) pc5)).heap[tb0]? = some (.cells #[.slice BA a bc, .slice PA5 (P.length + 1) pc5, .slice FA fl fc, .slice none 0 0, .slice none 0 0, .bool false] 87 (0, 0))) := heap_setCell_same w6 tb0 1 _ _ _ h6.1
       have HB7 : Hid (Own n₁ (blks (C.take k)) (.slice BA a bc) (w6.setCell ⟨tb0, 1, none⟩ (.slice PA5 (P.length + 1) pc5))) := h6.2.1.wall fun g hg => Below.heap_setCell _ _ _ _ (by have := (row_lt h6.2.1 g hg).1; have := HS4.out; show g ≠ tb0; omega)
       have HW7 : Hid (Bs (w6.setCell ⟨tb0, 1, none⟩ (.slice PA5 (P.length + 1) pc5)) 0 (w6.setCell ⟨tb0, 1, none⟩ (.slice PA5 (P.length + 1) pc5)).heap.size (.slice WA (wr p).length wc) (wr p)) := Own.bs (B := A2.heap.size) (h6.2.2.wall fun g hg => Below.heap_setCell _ _ _ _ (by have := (row_lt h6.2.2 g hg).1; have := HS4.out; have := HI2.out.z; show g ≠ tb0; omega))
       have HS7 : Hid (n₁ ≤ (w6.setCell ⟨tb0, 1, none⟩ (.slice PA5 (P.length + 1) pc5)).heap.size) := by
        have h1 := hg6.size; have h2 := HS4.out.1; have h3 := (ext_alloc A4 (.cells (pcells ((⟨q.1.key, sn, a, (wr p).length⟩ : Pl), (q.2.kA, q.2.kc))).toArray 90)).size
        unfold Hid; simp only [World.setCell, Array.size_modify]; exact zNt h2 (zNt (ext_alloc A4 _).size h1)
       clear ho6 hg6 h6)
    | (refine wpListIn_addrow rfl (.tmp 61) (.tmp 62) rfl n₁ _ (blks (C.take k)) rfl HB7.out _ _ _ (wr p) rfl HW7.out HWP.out (by rw [← HAE.out]; have := HAL.out; have := HWLE.out; omega) HS7.out ?_
       intro BA8 bc8 w8 ho8 hg8
       have HG8 := zHd hg8
       have HO8 := zHd ho8
       have h8 : w8.heap[tb0]? = some (.cells #[.slice BA a bc, .slice PA5 (P.length + 1) pc5, .slice FA fl fc, .slice none 0 0, .slice none 0 0, .bool false] 87 (0, 0)) := (hg8.block tb0 (zAg.1 HT7.out).1 (fun e => by have := (row_lt HB7.out _ e.symm).1; have := HS4.out; omega)).trans HT7.out
       have HT8 := zHd h8
       have t8 := cell_of (v := .slice BA a bc) h8 (k := 0) rfl
       have z8 := frozen_six (j := 0) h8
       clear ho8 hg8 h8))
   clear t8 z8
   obtain ⟨PX, hPX⟩ : ∃ PX : Pl × PHd, PX = ((⟨q.1.key, sn, a, (wr p).length⟩ : Pl), (q.2.kA, q.2.kc)) := ⟨_, rfl⟩
   rw [← hPX] at HO6
   have hPL : PX.1 = plOf p (offB C k) := by
    rw [hPX]
    unfold plOf offB
    rw [HQP.out, ← HAE.out]
    simp only [Option.map_some, Option.getD_some, Pl.mk.injEq, true_and, and_true]
    have := HSN.out; omega
   obtain ⟨A7, hA7⟩ : ∃ A7, A7 = w6.setCell ⟨tb0, 1, none⟩ (.slice PA5 (P.length + 1) pc5) := ⟨_, rfl⟩
   rw [← hA7] at HT7 HB7 HW7 HS7 HG8
   have hO7 : A7.ownsRow n₁ 90 6 (.slice PA5 (P.length + 1) pc5) (P.length + 1) (prow (P ++ [PX])) := by
    rw [hA7]
    exact rowN_kept HO6.out fun g hg => Below.heap_setCell _ _ _ _ (by have := (rowN_lt HO6.out g hg).1; have := HS4.out; show g ≠ tb0; omega)
   have hO8 : w8.ownsRow n₁ 90 6 (.slice PA5 (P.length + 1) pc5) (P.length + 1) (prow (P ++ [PX])) := rowN_kept hO7 fun g hg => HG8.out.block g (rowN_lt hO7 g hg).2.1 (fun e => rows_apart HB7.out hO7 (by decide) e.symm hg)
   have hlen : (blks (C.take k)).length + (wr p).length = (blks (C.take (k + 1))).length := by rw [offB_succ HP.out, List.length_append]
   have hO9 := HO8.out
   rw [← offB_succ HP.out] at hO9
   rw [hlen]
   obtain ⟨A', hA'⟩ : ∃ A', A' = w8.setCell ⟨tb0, 0, none⟩ (.slice BA8 (blks (C.take (k + 1))).length bc8) := ⟨_, rfl⟩
   rw [← hA']
   have hC6 : Chg (fun i => i = tb0 ∨ n₁ ≤ i) A2 A7 := by
    rw [hA7]
    refine Chg.trans (Chg.trans ((Chg.of_ext HX3.out).trans (Chg.of_ext HX4'.out)) ?_) (Chg.setCell _ _ _ (.inl rfl))
    exact (Chg.alloc (S := fun i => i = tb0 ∨ n₁ ≤ i) A4 _).trans (Chg.grown HG6.out fun g hg => .inr (rowN_lt HPO4.out g hg).1)
   have hC : Chg (fun i => i = tb0 ∨ n₁ ≤ i) A2 A' := by
    rw [hA']
    exact (hC6.trans (Chg.grown HG8.out fun g hg => .inr (row_lt HB7.out g hg).1)).trans (Chg.setCell _ _ _ (.inl rfl))
   have hBel : Below w.heap.size A2 A' := hC.below (fun i h => by have := HS4.out; have := HZ4.out; omega) HI2.out.below.size
   have hBW : Below w.heap.size w A' := HI2.out.below.trans hBel
   have hs4 := HS4.out
   have hz4 := HZ4.out
   have hz5 := HZ5.out
   have hn1 := HN1.out
   refine ⟨Step.of_chg hC HI2.out.z (fun i h1 h2 h3 => by omega), hBW, ⟨cell_chg HI2.out.pc.1 hC (fun h => by have h9 : tb0 + 1 = tb0 ∨ n₁ ≤ tb0 + 1 := h; omega), HE.out.below hBW HHI.out, zNt HHI.out hBW.size⟩, ⟨BA8, bc8, PA5, pc5, P ++ [PX], ?_, ?_, ?_, ?_, fun y hy => ?_⟩, ⟨HI2.out.fil.1.wall fun g hg => hC.block g (row_lt HI2.out.fil.1 g hg).2 (fun h => by have := HFL4.out g hg; omega), HI2.out.fil.2⟩, (hC.block rb (zAg.1 HI2.out.res).1 (fun h => by omega)).trans HI2.out.res, zNt HI2.out.z hC.size⟩
   · rw [hA', List.length_append, List.length_singleton]
     exact heap_setCell_same w8 tb0 0 _ _ _ HT8.out
   · have hlen2 : (blks (C.take k) ++ wr p).length = (blks (C.take (k + 1))).length := by rw [← offB_succ HP.out]
     rw [hA']
     exact hO9.wall fun g hg => Below.heap_setCell _ _ _ _ (by have := (row_lt hO9 g hg).1; show g ≠ tb0; omega)
   · rw [List.length_append, List.length_singleton, hA']
     exact rowN_kept hO8 fun g hg => Below.heap_setCell _ _ _ _ (by have := (rowN_lt hO8 g hg).1; show g ≠ tb0; omega)
   · rw [List.map_append, HPM.out, pls_take HP.out, List.map_singleton, hPL]
   · rcases List.mem_append.1 hy with h | h
     · exact (HPK.out y h).below hBel HHI.out
     · rw [List.mem_singleton] at h
       subst h
       have h1 : PEm A3 lo hi y := by rw [hPX]; exact HQE.out.k
       have hx : Below w.heap.size A3 A' := by
        have hC3 : Chg (fun i => i = tb0 ∨ n₁ ≤ i) A3 A' := by
         rw [hA']
         refine Chg.trans (Chg.trans ?_ (Chg.grown HG8.out fun g hg => .inr (row_lt HB7.out g hg).1)) (Chg.setCell _ _ _ (.inl rfl))
         rw [hA7]
         refine Chg.trans (Chg.trans (Chg.of_ext HX4'.out) ?_) (Chg.setCell _ _ _ (.inl rfl))
         exact (Chg.alloc (S := fun i => i = tb0 ∨ n₁ ≤ i) A4 _).trans (Chg.grown HG6.out fun g hg => .inr (rowN_lt HPO4.out g hg).1)
        exact hC3.below (fun i h => by omega) (by have := HX3.out.size; have := HI2.out.z; omega)
       exact h1.below hx HHI.out
  case done =>
   rintro D n₁ W hDl hDn hn1 hi' hD
   obtain ⟨BA, bc, PA, pc, P, ht, hbo, hpo, hpm, hpk⟩ := hi'.ex
   rw [List.take_length] at ht hbo
   rw [List.take_of_length_le (by rw [pls_length]; exact zNr _)] at hpm
   have HIB := zHd hi'.below
   have HFI2 := zHd hi'.fil.1
   have HRS := zHd hi'.res
   have HT := zHd ht
   have HBO := zHd hbo
   have HPO := zHd hpo
   have HPM := zHd hpm
   have HPK := zHd hpk
   have HDL := zHd (And.intro hDl hDn)
   have HDD := zHd hD
   have HN1 := zHd hn1
   obtain ⟨bl, hbl⟩ : ∃ bl, bl = (blks C).length := ⟨_, rfl⟩
   rw [← hbl] at HT HBO
   have HBL := zHd hbl
   have HZZ : Hid (rb < tb0 ∧ tb0 < w5.heap.size ∧ w.heap.size ≤ rb ∧ w5.heap.size + 2 ≤ n₁ ∧ n₁ ≤ W.heap.size ∧ w5.heap.size ≤ D ∧ D < n₁ ∧ w.heap.size < tb0) := by
    have h1 := HZ4.out; have h2 := HZ5.out; have h3 := hi'.z; have h4 := HZ1.out
    unfold Hid; omega
   have HPS : Hid (Ps W 0 W.heap.size PA P) := by
    refine ⟨?_, fun p hp => Bs.wide (hpk p hp) (Nat.zero_le _) (zNt HHI.out hi'.below.size)⟩
    rcases hpo.2 with ⟨e, h0⟩ | ⟨g, cap, cur, e, hg, hh, r⟩
    · have : P = [] := List.eq_nil_of_length_eq_zero h0
      subst this; exact Sl.nil _ _ _ _
    · injection e with e1 _ _
      subst e1
      refine .inr ⟨g, 0, rfl, Nat.zero_le _, (zAg.1 hh).1, fun i x hx => ?_⟩
      have := hpo.cells (g := g) rfl i x hx
      rwa [addr_add] at this
   have HPC : Hid (P.length = C.length) := by have := congrArg List.length HPM.out; rwa [List.length_map, pls_length] at this
   have HPUT := zHd (putp_any (c := pc) HPS.out (zNr _) (by have := HPC.out; have := HFEW.out.c; omega) (by rw [HPM.out]; exact pls_ok (by rw [HC.out.2]; exact HMT.out.2.2.2) HFEW.out.b))
   rw [HPM.out, pform_pls HC.out.1] at HPUT
   have t1 := cell_of (v := .slice PA P.length pc) HT.out (k := 1) rfl
   clear hDl hDn hn1 hi' hD ht hbo hpo hpm hpk hbl HPS
   refine ak _ _ ?_
   go_wp2_with fail
   refine HPUT.out.mono ?_
   rintro x W2 ⟨iv2, rfl, hio, hx2⟩
   have HXW2 : Hid (Ext W W2) := hx2
   obtain ⟨IA, ic, rfl⟩ := hio.slice
   obtain ⟨il, hil⟩ : ∃ il, il = (index C).length := ⟨_, rfl⟩
   have HIL := zHd hil
   have HIO : Hid (Own W.heap.size (index C) (.slice IA il ic) W2) := by rw [hil]; exact hio
   rw [← hil]
   have HT2 := zHd (ext_heap hx2 HT.out)
   have HBO2 := zHd (HBO.out.below hx2)
   have HFO2 : Hid (Own w.heap.size (Bl.mk (keysT Ls)) (.slice FA fl fc) W2) := by rw [HLS.out]; exact HFI2.out.below hx2
   have HSM : Hid (bl ≤ 269144064 ∧ il ≤ 294922 ∧ fl ≤ 65544) := by rw [HBL.out, hil, HFL.out]; exact ⟨HFEW.out.b, HFEW.out.i, HFEW.out.f⟩
   have blI : (bl : Int) ≤ 269144064 := by have := HSM.out; omega
   have ilI : (il : Int) ≤ 294922 := by have := HSM.out; omega
   have t0 := cell_of (v := .slice BA bl bc) HT2.out (k := 0) rfl
   clear hx2 hio hil t1 HPUT
   go_upto_region 13 with (fail)
   have t2 := cell_of (v := .slice FA fl fc) HT2.out (k := 2) rfl
   obtain ⟨ah, hah⟩ : ∃ ah, ah = ahd C Ls := ⟨_, rfl⟩
   have HAH := zHd hah
   have HAHF : Hid ([blks C, index C, Bl.mk (keysT Ls)].flatten = ah) := by rw [hah]; unfold ahd Hid; simp
   have HAL : Hid (ah.length ≤ 300000000) := by rw [hah]; exact HFEW.out.a
   have HAB : Hid (∀ x ∈ ah, x < 256) := by
    have hb8 : ∀ e ∈ C.flatten, (∀ x ∈ e.key, x < 256) ∧ ∀ x ∈ e.val, x < 256 := fun e he => by
     rw [HCF.out] at he
     obtain ⟨p, hp, rfl⟩ := List.mem_map.1 he
     exact ⟨(HE.out.each p hp).bk, (HE.out.each p hp).bv⟩
    rw [hah]
    exact ahd_lt HC.out.1 (fun e he => by rw [HC.out.2] at he; exact HMT.out.2.2.2 e he) (by rw [HC.out.2]; exact HMT.out.2.2.1) hb8 Ls
   obtain ⟨ns, hns⟩ : ∃ ns, ns = [bl, il, bl + il, fl, L.length] := ⟨_, rfl⟩
   have HNS := zHd hns
   clear hah hns
   refine flow_tail (by kernel_rfl) [Is (.pointer (some ⟨tb0, 0, none⟩)), Is (.slice BA bl bc), Is (.slice IA il ic), Is (.pointer (some ⟨tb0, 2, none⟩)), Is (.slice FA fl fc), Rws 3 [blks C, index C, Bl.mk (keysT Ls)], Own W2.heap.size ah, Is (.int .i64 (bl : Int)), Is (.slice IA il ic), Is (.int .i64 (il : Int)), Is (.int .i64 ((bl : Int) + (il : Int))), Is (.pointer (some ⟨tb0, 2, none⟩)), Is (.slice FA fl fc), Is (.int .i64 (fl : Int)), Is (.slice (some ⟨b, o, none⟩) L.length c), Is (.int .i64 (L.length : Int)), IRow ns] 17 (by kernel_rfl) (by kernel_rfl) (by kernel_rfl) (by kernel_rfl) ?mono (fun f1 => ?obl) ?fin
   case mono =>
    simp only [List.forall_mem_cons, List.not_mem_nil, false_imp_iff, implies_true, and_true]
    exact ⟨.is _, .is _, .is _, .is _, .is _, .rws _ _, .own _ _, .is _, .is _, .is _, .is _, .is _, .is _, .is _, .is _, .is _, IRow.mono _⟩
   case fin =>
    intro g1 u hu hg
    simp only [List.take_succ_cons, List.take_zero, List.drop_succ_cons, List.drop_zero, puts, Act.put, zq]
    have h6 : Own W2.heap.size ah (g1 6) u := hg 6 (by decide)
    have h16 : IRow ns (g1 16) u := hg 16 (by decide)
    obtain ⟨v6, e6⟩ : ∃ v, v = g1 6 := ⟨_, rfl⟩
    rw [← e6] at h6 ⊢
    obtain ⟨g16, e16, hr16⟩ := h16
    rw [e16]
    obtain ⟨VA, vc, rfl⟩ := h6.slice
    have HO6 := zHd h6
    have HR16 := zHd hr16
    have HXU : Hid (Ext W u) := zEt HXW2.out (zEt (Ext.drew W2) hu)
    have HTU : Hid (u.heap[tb0]? = some (.cells #[.slice BA bl bc, .slice PA P.length pc, .slice FA fl fc, .slice none 0 0, .slice none 0 0, .bool false] 87 (0, 0))) := ext_heap (zEt (Ext.drew W2) hu) HT2.out
    have HSZ : Hid (W2.heap.size ≤ u.heap.size) := (zEt (Ext.drew W2) hu).size
    clear h6 e6 e16 hr16 hg hu t0 t2
    have hnl : ns.length = 5 := by rw [HNS.out]; rfl
    have HCL := zHd (closed_any (nc := 5) HO6.out HSZ.out HAB.out (by have := HAL.out; omega) (IRow.sl HR16.out) (zNr _) (by rw [hnl]; exact zNr _) (fun x hx => by rw [HNS.out] at hx; have h1 := HSM.out; have h2 := HL.out; simp only [List.mem_cons, List.not_mem_nil, or_false] at hx; omega))
    have htb : closedOf ns ah = tb C Ls := by rw [HNS.out, HAH.out, HBL.out, HIL.out, HFL.out, ← HLL.out]; exact closed_tb C Ls
    rw [htb, hnl] at HCL
    rw [hnl]
    clear htb
    go_wp2_with fail
    refine HCL.out.mono ?_
    rintro x w9 ⟨v9, rfl, ho9, hb9⟩
    obtain ⟨TA, tc, rfl⟩ := ho9.slice
    have HO9 := zHd ho9
    have HB9 := zHd hb9
    have htbW : tb0 < W2.heap.size := by have := HZZ.out; have := HXW2.out.size; omega
    have ht9 := (hb9.block tb0 htbW).trans HTU.out
    have HT9 := zHd ht9
    have z0 := frozen_six (j := 0) ht9
    have t9 := cell_of (v := .slice BA bl bc) ht9 (k := 0) rfl
    obtain ⟨tl, htl⟩ : ∃ tl, tl = (tb C Ls).length := ⟨_, rfl⟩
    have HTL := zHd htl
    rw [← htl]
    clear ho9 hb9 ht9 htl HCL
    go_upto_region 14 with (fail)
    obtain ⟨w10, hw10⟩ : ∃ w10, w10 = w9.setCell ⟨tb0, 0, none⟩ (.slice TA tl tc) := ⟨_, rfl⟩
    rw [← hw10]
    have HT10 : Hid (w10.heap[tb0]? = some (.cells #[.slice TA tl tc, .slice PA P.length pc, .slice FA fl fc, .slice none 0 0, .slice none 0 0, .bool false] 87 (0, 0))) := by rw [hw10]; exact heap_setCell_same w9 tb0 0 _ _ _ HT9.out
    have HC10 : Hid (Chg (fun i => i = tb0 ∨ W2.heap.size ≤ i) W w10) := by
     rw [hw10]
     exact (((Chg.of_ext HXU.out).trans ((chg_ofb HB9.out).mono fun i _ h => .inr h))).trans (Chg.setCell _ _ _ (.inl rfl))
    have HR10 : Hid (w10.heap[rb]? = some (.cells #[.slice none 0 0, .slice none 0 0, .slice none 0 0, .slice none 0 0, .slice none 0 0, .bool false] 87 (0, 0))) := (HC10.out.block rb (by have := HZZ.out; omega) (fun h => by have := HZZ.out; have := HXW2.out.size; omega)).trans HRS.out
    have HO10 : Hid (Own W2.heap.size (tb C Ls) (.slice TA tl tc) w10) := by
     rw [hw10, HTL.out]; exact HO9.out.wall fun g hg => Below.heap_setCell _ _ _ _ (by have := (row_lt HO9.out g hg).1; show g ≠ tb0; omega)
    clear hw10 z0 t9
    have a0 := cell_of HT10.out (k := 0) rfl
    have a1 := cell_of HT10.out (k := 1) rfl
    have a2 := cell_of HT10.out (k := 2) rfl
    have a3 := cell_of HT10.out (k := 3) rfl
    have a4 := cell_of HT10.out (k := 4) rfl
    have a5 := cell_of HT10.out (k := 5) rfl
    have r0 := cell_of HR10.out (k := 0) rfl
    have y0 := frozen_six (j := 0) HR10.out
    have r1 := cell_of HR10.out (k := 1) rfl
    have y1 := frozen_six (j := 1) HR10.out
    have r2 := cell_of HR10.out (k := 2) rfl
    have y2 := frozen_six (j := 2) HR10.out
    have r3 := cell_of HR10.out (k := 3) rfl
    have y3 := frozen_six (j := 3) HR10.out
    have r4 := cell_of HR10.out (k := 4) rfl
    have y4 := frozen_six (j := 4) HR10.out
    have r5 := cell_of HR10.out (k := 5) rfl
    have y5 := frozen_six (j := 5) HR10.out
    go_wp2_with fail
    have hzz := HZZ.out
    have hxs := HXW2.out.size
    refine made_done (S := fun i => i = rb ∨ i = tb0 ∨ W2.heap.size ≤ i) rfl rfl HDD.out (set_six HR10.out) rfl ((HC10.out.mono fun i _ h => .inr h).trans (chg_six.mono fun i _ h => .inl h)) (fun h => by omega) (by omega) (fun U' hC2 hU' => ?_)
    have hX : Ext w U' := HIB.out.trans (hC2.below (fun i h => by have := HIB.out.size; omega) HIB.out.size)
    have hk9 : ∀ g, g < W.heap.size → g ≠ rb → g ≠ tb0 → g ≠ D → U'.heap[g]? = W.heap[g]? := fun g h1 h2 h3 h4 => hC2.block g h1 (fun h => by omega)
    refine ⟨hX, .inl ⟨HMT.out, C, _, _, _, HC.out.2, HC.out.1, rfl, ?_, ?_, PA, pc, P, rfl, ?_, HPM.out, fun p hp => ?_⟩⟩
    · have ho : Own W2.heap.size (tb C Ls) (.slice TA tl tc) U' := HO10.out.wall fun g hg => (hU' g (by have := (row_lt HO10.out g hg).1; omega)).trans (chg_six.block g (row_lt HO10.out g hg).2 (fun h => by have := (row_lt HO10.out g hg).1; omega))
      exact ho.base (by omega)
    · rw [HLS.out]
      exact HFI2.out.wall fun g hg => by have := HFL4.out g hg; have := row_lt HFI2.out g hg; have hne : g ≠ rb := fun e => (by obtain ⟨_, _, c9, h9⟩ := rowN_lt HFI2.out g hg; rw [e, HRS.out] at h9; injection h9 with h9; injection h9 with _ h9 _; exact absurd h9 (by decide)); exact hk9 g (by omega) (by omega) (by omega) (by omega)
    · have hwn : w.heap.size ≤ n₁ := by omega
      refine rowN_base (rowN_kept HPO.out fun g hg => ?_) hwn
      have := rowN_lt HPO.out g hg
      exact hk9 g this.2.1 (by omega) (by omega) (by omega)
    · exact (HPK.out p hp).below (hC2.below (B := w.heap.size) (fun i h => by omega) HIB.out.size) HHI.out
   case obl =>
    refine ⟨fun u hu hd => ?_, fun u hu hd => ?_, fun u hu hd => ?_, fun u hu hd => ?_, fun u hu hd => ?_, fun u hu hd => ?_, fun u hu hd => ?_, fun u hu hd => ?_, fun u hu hd => ?_, fun u hu hd => ?_, fun u hu hd => ?_, fun u hu hd => ?_, fun u hu hd => ?_, fun u hu hd => ?_, fun u hu hd => ?_, fun u hu hd => ?_, fun u hu hd => ?_, trivial⟩
    all_goals try simp only [Act.put, zq]
    · go_simp
      exact zEr
    · have e0 : f1 0 = _ := hd 0 (by kernel_rfl)
      have hu2 := zEt (Ext.drew W2) hu
      have q0 := ext_cell hu2 t0
      go_simp
      exact zEr
    · go_simp
      exact zEr
    · go_simp
      exact zEr
    · have e3 : f1 3 = _ := hd 3 (by kernel_rfl)
      have hu2 := zEt (Ext.drew W2) hu
      have q0 := ext_cell hu2 t2
      go_simp
      exact zEr
    · have e1 : f1 1 = _ := hd 1 (by kernel_rfl)
      have e2 : f1 2 = _ := hd 2 (by kernel_rfl)
      have e4 : f1 4 = _ := hd 4 (by kernel_rfl)
      have hx0 := zHd ((show Own _ (blks C) (.slice BA bl bc) _ from HBO2.out).below (zEt (Ext.drew W2) hu)).bs
      have hx1 := zHd ((show Own _ (index C) (.slice IA il ic) _ from HIO.out).below (zEt (Ext.drew W2) hu)).bs
      have hx2 := zHd ((show Own _ (Bl.mk (keysT Ls)) (.slice FA fl fc) _ from HFO2.out).below (zEt (Ext.drew W2) hu)).bs
      have hr := zHd (rws_lit u [.slice BA bl bc, .slice IA il ic, .slice FA fl fc] [blks C, index C, Bl.mk (keysT Ls)] 3 rfl rfl (fun i v l hv hl => by
       match i with
       | 0 => simp at hv hl; subst hv hl; exact ⟨_, _, hx0.out, zNr _⟩
       | 1 => simp at hv hl; subst hv hl; exact ⟨_, _, hx1.out, zNr _⟩
       | 2 => simp at hv hl; subst hv hl; exact ⟨_, _, hx2.out, zNr _⟩
       | i + 3 => simp at hv))
      clear hx0 hx1 hx2
      go_simp
      exact ⟨below_new _ _, hr.out⟩
    · obtain ⟨hn, g1, h, e5, hh, x, hr⟩ := (show Rws 3 [blks C, index C, Bl.mk (keysT Ls)] (f1 5) u from hd 5 (by kernel_rfl))
      have HR := zHd hr
      clear hr hn
      go_simp
      refine (join_any (some ⟨g1, 0, none⟩) 3 0 h x _ u HR.out hh (by simp [maxLen]) (by simp) (by rw [HAHF.out]; have := HAL.out; omega) 3 rfl).mono ?_
      rintro x w9 ⟨v, rfl, hown, hb9⟩
      rw [HAHF.out] at hown
      exact ⟨v, rfl, hb9, ownsRow_base hown (zEt (Ext.drew W2) hu).size⟩
    · go_simp
      exact zEr
    · go_simp
      exact zEr
    · have e8 : f1 8 = _ := hd 8 (by kernel_rfl)
      go_simp
      exact zEr
    · go_simp
      exact zEr
    · go_simp
      exact zEr
    · have e11 : f1 11 = _ := hd 11 (by kernel_rfl)
      have hu2 := zEt (Ext.drew W2) hu
      have q0 := ext_cell hu2 t2
      go_simp
      exact zEr
    · have e12 : f1 12 = _ := hd 12 (by kernel_rfl)
      go_simp
      exact zEr
    · go_simp
      exact zEr
    · have e14 : f1 14 = _ := hd 14 (by kernel_rfl)
      go_simp
      exact zEr
    · have e7 : f1 7 = _ := hd 7 (by kernel_rfl)
      have e9 : f1 9 = _ := hd 9 (by kernel_rfl)
      have e10 : f1 10 = _ := hd 10 (by kernel_rfl)
      have e13 : f1 13 = _ := hd 13 (by kernel_rfl)
      have e15 : f1 15 = _ := hd 15 (by kernel_rfl)
      go_simp
      exact ⟨ext_alloc _ _, by rw [HNS.out]; exact irow_lit _ _ _ _ _⟩
end Go.Proofs.YtkdidghfcfcpfaaGreat
namespace Go.Proofs.YtkdidghfcfcpfaaGreat
open Go.ChangeShapes Go.WideShapes Go.ChangeAt Go.RowKit
def TNumAns (l : List Nat) (w : World) (r lo hi : Nat) (x : Ending) (w' : World) : Prop :=
 w.grownBy w' (some r) ∧ ((∃ (n : Nat) (rest : List Nat), x = .returned (.int .i64 (n : Int)) ∧ n ≤ 2147483647 ∧ Begins l n rest ∧ Rd w' r lo hi rest) ∨ (x = .panicked tgaveUp ∧ ∀ n rest, Begins l n rest → 2147483647 < n))
set_option maxRecDepth 100000 in
set_option maxHeartbeats 4000000 in
theorem tnumber_any {w : World} {r lo hi : Nat} {l : List Nat} (h : Rd w r lo hi l) : Calls Tryz.prog 154 #[.pointer (some ⟨r, 0, none⟩)] w (TNumAns l w r lo hi) := by
 have HRD := zHd h
 clear h
 go_enter Tryz.func154, Tryz.ntmps154
 go_wp2_with fail
 refine (Number_out HRD.out).mono ?_
 rintro x w1 ⟨n, k1, l1, ho, rfl, hrd, hg⟩
 have HO1 := zHd ho
 have HRD1 := zHd hrd
 have HG1 := zHd hg
 clear ho hrd hg
 go_wp2_with fail
 refine (treadNum_any _ _ _).mono ?_
 rintro x w1' ⟨⟨hk, rfl⟩ | ⟨hk, rfl⟩, hw1⟩
 rotate_left
 · subst hw1
   refine ⟨rfl, HG1.out, .inr ⟨rfl, fun n rest hb => ?_⟩⟩
   exact absurd (HO1.out.same (.inl ⟨rfl, hb.n64, hb.eq⟩)).2.1 hk
 subst hw1 hk
 have HB : Hid (Begins l n l1) := by
  rcases HO1.out with ⟨_, hb⟩ | ⟨h0, _⟩
  · exact hb
  · exact absurd h0 (by decide)
 by_cases hn : 2147483647 < n
 · have d : decide (2147483647 < n) = true := by simpa using hn
   have dI : decide ((2147483647 : Int) < (n : Int)) = true := by simp; omega
   have HN := zHd hn
   clear hn
   go_wp2_with fail
   refine (tgiveUp_any _).mono ?_
   rintro x w1' ⟨rfl, rfl⟩
   refine ⟨rfl, HG1.out, .inr ⟨rfl, fun n' rest hb => ?_⟩⟩
   rw [(hb.unique HB.out).1]
   exact HN.out
 have d : decide (2147483647 < n) = false := by simpa using hn
 have dI : decide ((2147483647 : Int) < (n : Int)) = false := by simp; omega
 have HN : Hid (n ≤ 2147483647) := by unfold Hid; omega
 have hw : IntKind.i64.wrap (n : Int) = (n : Int) := by rw [IntKind.wrap_i64]; omega
 clear hn
 go_wp2_with fail
 go_ret
 exact ⟨HG1.out, .inl ⟨n, l1, rfl, HN.out, HB.out, HRD1.out⟩⟩
def Pl.small (p : Pl) : Prop := p.key.length ≤ 32 ∧ p.n ≤ 2147483647 ∧ p.b ≤ 2147483647 ∧ p.z ≤ 2147483647
theorem Pl.small_u64 {p : Pl} (h : p.small) : U64 p.key.length ∧ U64 p.n ∧ U64 p.b ∧ U64 p.z := ⟨⟨by have := h.1; omega⟩, ⟨by have := h.2.1; omega⟩, ⟨by have := h.2.2.1; omega⟩, ⟨by have := h.2.2.2; omega⟩⟩
def TPlAns (l : List Nat) (w : World) (r lo hi : Nat) (x : Ending) (w' : World) : Prop :=
 w.grownBy w' (some r) ∧ ((∃ (p : Pl) (g : PHd) (rest : List Nat), x = .returned (.tuple #[.agg (pcells (p, g)).toArray, .int .i64 0]) ∧ p.small ∧ l = p.form ++ rest ∧ Own w.heap.size p.key (.slice g.1 p.key.length g.2) w' ∧ Rd w' r lo hi rest) ∨ (x = .panicked tgaveUp ∧ ∀ (p : Pl) rest, p.small → l ≠ p.form ++ rest))
theorem place_results {fn : Func} (hfn : fn.results = #[.cell 2 90, .tmp 3]) {tmps : Array Value} {w : World} {g : Nat} {c : Array Value} {k : Value} (h2 : tmps.getD 2 undef = .pointer (some ⟨g, 0, none⟩)) (h3 : tmps.getD 3 undef = k) (hg : w.heap[g]? = some (.cells c 90 (0, 0))) (hc : c.size = 6) :
    (results fn tmps).run Tryz.prog w = .ok (.tuple #[.agg c, k]) w := by
 have hi : (Tryz.prog.info? 90).map (·.size) = some 6 := by kernel_rfl
 have hl := run_loadVar_row (P := Tryz.prog) w g 90 90 c (0, 0) _ hg Tryz.underlying90 rfl (by rw [hc]; exact hi)
 have ha : (asAddr (.pointer (some ⟨g, 0, none⟩))).run Tryz.prog w = .ok ⟨g, 0, none⟩ w := rfl
 rw [results_cell_tmp hfn, h2, h3, ha, Result.andThen_ok, hl, Result.andThen_ok]
theorem place_ret {fn : Func} (hfn : fn.results = #[.cell 2 90, .tmp 3]) {tmps : Array Value} {w : World} {g : Nat} {c : Array Value} {k : Value} {R : Ending → World → Prop} (h2 : tmps.getD 2 undef = .pointer (some ⟨g, 0, none⟩)) (h3 : tmps.getD 3 undef = k) (hg : w.heap[g]? = some (.cells c 90 (0, 0))) (hc : c.size = 6) (h : R (.returned (.tuple #[.agg c, k])) w) :
    bodyPost Tryz.prog fn R .ret { tmps := tmps, defers := [] } w := ⟨rfl, _, place_results hfn h2 h3 hg hc, h⟩
theorem pl_key {l bs l2 : List Nat} {k : Int} (ho : OutText 32 l bs k l2) {p : Pl} {rest : List Nat} (hp : p.small) (h : l = p.form ++ rest) : k = 0 ∧ p.key = bs ∧ l2 = form p.n ++ (form p.b ++ (form p.z ++ rest)) := by
 subst h
 obtain ⟨u1, _⟩ := Pl.small_u64 hp
 unfold Pl.form plf at ho
 simp only [List.append_assoc] at ho
 obtain ⟨e1, e2, e3⟩ := ho.same (.inl ⟨rfl, by have := hp.1; omega, u1, rfl⟩)
 exact ⟨e2, e1.symm, e3⟩
set_option maxRecDepth 100000 in
set_option maxHeartbeats 8000000 in
theorem tplace_any {w : World} {r lo hi : Nat} {l : List Nat} (h : Rd w r lo hi l) (hl : l.length ≤ 1000000000000) : Calls Tryz.prog 132 #[.pointer (some ⟨r, 0, none⟩)] w (TPlAns l w r lo hi) := by
 obtain ⟨w0, hw0⟩ : ∃ w0, w0 = w.alloc (.cells #[.slice none 0 0, .int .i64 0, .int .i64 0, .slice none 0 0, .int .i64 0, .int .i64 0] 90) := ⟨_, rfl⟩
 obtain ⟨rb, hrb⟩ : ∃ rb, rb = w.heap.size := ⟨_, rfl⟩
 have HX0 : Hid (Ext w w0) := by rw [hw0]; exact ext_alloc _ _
 have HZ0 : Hid (w0.heap.size = w.heap.size + 1 ∧ rb = w.heap.size ∧ r < w.heap.size ∧ hi ≤ w.heap.size) := by rw [hw0, hrb]; have := h.lt; have := h.top; unfold Hid; simp; omega
 have HR0 : Hid (w0.heap[rb]? = some (.cells #[.slice none 0 0, .int .i64 0, .int .i64 0, .slice none 0 0, .int .i64 0, .int .i64 0] 90 (0, 0))) := by rw [hw0, hrb]; exact heap_at _ _ rfl
 have HRD := zHd (h.below HX0.out h.top h.lt)
 have HL := zHd hl
 clear h hl
 go_enter Tryz.func132, Tryz.ntmps132
 go_wp2_with fail
 rw [← hw0, ← hrb]
 clear hw0 hrb
 refine (Bytes_own HRD.out HL.out (by decide) (by decide)).mono ?_
 rintro x w2 ⟨sA, sc, sb, k2, l2, ho, hown, rfl, hrd, hg⟩
 have HO1 := zHd ho
 have HS2 := zHd (hown.base HX0.out.size)
 have HRD2 := zHd hrd
 have HG2 : Hid (w.grownBy w2 (some r)) := ⟨hg.os.trans HX0.out.os, hg.tape.trans HX0.out.tape, hg.output.trans HX0.out.output, zNt HX0.out.size hg.size, fun i hi hne => (hg.block i (Nat.lt_of_lt_of_le hi HX0.out.size) hne).trans (HX0.out.block i hi)⟩
 have HR2 : Hid (w2.heap[rb]? = some (.cells #[.slice none 0 0, .int .i64 0, .int .i64 0, .slice none 0 0, .int .i64 0, .int .i64 0] 90 (0, 0))) := (hg.block rb (zAg.1 HR0.out).1 (fun e => by injection e with e; have := HZ0.out; omega)).trans HR0.out
 clear ho hown hrd hg
 go_wp2_with fail
 refine (treadBytes_any _ _ _ _ _).mono ?_
 rintro x w2' ⟨⟨hk, rfl⟩ | ⟨hk, rfl⟩, hw1⟩
 rotate_left
 · subst hw1
   refine ⟨rfl, HG2.out, .inr ⟨rfl, fun p rest hp he => hk (pl_key HO1.out hp he).1⟩⟩
 subst hw1 hk
 have HS32 : Hid (sb.length ≤ 32 ∧ l = bytesForm sb ++ l2) := by
  rcases HO1.out with ⟨_, h1, _, h3⟩ | ⟨h0, _⟩
  · exact ⟨by omega, h3⟩
  · exact absurd rfl h0
 obtain ⟨w3, hw3⟩ : ∃ w3, w3 = w2'.alloc (.cells #[.slice sA sb.length sc, .int .i64 0, .int .i64 0, .slice none 0 0, .int .i64 0, .int .i64 0] 90) := ⟨_, rfl⟩
 obtain ⟨pb, hpb⟩ : ∃ pb, pb = w2'.heap.size := ⟨_, rfl⟩
 have HX3 : Hid (Ext w2' w3) := by rw [hw3]; exact ext_alloc _ _
 have HP3 : Hid (w3.heap[pb]? = some (.cells #[.slice sA sb.length sc, .int .i64 0, .int .i64 0, .slice none 0 0, .int .i64 0, .int .i64 0] 90 (0, 0))) := by rw [hw3, hpb]; exact heap_at _ _ rfl
 have HNE : Hid (r < w.heap.size ∧ hi ≤ w.heap.size ∧ w.heap.size = rb ∧ rb < pb) := by
  have h1 := HZ0.out; have h2 := (zAg.1 HR2.out).1
  unfold Hid; omega
 have HRD3 : Hid (Rd w3 r lo hi l2) := HRD2.out.below HX3.out HRD2.out.top HRD2.out.lt
 have HG3 : Hid (w.grownBy w3 (some r)) := grown_ext HG2.out HX3.out
 have HK3 := zHd (HS2.out.below HX3.out)
 have HKP : Hid ((Value.slice sA sb.length sc).ownBlock ≠ some pb) := fun e => by have := (row_lt HS2.out _ e).2; omega
 have HR3 := zHd (ext_heap HX3.out HR2.out)
 go_upto_region 2 with (fail)
 rw [← hw3, ← hpb]
 clear hw3 hpb HRD HR0 HR2 HG2 HS2 HRD2
 go_wp2_with fail
 refine (tnumber_any HRD3.out).mono ?_
 rintro x w4 ⟨hg, (⟨n1, l3, rfl, hn, hb, hrd⟩ | ⟨rfl, hno⟩)⟩
 rotate_left
 · refine ⟨rfl, HG3.out.trans hg, .inr ⟨rfl, fun p rest hp he => ?_⟩⟩
   obtain ⟨_, e1, e2⟩ := pl_key HO1.out hp he
   exact absurd (hno p.n _ ⟨(Pl.small_u64 hp).2.1, e2⟩) (by have := hp.2.1; omega)
 have HNn1 := zHd (And.intro hn hb)
 have HG4 : Hid (w.grownBy w4 (some r)) := HG3.out.trans hg
 have hpb : w4.heap[pb]? = some (.cells #[.slice sA sb.length sc, .int .i64 0, .int .i64 0, .slice none 0 0, .int .i64 0, .int .i64 0] 90 (0, 0)) := (hg.block pb (zAg.1 HP3.out).1 (fun e => by injection e with e; have := HNE.out; omega)).trans HP3.out
 have HRD4' := zHd hrd
 have HR4 : Hid (w4.heap[rb]? = some (.cells #[.slice none 0 0, .int .i64 0, .int .i64 0, .slice none 0 0, .int .i64 0, .int .i64 0] 90 (0, 0))) := (hg.block rb (zAg.1 HR3.out).1 (fun e => by injection e with e; have := HNE.out; omega)).trans HR3.out
 have HK4 : Hid (Own w.heap.size sb (.slice sA sb.length sc) w4) := HK3.out.wall fun g hg' => hg.block g (row_lt HK3.out g hg').2 (fun e => by injection e with e; have := (row_lt HK3.out g hg').1; have := HNE.out; omega)
 have q := cell_of hpb (k := 1) rfl
 have z := frozen_six (j := 1) hpb
 have HPB := zHd hpb
 clear hg hn hb hrd hpb
 go_upto_region 3 with (fail)
 obtain ⟨w5, hw5⟩ : ∃ w', w' = w4.setCell ⟨pb, 1, none⟩ (.int .i64 (n1 : Int)) := ⟨_, rfl⟩
 rw [← hw5]
 have HP5 : Hid (w5.heap[pb]? = some (.cells #[.slice sA sb.length sc, .int .i64 (n1 : Int), .int .i64 0, .slice none 0 0, .int .i64 0, .int .i64 0] 90 (0, 0))) := by rw [hw5]; exact heap_setCell_same _ _ _ _ _ _ HPB.out
 have HRD5 : Hid (Rd w5 r lo hi l3) := by rw [hw5]; exact HRD4'.out.set (by have := HNE.out; omega) (by have := HNE.out; omega) _
 have HG5 : Hid (w.grownBy w5 (some r)) := by rw [hw5]; exact grown_new HG4.out (by have := HNE.out; omega)
 have HK5 : Hid (Own w.heap.size sb (.slice sA sb.length sc) w5) := by rw [hw5]; exact HK4.out.wall fun g hg' => Below.heap_setCell _ _ _ _ (fun e => HKP.out (by rw [hg', show g = pb from e]))
 have HR5 : Hid (w5.heap[rb]? = some (.cells #[.slice none 0 0, .int .i64 0, .int .i64 0, .slice none 0 0, .int .i64 0, .int .i64 0] 90 (0, 0))) := by rw [hw5]; exact (Below.heap_setCell _ _ _ _ (by have := HNE.out; show rb ≠ pb; omega)).trans HR4.out
 clear hw5 q z HPB
 go_wp2_with fail
 refine (tnumber_any HRD5.out).mono ?_
 rintro x w6 ⟨hg, (⟨n2, l4, rfl, hn, hb, hrd⟩ | ⟨rfl, hno⟩)⟩
 rotate_left
 · refine ⟨rfl, HG5.out.trans hg, .inr ⟨rfl, fun p rest hp he => ?_⟩⟩
   obtain ⟨_, e1, e2⟩ := pl_key HO1.out hp he
   obtain ⟨_, e3⟩ := HNn1.out.2.unique ⟨(Pl.small_u64 hp).2.1, e2⟩
   exact absurd (hno p.b _ ⟨(Pl.small_u64 hp).2.2.1, e3⟩) (by have := hp.2.2.1; omega)
 have HNn2 := zHd (And.intro hn hb)
 have HG6 : Hid (w.grownBy w6 (some r)) := HG5.out.trans hg
 have hpb : w6.heap[pb]? = some (.cells #[.slice sA sb.length sc, .int .i64 (n1 : Int), .int .i64 0, .slice none 0 0, .int .i64 0, .int .i64 0] 90 (0, 0)) := (hg.block pb (zAg.1 HP5.out).1 (fun e => by injection e with e; have := HNE.out; omega)).trans HP5.out
 have HRD6' := zHd hrd
 have HR6 : Hid (w6.heap[rb]? = some (.cells #[.slice none 0 0, .int .i64 0, .int .i64 0, .slice none 0 0, .int .i64 0, .int .i64 0] 90 (0, 0))) := (hg.block rb (zAg.1 HR5.out).1 (fun e => by injection e with e; have := HNE.out; omega)).trans HR5.out
 have HK6 : Hid (Own w.heap.size sb (.slice sA sb.length sc) w6) := HK5.out.wall fun g hg' => hg.block g (row_lt HK5.out g hg').2 (fun e => by injection e with e; have := (row_lt HK5.out g hg').1; have := HNE.out; omega)
 have q := cell_of hpb (k := 4) rfl
 have z := frozen_six (j := 4) hpb
 have HPB := zHd hpb
 clear hg hn hb hrd hpb
 go_upto_region 4 with (fail)
 obtain ⟨w7, hw7⟩ : ∃ w', w' = w6.setCell ⟨pb, 4, none⟩ (.int .i64 (n2 : Int)) := ⟨_, rfl⟩
 rw [← hw7]
 have HP7 : Hid (w7.heap[pb]? = some (.cells #[.slice sA sb.length sc, .int .i64 (n1 : Int), .int .i64 0, .slice none 0 0, .int .i64 (n2 : Int), .int .i64 0] 90 (0, 0))) := by rw [hw7]; exact heap_setCell_same _ _ _ _ _ _ HPB.out
 have HRD7 : Hid (Rd w7 r lo hi l4) := by rw [hw7]; exact HRD6'.out.set (by have := HNE.out; omega) (by have := HNE.out; omega) _
 have HG7 : Hid (w.grownBy w7 (some r)) := by rw [hw7]; exact grown_new HG6.out (by have := HNE.out; omega)
 have HK7 : Hid (Own w.heap.size sb (.slice sA sb.length sc) w7) := by rw [hw7]; exact HK6.out.wall fun g hg' => Below.heap_setCell _ _ _ _ (fun e => HKP.out (by rw [hg', show g = pb from e]))
 have HR7 : Hid (w7.heap[rb]? = some (.cells #[.slice none 0 0, .int .i64 0, .int .i64 0, .slice none 0 0, .int .i64 0, .int .i64 0] 90 (0, 0))) := by rw [hw7]; exact (Below.heap_setCell _ _ _ _ (by have := HNE.out; show rb ≠ pb; omega)).trans HR6.out
 clear hw7 q z HPB
 go_wp2_with fail
 refine (tnumber_any HRD7.out).mono ?_
 rintro x w8 ⟨hg, (⟨n3, l5, rfl, hn, hb, hrd⟩ | ⟨rfl, hno⟩)⟩
 rotate_left
 · refine ⟨rfl, HG7.out.trans hg, .inr ⟨rfl, fun p rest hp he => ?_⟩⟩
   obtain ⟨_, e1, e2⟩ := pl_key HO1.out hp he
   obtain ⟨_, e3⟩ := HNn1.out.2.unique ⟨(Pl.small_u64 hp).2.1, e2⟩
   obtain ⟨_, e4⟩ := HNn2.out.2.unique ⟨(Pl.small_u64 hp).2.2.1, e3⟩
   exact absurd (hno p.z _ ⟨(Pl.small_u64 hp).2.2.2, e4⟩) (by have := hp.2.2.2; omega)
 have HNn3 := zHd (And.intro hn hb)
 have HG8 : Hid (w.grownBy w8 (some r)) := HG7.out.trans hg
 have hpb : w8.heap[pb]? = some (.cells #[.slice sA sb.length sc, .int .i64 (n1 : Int), .int .i64 0, .slice none 0 0, .int .i64 (n2 : Int), .int .i64 0] 90 (0, 0)) := (hg.block pb (zAg.1 HP7.out).1 (fun e => by injection e with e; have := HNE.out; omega)).trans HP7.out
 have HRD8' := zHd hrd
 have HR8 : Hid (w8.heap[rb]? = some (.cells #[.slice none 0 0, .int .i64 0, .int .i64 0, .slice none 0 0, .int .i64 0, .int .i64 0] 90 (0, 0))) := (hg.block rb (zAg.1 HR7.out).1 (fun e => by injection e with e; have := HNE.out; omega)).trans HR7.out
 have HK8 : Hid (Own w.heap.size sb (.slice sA sb.length sc) w8) := HK7.out.wall fun g hg' => hg.block g (row_lt HK7.out g hg').2 (fun e => by injection e with e; have := (row_lt HK7.out g hg').1; have := HNE.out; omega)
 have q := cell_of hpb (k := 5) rfl
 have z := frozen_six (j := 5) hpb
 have HPB := zHd hpb
 clear hg hn hb hrd hpb
 go_upto_region 5 with (fail)
 obtain ⟨w9, hw9⟩ : ∃ w', w' = w8.setCell ⟨pb, 5, none⟩ (.int .i64 (n3 : Int)) := ⟨_, rfl⟩
 rw [← hw9]
 have HP9 : Hid (w9.heap[pb]? = some (.cells #[.slice sA sb.length sc, .int .i64 (n1 : Int), .int .i64 0, .slice none 0 0, .int .i64 (n2 : Int), .int .i64 (n3 : Int)] 90 (0, 0))) := by rw [hw9]; exact heap_setCell_same _ _ _ _ _ _ HPB.out
 have HRD9 : Hid (Rd w9 r lo hi l5) := by rw [hw9]; exact HRD8'.out.set (by have := HNE.out; omega) (by have := HNE.out; omega) _
 have HG9 : Hid (w.grownBy w9 (some r)) := by rw [hw9]; exact grown_new HG8.out (by have := HNE.out; omega)
 have HK9 : Hid (Own w.heap.size sb (.slice sA sb.length sc) w9) := by rw [hw9]; exact HK8.out.wall fun g hg' => Below.heap_setCell _ _ _ _ (fun e => HKP.out (by rw [hg', show g = pb from e]))
 have HR9 : Hid (w9.heap[rb]? = some (.cells #[.slice none 0 0, .int .i64 0, .int .i64 0, .slice none 0 0, .int .i64 0, .int .i64 0] 90 (0, 0))) := by rw [hw9]; exact (Below.heap_setCell _ _ _ _ (by have := HNE.out; show rb ≠ pb; omega)).trans HR8.out
 clear hw9 q z HPB
 have a0 := cell_of HP9.out (k := 0) rfl
 have a1 := cell_of HP9.out (k := 1) rfl
 have a2 := cell_of HP9.out (k := 2) rfl
 have a3 := cell_of HP9.out (k := 3) rfl
 have a4 := cell_of HP9.out (k := 4) rfl
 have a5 := cell_of HP9.out (k := 5) rfl
 have r0 := cell_of HR9.out (k := 0) rfl
 have y0 := frozen_six (j := 0) HR9.out
 have r1 := cell_of HR9.out (k := 1) rfl
 have y1 := frozen_six (j := 1) HR9.out
 have r2 := cell_of HR9.out (k := 2) rfl
 have y2 := frozen_six (j := 2) HR9.out
 have r3 := cell_of HR9.out (k := 3) rfl
 have y3 := frozen_six (j := 3) HR9.out
 have r4 := cell_of HR9.out (k := 4) rfl
 have y4 := frozen_six (j := 4) HR9.out
 have r5 := cell_of HR9.out (k := 5) rfl
 have y5 := frozen_six (j := 5) HR9.out
 go_wp2_with fail
 have hkr : (Value.slice sA sb.length sc).ownBlock ≠ some rb := fun e => by
  obtain ⟨_, _, c9, h9⟩ := rowN_lt HK9.out rb e
  rw [HR9.out] at h9; injection h9 with h9; injection h9 with _ h9 _; exact absurd h9 (by decide)
 have hne := HNE.out
 refine place_ret rfl rfl rfl (set_six HR9.out) rfl ⟨?_, .inl ⟨⟨sb, n1, n2, n3⟩, (sA, sc), l5, rfl, ⟨HS32.out.1, HNn1.out.1, HNn2.out.1, HNn3.out.1⟩, ?_, ?_, ?_⟩⟩
 · exact grown_new (grown_new (grown_new (grown_new (grown_new (grown_new HG9.out (by omega)) (by omega)) (by omega)) (by omega)) (by omega)) (by omega)
 · rw [HS32.out.2, HNn1.out.2.eq, HNn2.out.2.eq, HNn3.out.2.eq]
   unfold Pl.form plf
   simp only [List.append_assoc]
 · exact HK9.out.wall fun g hg => chg_six.block g (row_lt HK9.out g hg).2 (fun h => hkr (by rw [hg, show g = rb from h]))
 · exact (((((HRD9.out.set (by omega) (by omega) _).set (by omega) (by omega) _).set (by omega) (by omega) _).set (by omega) (by omega) _).set (by omega) (by omega) _).set (by omega) (by omega) _
end Go.Proofs.YtkdidghfcfcpfaaGreat
