import Derived.Test.YtkdidghfcfcpfaaGreatMb7
import Derived.Test.YtkdidghfcfcpfaaGreatMb9
import Derived.RangeFuncLeaves
import Derived.Test.YtkdidghfcfcpfaaGreatMb5
import Derived.BigRegion
import Derived.Test.YtkdidghfcfcpfaaGreatMb0
namespace Go.Proofs.YtkdidghfcfcpfaaGreat
open Go.ChangeShapes Go.WideShapes Go.ChangeAt Go.RowKit Go.Shelf
attribute [local go_sem] Oper.semAt_some
theorem wpListIn_putent {F : Fence} {nF : Nat} {ops : Array Oper} {rest : List Oper} {o : Oper} {a : Act} {Q : Exit → Act → World → Prop} {u : World} (hgd : o.guard = none) (s x : Operand)
    (ho : o.op = .call { callee := .builtin .append, args := #[s, x], argTypes := #[28, 28] }) (B : Nat) (v : Value) (R : List (Ent × Hd)) (hs : a.eval s = v) (hgot : Got B v R u)
    (p : Ent × Hd) (gb : Nat) (hx : a.eval x = .slice (some ⟨gb, 0, none⟩) 1 1) (hblk : u.heap[gb]? = some (.cells (ecells p).toArray 50 (0, 0))) (hp : Mine B p u) (hlen : R.length ≤ 1000000000000) (hB : B ≤ u.heap.size)
    (h : ∀ A' c' w', Got B (.slice A' (R.length + 1) c') (R ++ [p]) w' → u.grownBy w' v.ownBlock → (∀ g, (Value.slice A' (R.length + 1) c').ownBlock = some g → v.ownBlock = some g ∨ g = u.heap.size) → wpListIn F nF Tryz.prog ops Q rest (a.put o.dst (.slice A' (R.length + 1) c')) w') :
    wpListIn F nF Tryz.prog ops Q (o :: rest) a u := by
 obtain ⟨i0, hi0', ix0, ix1, ix2⟩ := info_parts einfo
 refine wpListIn_plain hgd fun K hK => ?_
 obtain ⟨v', w5, hr, ho2, hgr, _, hat⟩ := run_append_own_at (P := Tryz.prog) u B 28 o.type 50 i0 _ 4 64 Tryz.underlying28 hi0' ix0 ix1 ix2 rfl (by decide) v R.length (erow R) hgot.row ⟨gb, 0, none⟩ 1 1 (ecells p) rfl
  (fun j q hj => by rw [addr_add, Nat.zero_add]; exact cell_of hblk (by simpa using hj)) (fun q hq => erow_one [p] q (by simpa [erow] using hq)) (by unfold maxLen; omega) (by omega) hB
 have hke : ∀ q : Ent × Hd, Mine B q u → Mine B q w5 := fun q hq => by
  have hk : ∀ {l : List Nat} {x : Value}, Own B l x u → Own B l x w5 := fun hx => row_kept hx fun g' hg' => hgr.block g' (row_lt hx g' hg').2 (fun e => rows_apart hx hgot.row (by decide) hg' e.symm)
  exact ⟨hk hq.k, hk hq.v, hq.good⟩
 have hgot' : Got B v' (R ++ [p]) w5 := by
  refine ⟨by rw [List.length_append, erow_append]; simpa [erow] using ho2, fun q hq => ?_⟩
  rcases List.mem_append.1 hq with hq | hq
  · exact hke q (hgot.each q hq)
  · rw [List.mem_singleton] at hq; subst hq; exact hke q hp
 obtain ⟨A', c', rfl⟩ := rowN_slice ho2
 have hfin := h A' c' w5 hgot' hgr (fun g hg => by
  rcases hat with e | e
  · exact .inl (e ▸ hg)
  · rw [e] at hg; injection hg with hg; exact .inr hg.symm)
 unfold Oper.wpIn
 refine ⟨?_, ?_⟩
 · simp [Oper.about, ho, resolve, Target.leads, Sem.run_pure]
 · rw [Oper.semAt_plain F _ _ (by rw [ho]; intro c hc'; cases hc')]
   simp [execOp, ho, resolve, invoke, builtin, hs, hx, hr, Result.andThen]
   exact hK _ _ hfin
def TakenAns (w : World) (b : List Nat) (x : Ending) (w' : World) : Prop :=
 Ext w w' ∧ ((∃ (R : List (Ent × Hd)) (A : Option Addr) (c : Nat), IsB b (R.map Prod.fst) ∧ x = .returned (.slice A R.length c) ∧ Got w.heap.size (.slice A R.length c) R w') ∨ (x = .panicked gaveUp ∧ ∀ L, ¬ IsB b L))
theorem Free.grow {D D' : Nat → Prop} {v : Value} {n : Nat} (h : Free D v) (hb : ∀ b, v.ownBlock = some b → b < n) (hD : ∀ i, D' i → D i ∨ n ≤ i) : Free D' v := fun b hv hd => by
 rcases hD b hd with h1 | h1
 · exact h b hv h1
 · have := hb b hv; omega
structure TkR (base lb : Nat) (bd : List Nat) (D K : Nat → Prop) (k : Nat) (A : World) (X : Option Addr) (c : Nat) (R : List (Ent × Hd)) : Prop where
 box : Boxed A lb 28 (.slice X R.length c)
 got : Got base (.slice X R.length c) R A
 len : R.length = k
 is : ∀ L, BodyIs L bd → k ≤ L.length ∧ L.take k = R.map Prod.fst
 fd : Free D (.slice X R.length c)
 fk : Free K (.slice X R.length c)
 fe : ∀ p ∈ R, Free D (.slice p.2.kA p.1.key.length p.2.kc) ∧ Free D (.slice p.2.vA p.1.val.length p.2.vc)
structure TkI (w : World) (lb s3 : Nat) (bd : List Nat) (D K : Nat → Prop) (k : Nat) (A : World) : Prop where
 below : Below w.heap.size w A
 z : s3 ≤ A.heap.size
 dz : ∀ i, D i → s3 ≤ i
 ex : ∃ X c R, TkR w.heap.size lb bd D K k A X c R ∧ k ≤ 1024
theorem TkI.chg {w A A' : World} {lb s3 : Nat} {bd : List Nat} {D K D' K' : Nat → Prop} {k : Nat} (h : TkI w lb s3 bd D K k A) (hlb : lb < s3) (hs : w.heap.size ≤ s3) (hc : Chg D A A') (hD : ∀ i, D' i → D i ∨ A.heap.size ≤ i) (hK : ∀ i, K' i → K i ∨ A.heap.size ≤ i) : TkI w lb s3 bd D' K' k A' := by
 obtain ⟨h1, h2, h3, X, c, R, t, hk⟩ := h
 refine ⟨h1.trans (hc.below (fun i hi => zNt hs (h3 i hi)) h1.size), zNt h2 hc.size, fun i hi => by rcases hD i hi with h | h; exact h3 i h; omega, X, c, R, ⟨boxed_chg t.box hc (fun hd => by have := h3 lb hd; omega), ⟨rowN_kept t.got.row fun g hg => hc.block g (rowN_lt t.got.row g hg).2.1 (t.fd g hg), fun p hp => ?_⟩, t.len, t.is, t.fd.grow (fun b hb => (rowN_lt t.got.row b hb).2.1) hD, t.fk.grow (fun b hb => (rowN_lt t.got.row b hb).2.1) hK, fun p hp => ?_⟩, hk⟩
 · have hm := t.got.each p hp
   exact ⟨row_kept hm.k fun g hg => hc.block g (row_lt hm.k g hg).2 ((t.fe p hp).1 g hg), row_kept hm.v fun g hg => hc.block g (row_lt hm.v g hg).2 ((t.fe p hp).2 g hg), hm.good⟩
 · have hm := t.got.each p hp
   exact ⟨(t.fe p hp).1.grow (fun b hb => (row_lt hm.k b hb).2) hD, (t.fe p hp).2.grow (fun b hb => (row_lt hm.v b hb).2) hD⟩
def TkX (w : World) (lb s3 : Nat) (bd : List Nat) (c : Code) (A : World) : Prop := c = .exit 0 ∧ Below w.heap.size w A ∧ ∃ X cc R, Boxed A lb 28 (.slice X R.length cc) ∧ Got w.heap.size (.slice X R.length cc) R A ∧ R.length = 1025 ∧ (∀ L, BodyIs L bd → 1025 ≤ L.length) ∧ ∀ b, Blk (.slice X R.length cc) R b → b ≠ s3 + 1
theorem tk_box {A3 w5 : World} {lb B : Nat} {o : Obj} {X : Option Addr} {c n : Nat} {R : List (Ent × Hd)} (hb : Boxed A3 lb 28 (.slice X n c)) (hg : Got B (.slice X R.length c) R A3) (hgr : (A3.alloc o).grownBy w5 (Value.slice X R.length c).ownBlock) : Boxed w5 lb 28 (.slice X n c) :=
 (hgr.block lb (by have := hb.lt; simp; omega) (Boxed.not_row (ext_heap (ext_alloc A3 o) hb) (by decide) (hg.below (ext_alloc A3 o)).row)).trans (ext_heap (ext_alloc A3 o) hb)
theorem blk_box {W : World} {lb B : Nat} {u v : Value} {R : List (Ent × Hd)} (hb : Boxed W lb 28 u) (hg : Got B v R W) : ∀ b, Blk v R b → b ≠ lb := by
 rintro b (h | ⟨p, hp, h | h⟩) e
 · exact Boxed.not_row hb (by decide) hg.row (by rw [h, e])
 · exact Boxed.not_row hb (by decide) (hg.each p hp).k (by rw [h, e])
 · exact Boxed.not_row hb (by decide) (hg.each p hp).v (by rw [h, e])
theorem got_not {W : World} {B : Nat} {v : Value} {R : List (Ent × Hd)} (hg : Got B v R W) {b : Nat} (hb : Blk v R b) (hD : W.heap[b]? = some (.deferred (some []))) : False := by
 have hcell : ∃ c t f, W.heap[b]? = some (.cells c t f) := by
  rcases hb with h | ⟨p, hp, h | h⟩
  · obtain ⟨_, _, c, hc⟩ := rowN_lt hg.row b h; exact ⟨_, _, _, hc⟩
  · obtain ⟨_, _, c, hc⟩ := rowN_lt (hg.each p hp).k b h; exact ⟨_, _, _, hc⟩
  · obtain ⟨_, _, c, hc⟩ := rowN_lt (hg.each p hp).v b h; exact ⟨_, _, _, hc⟩
 obtain ⟨c, t, f, hc⟩ := hcell
 rw [hD] at hc; cases hc
theorem wr_lt {L : List Ent} (_hm : MayB L) (hb : ∀ e ∈ L, (∀ x ∈ e.key, x < 256) ∧ ∀ x ∈ e.val, x < 256) : ∀ x ∈ wr L, x < 256 := by
 intro x hx
 unfold wr at hx
 rcases List.mem_append.1 hx with hx | hx
 · exact upto_lt hb _ x hx
 · rcases List.mem_append.1 hx with hx | hx
   · obtain ⟨n, _, hn⟩ := List.mem_flatMap.1 hx
     exact be4_lt n x hn
   · exact be4_lt _ x hx
structure TkN (w : World) (lb : Nat) (D K : Nat → Prop) (A3 w6 : World) (X : Option Addr) (c : Nat) (R' : List (Ent × Hd)) : Prop where
 box : Boxed w6 lb 28 (.slice X R'.length c)
 got : Got w.heap.size (.slice X R'.length c) R' w6
 below : Below w.heap.size w w6
 step : StepK K A3 w6
 size : A3.heap.size ≤ w6.heap.size
 fd : Free D (.slice X R'.length c)
 fk : Free K (.slice X R'.length c)
theorem tk_next {w A3 w5 w6 : World} {lb s3 : Nat} {bd : List Nat} {D K : Nat → Prop} {k cR N c5 : Nat} {X X5 : Option Addr} {R : List (Ent × Hd)} {p : Ent × Hd} {o : Obj} (hT : TkR w.heap.size lb bd D K k A3 X cR R) (hbw : Below w.heap.size w A3) (hlb : lb < s3) (hwl : w.heap.size ≤ lb)
    (hD : ∀ i, D i → s3 ≤ i ∧ i < A3.heap.size) (hK : ∀ i, K i → s3 ≤ i ∧ i < A3.heap.size)
    (hN : N = R.length + 1) (hg5 : Got w.heap.size (.slice X5 N c5) (R ++ [p]) w5) (hgr : (A3.alloc o).grownBy w5 (Value.slice X R.length cR).ownBlock)
    (hat : ∀ g, (Value.slice X5 N c5).ownBlock = some g → (Value.slice X R.length cR).ownBlock = some g ∨ g = (A3.alloc o).heap.size) (hw6 : w6 = w5.setCell ⟨lb, 0, none⟩ (.slice X5 N c5)) : TkN w lb D K A3 w6 X5 c5 (R ++ [p]) := by
 have hlen : N = (R ++ [p]).length := by rw [hN]; simp
 subst hlen
 have hb5 := tk_box hT.box hT.got hgr
 have hb6 : Boxed w6 lb 28 (.slice X5 (R ++ [p]).length c5) := by rw [hw6]; exact hb5.set _
 have hc : Chg (fun i => (Value.slice X R.length cR).ownBlock = some i ∨ i = lb) A3 w6 := by
  rw [hw6]
  exact ((Chg.alloc (S := fun i => (Value.slice X R.length cR).ownBlock = some i ∨ i = lb) A3 o).trans (Chg.grown hgr fun g hg => .inl hg)).trans (Chg.setCell _ _ _ (.inr rfl))
 have hrow := fun g hg => rowN_lt hT.got.row g hg
 refine ⟨hb6, ?_, hbw.trans (hc.below (fun i hi => by rcases hi with hi | hi; exact (hrow i hi).1; omega) hbw.size), StepK.of_chg hc (fun i _ hk hs => by rcases hs with hs | hs; exact hT.fk i hs hk; have := hK i hk; omega), hc.size, fun g hg hd => ?_, fun g hg hd => ?_⟩
 · rw [hw6]
   exact hg5.keepS (Chg.setCell (S := fun i => i = lb) w5 ⟨lb, 0, none⟩ _ rfl) (fun b hb => blk_box hb5 hg5 b hb)
 · rcases hat g hg with h | h
   · exact hT.fd g h hd
   · have := (hD g hd).2; rw [h] at this; simp at this; omega
 · rcases hat g hg with h | h
   · exact hT.fk g h hd
   · have := (hK g hd).2; rw [h] at this; simp at this; omega
set_option maxRecDepth 100000 in
set_option maxHeartbeats 16000000 in
theorem taken_any {w : World} {lo hi : Nat} {v : Value} {b : List Nat} (hv : Bs w lo hi v b) (hhi : hi ≤ w.heap.size) (hb : ∀ x ∈ b, x < 256) (hl : b.length ≤ 1000000000) :
    Calls Tryz.prog 111 #[v] w (TakenAns w b) := by
 obtain ⟨w1, hw1⟩ : ∃ w1, w1 = w.alloc (.cells #[.slice none 0 0] 28) := ⟨_, rfl⟩
 have HX1 : Hid (Ext w w1) := by rw [hw1]; exact ext_alloc _ _
 have HZ1 : Hid (w1.heap.size = w.heap.size + 1) := by rw [hw1]; simp [Hid]
 have HB1 : Hid (Boxed w1 w.heap.size 28 (.slice none 0 0)) := by rw [hw1]; exact heap_at _ _ rfl
 have HBO := zHd (body_any (hv.below HX1.out hhi) (zNt hhi HX1.out.size) hb hl)
 have HV := zHd hv
 have HHI := zHd hhi
 have HBY := zHd hb
 have HL := zHd hl
 obtain ⟨A, c, rfl, _, _, _, _⟩ := hv
 clear hhi hb hl
 refine (callsIn_wide (n := 6)).1 ?_
 refine callsIn_of_wp_marks Tryz.func111 rfl trivial ?_
 simp only [Tryz.ntmps111, List.size_toArray, List.length_cons, List.length_nil, Nat.reduceAdd, Nat.reduceSub, Array.replicate_succ, Array.replicate_zero, List.push_toArray, List.append_toArray, List.nil_append, List.cons_append]
 refine wpIn_wide.2 ?_
 go_wp2_with fail
 rw [← hw1]
 clear hw1
 refine HBO.out.mono ?_
 rintro x w2 ⟨hx2, (⟨BA, bc, bd, rfl, hbs, hbb, hbl, h4, hbi⟩ | ⟨rfl, hno⟩)⟩
 rotate_left
 · exact ⟨zEt HX1.out hx2, .inr ⟨rfl, hno⟩⟩
 have HX2 : Hid (Ext w w2) := zEt HX1.out hx2
 have HX12 := zHd hx2
 have HBS := zHd hbs
 have HBB := zHd hbb
 have HBL := zHd (And.intro hbl h4)
 have HBI := zHd hbi
 clear hx2 hbs hbb hbl h4 hbi HBO
 go_wp2_with fail
 refine (entries_any _ _ _ _).mono ?_
 rintro x w3 ⟨rfl, hw3⟩
 have HX3 : Hid (Ext w2 w3) := by rw [hw3]; exact ext_alloc _ _
 have HZ3 : Hid (w3.heap.size = w2.heap.size + 1) := by rw [hw3]; simp [Hid]
 have HC3 : Hid (w3.cell? ⟨w2.heap.size, 0, none⟩ = some (.slice BA bd.length bc)) := by rw [hw3]; exact cell_of (heap_at _ _ rfl) rfl
 have HXW : Hid (Ext w w3) := zEt HX2.out HX3.out
 clear hw3
 go_wp2_with fail
 rename_i ak
 refine (wpIn_wide (n := 6)).1 ?_
 have HIT := zHd (entries_iter (HBS.out.below HX3.out (zNr _)) HX3.out.size HBB.out (zNt HBL.out.1 HL.out) HC3.out)
 have HLB : Hid (w.heap.size < w3.heap.size) := by have := HZ1.out; have := HX12.out.size; have := HX3.out.size; unfold Hid; omega
 refine wpIn_overP rfl enters_entries1 HIT.out (fun _ => rfl) (TkI w w.heap.size w3.heap.size bd) (TkX w w.heap.size w3.heap.size bd) (fun _ _ _ _ _ => trivial) ?hI ?hIx ?h0 ?round ?hok ?done ?pan ?stop
 case hI => exact fun D K k A1 A2 => fun D' K' h hc hD hK => h.chg HLB.out (Nat.le_of_lt HLB.out) hc hD hK
 case hIx =>
  rintro cd A1 A2 ⟨rfl, hb, X, cc, R, h1, h2, h3, h4, h5⟩ hc
  exact ⟨rfl, hb.trans (hc.below (fun i e => by have := HLB.out; omega) hb.size), X, cc, R, boxed_chg h1 hc (fun e => by have := HLB.out; omega), h2.keepS hc (fun b hb2 e => h5 b hb2 e), h3, h4, h5⟩
 case h0 =>
  intro A1 D K hx hD hK
  refine ⟨zEt HXW.out hx, hx.size, hD, none, 0, [], ⟨ext_heap (zEt (zEt HX12.out HX3.out) hx) HB1.out, Got.nil _ _, rfl, fun L _ => ⟨Nat.zero_le _, rfl⟩, fun b hb => (by cases hb), fun b hb => (by cases hb), fun p hp => (by cases hp)⟩, Nat.zero_le _⟩
 case round =>
  rintro l D K k ⟨e, g⟩ A1 rfl hDl hKl hD hK hi ⟨hek, hm, hf1, hf2⟩
  have HI1 := zHd hi
  have HEK := zHd hek
  have HM1 := zHd hm
  have HFR := zHd (And.intro hf1 hf2)
  have HDK := zHd (And.intro hD hK)
  have HLK := zHd (And.intro hDl hKl)
  clear hDl hKl hD hK hi hek hm hf1 hf2
  dsimp only at HEK HFR
  dsimp only [entV, Ent.at_]
  gi_wp2
  obtain ⟨A2, hA2⟩ : ∃ A2, A2 = A1.alloc (.cells #[.slice g.kA e.key.length g.kc, .int .i64 e.seq, .int .i64 e.kind, .slice g.vA e.val.length g.vc] 50) := ⟨_, rfl⟩
  rw [← hA2]
  have HX2 : Hid (Ext A1 A2) := by rw [hA2]; exact ext_alloc _ _
  have HBE : Hid (A2.heap[A1.heap.size]? = some (.cells #[.slice g.kA e.key.length g.kc, .int .i64 e.seq, .int .i64 e.kind, .slice g.vA e.val.length g.vc] 50 (0, 0))) := by rw [hA2]; exact heap_at _ _ rfl
  clear hA2
  refine ⟨StepK.of_chg (S := fun _ => False) (Chg.of_ext HX2.out) (fun _ _ _ h => h), fun A3 hc => ?_⟩
  have HC23 := zHd hc
  have HCH : Hid (Chg D A1 A3) := ((Chg.of_ext (S := D) HX2.out).trans (hc.mono fun i _ e => by rw [e]; exact HLK.out.1))
  have HI3 := zHd (HI1.out.chg HLB.out (Nat.le_of_lt HLB.out) HCH.out (fun i h => .inl h) (fun i h => .inl h))
  obtain ⟨X, cR, R, hT, hk1024⟩ := HI3.out.ex
  have HT := zHd hT
  have HM3 : Hid (Mine w.heap.size (e, g) A3) := by
   have hk := HM1.out.base (B' := w.heap.size) HXW.out.size
   exact ⟨row_kept hk.k fun b hb => HCH.out.block b (row_lt hk.k b hb).2 (HFR.out.1 b hb), row_kept hk.v fun b hb => HCH.out.block b (row_lt hk.v b hb).2 (HFR.out.2 b hb), hk.good⟩
  have HB3 : Hid (A3.heap[A1.heap.size]? = some (.cells #[.slice g.kA e.key.length g.kc, .int .i64 e.seq, .int .i64 e.kind, .slice g.vA e.val.length g.vc] 50 (0, 0))) :=
   (hc.block _ (zAg.1 HBE.out).1 (fun e => by have := HDK.out.2 _ HLK.out.2; omega)).trans HBE.out
  have HRL : Hid (R.length = k ∧ k ≤ 1024) := ⟨HT.out.len, hk1024⟩
  have q0 := hT.box.cell
  have e0 := cell_of HB3.out (k := 0) rfl
  have e1 := cell_of HB3.out (k := 1) rfl
  have e2 := cell_of HB3.out (k := 2) rfl
  have e3 := cell_of HB3.out (k := 3) rfl
  have HZA : Hid (w.heap.size ≤ A3.heap.size ∧ w3.heap.size ≤ A3.heap.size ∧ A1.heap.size < A3.heap.size) := ⟨by have := HI3.out.z; have := HLB.out; omega, HI3.out.z, (zAg.1 HB3.out).1⟩
  clear hc hT hk1024
  obtain ⟨N, hN⟩ : ∃ N, N = R.length + 1 := ⟨_, rfl⟩
  have HN := zHd hN
  by_cases hbig : 1024 < N
  · have d : decide ((1024 : Int) < (N : Int)) = true := by rw [decide_eq_true_eq]; exact Int.ofNat_lt.2 hbig
    have dn : decide (1024 < N) = true := by rw [decide_eq_true_eq]; exact hbig
    have HBIG := zHd hbig
    clear hbig hN
    gi_wp2_with (gi_at_builtin; refine wpListIn_putent rfl (.tmp 11) (.tmp 13) rfl w.heap.size _ R rfl (HT.out.got.below (ext_alloc _ _)) (e, g) A3.heap.size rfl (heap_at _ _ rfl) (HM3.out.below (ext_alloc _ _)) (by have := HRL.out; omega) (zNt HZA.out.1 (by simp)) ?_; rw [← HN.out]; intro X5 c5 w5 hgot5 hgr5 hat5; have HG5 := zHd hgot5; have HGR5 := zHd hgr5; have HAT5 := zHd hat5; have q1 := tk_box HT.out.box HT.out.got hgr5; have HQ1 := zHd q1; have q2 := q1.cell; have q3 := q1.frozen; clear hgot5 hgr5 hat5 q1)
    obtain ⟨w6, hw6⟩ : ∃ w6, w6 = w5.setCell ⟨w.heap.size, 0, none⟩ (.slice X5 N c5) := ⟨_, rfl⟩
    rw [← hw6]
    have hnx := tk_next HT.out HI3.out.below HLB.out (zNr _) (fun i h => ⟨(HDK.out.1 i h).1, by have := (HDK.out.1 i h).2; have := HZA.out; omega⟩) (fun i h => ⟨(HDK.out.2 i h).1, by have := (HDK.out.2 i h).2; have := HZA.out; omega⟩) HN.out HG5.out HGR5.out HAT5.out hw6
    clear hw6 q2 q3
    have hl := HLK.out
    refine ⟨hnx.step, rfl, hnx.below, X5, c5, R ++ [(e, g)], hnx.box, hnx.got, ?_, fun L hL => ?_, ?_⟩
    · have := HRL.out; have := HBIG.out; have := HN.out; simp; omega
    · have h1 := (zLg.1 (HEK.out L hL)).1
      have := HRL.out; have := HBIG.out; have := HN.out; omega
    · rintro b (h | ⟨p, hp, h⟩) e1
      · subst e1; exact hnx.fk _ h hl.2
      · subst e1
        rcases List.mem_append.1 hp with hp | hp
        · rcases h with h | h
          · exact (HT.out.fe p hp).1 _ h hl.1
          · exact (HT.out.fe p hp).2 _ h hl.1
        · rw [List.mem_singleton] at hp; subst hp
          rcases h with h | h
          · exact HFR.out.1 _ h hl.1
          · exact HFR.out.2 _ h hl.1
  · have d : decide ((1024 : Int) < (N : Int)) = false := by rw [decide_eq_false_iff_not]; exact fun h => hbig (Int.ofNat_lt.1 h)
    have dn : decide (1024 < N) = false := by rw [decide_eq_false_iff_not]; exact hbig
    have HBIG := zHd hbig
    clear hbig hN
    gi_wp2_with (gi_at_builtin; refine wpListIn_putent rfl (.tmp 11) (.tmp 13) rfl w.heap.size _ R rfl (HT.out.got.below (ext_alloc _ _)) (e, g) A3.heap.size rfl (heap_at _ _ rfl) (HM3.out.below (ext_alloc _ _)) (by have := HRL.out; omega) (zNt HZA.out.1 (by simp)) ?_; rw [← HN.out]; intro X5 c5 w5 hgot5 hgr5 hat5; have HG5 := zHd hgot5; have HGR5 := zHd hgr5; have HAT5 := zHd hat5; have q1 := tk_box HT.out.box HT.out.got hgr5; have HQ1 := zHd q1; have q2 := q1.cell; have q3 := q1.frozen; clear hgot5 hgr5 hat5 q1)
    obtain ⟨w6, hw6⟩ : ∃ w6, w6 = w5.setCell ⟨w.heap.size, 0, none⟩ (.slice X5 N c5) := ⟨_, rfl⟩
    rw [← hw6]
    have hnx := tk_next HT.out HI3.out.below HLB.out (zNr _) (fun i h => ⟨(HDK.out.1 i h).1, by have := (HDK.out.1 i h).2; have := HZA.out; omega⟩) (fun i h => ⟨(HDK.out.2 i h).1, by have := (HDK.out.2 i h).2; have := HZA.out; omega⟩) HN.out HG5.out HGR5.out HAT5.out hw6
    clear hw6 q2 q3
    refine ⟨hnx.step, hnx.below, by have := hnx.size; have := HZA.out; omega, fun i h => (HDK.out.1 i h).1, X5, c5, R ++ [(e, g)], ⟨hnx.box, hnx.got, ?_, fun L hL => ?_, hnx.fd, hnx.fk, fun p hp => ?_⟩, ?_⟩
    · rw [List.length_append, HRL.out.1]; rfl
    · have h1 := HEK.out L hL
      obtain ⟨h2, h3⟩ := HT.out.is L hL
      have h4 := (zLg.1 h1).1
      refine ⟨h4, ?_⟩
      rw [List.take_add_one, h3, h1, List.map_append]; rfl
    · rcases List.mem_append.1 hp with hp | hp
      · exact HT.out.fe p hp
      · rw [List.mem_singleton] at hp; subst hp; exact HFR.out
    · have := HRL.out; have := HBIG.out; have := HN.out; omega
 case hok =>
  rintro D K D' K' k x A1 ⟨h1, h2, h3, h4⟩ ⟨od, hd⟩ ⟨ol, hl⟩ hD' _ _ _
  have hfr : ∀ {l : List Nat} {u : Value}, Own w3.heap.size l u A1 → Free D u → Free D' u := fun ho hf b hb hd' => by
   obtain ⟨_, _, cc, hcc⟩ := rowN_lt ho b hb
   rcases hD' b hd' with h | h | h
   · exact hf b hb h
   · rw [h, hd] at hcc; cases hcc
   · rw [h, hl] at hcc; cases hcc
  exact ⟨h1, h2, hfr h2.k h3, hfr h2.v h4⟩
 case done =>
  rintro D k W D0 K0 hDl hi hdn hD
  obtain ⟨X, cR, R, t, hk⟩ := hi.ex
  have HBOX := zHd t.box
  have HGOT := zHd t.got
  have HLEN : Hid (R.length ≤ 1025) := by have := t.len; unfold Hid; omega
  have HBW := zHd hi.below
  have HDD := zHd hD
  have HDL := zHd hDl
  have HEQ : Hid (∀ L, IsB b L → L = R.map Prod.fst) := fun L hL => by
   have hB := HBI.out L hL
   have h1 := (t.is L hB).2
   have h2 := hdn L hB
   rw [← h2, List.take_length] at h1
   exact h1
  clear hDl hi hdn hD t hk
  refine ak _ _ ?_
  have q0 := HBOX.out.cell
  have HW := zHd (write_any (c := cR) HGOT.out.rs (zNr _) HGOT.out.capd.1 (by have := HLEN.out; omega))
  go_wp2_with fail
  refine HW.out.mono ?_
  rintro x w4 ⟨hx4, (⟨hmb, B, cb, rfl, hown⟩ | ⟨hmb, rfl⟩)⟩
  · have HX4 := zHd hx4
    have HMB := zHd hmb
    have HOW := zHd hown
    have HB4 : Hid (Below w.heap.size w w4) := HBW.out.trans (hx4.mono HBW.out.size)
    have HEQL := zHd (bequal_any hown.bs (HV.out.below (HBW.out.trans (hx4.mono HBW.out.size)) HHI.out) (wr_lt hmb (fun e he => by obtain ⟨p, hp, rfl⟩ := List.mem_map.1 he; exact ⟨(HGOT.out.each p hp).good.bk, (HGOT.out.each p hp).good.bv⟩)) HBY.out)
    have q1 := ext_cell hx4 q0
    have HDD4 : Hid (w4.heap[D]? = some (.deferred (some []))) := ext_heap hx4 HDD.out
    have HG4 := zHd (HGOT.out.below hx4)
    clear hx4 hmb hown q0
    go_wp2_with fail
    refine HEQL.out.mono ?_
    rintro x w5 ⟨⟨z, hz, rfl⟩, rfl⟩
    have HZ := zHd hz
    clear hz
    have HF : Hid (Below w.heap.size w (w5.putObj D (.deferred none))) := HB4.out.trans ((putObj_chg w5 D _).below (fun i e => by have := HDL.out; have := HLB.out; omega) HB4.out.size)
    have HGF : Hid (Got w.heap.size (.slice X R.length cR) R (w5.putObj D (.deferred none))) := HG4.out.keepS (putObj_chg w5 D _) (fun bb hbb e => got_not HG4.out hbb (by rw [e]; exact HDD4.out))
    cases z with
    | true =>
     have HIS : Hid (IsB b (R.map Prod.fst)) := ⟨HMB.out, HZ.out.1 rfl⟩
     go_wp2_with fail
     refine ⟨by simp, .inl ⟨_, _, rfl, run_takeDeferred HDD4.out, ?_⟩⟩
     exact ⟨_, results_tmp rfl _ _ _, HF.out, .inl ⟨R, X, cR, HIS.out, rfl, HGF.out⟩⟩
    | false =>
     have HNO : Hid (∀ L, ¬ IsB b L) := fun L hL => by
      have h1 := HEQ.out L hL
      have h2 := HZ.out.2 (by rw [← h1]; exact hL.2)
      cases h2
     go_wp2_with fail
     refine (giveUp_any _).mono ?_
     rintro x w6 ⟨rfl, rfl⟩
     refine ⟨by simp, .inl ⟨_, _, rfl, run_takeDeferred HDD4.out, ?_⟩⟩
     exact ⟨HF.out, .inr ⟨rfl, HNO.out⟩⟩
  · have HX4 := zHd hx4
    have HB4 : Hid (Below w.heap.size w w4) := HBW.out.trans (hx4.mono HBW.out.size)
    have HEQL := zHd (bequal_any (Bs.nil w4 0 0) (HV.out.below (HBW.out.trans (hx4.mono HBW.out.size)) HHI.out) (by simp) HBY.out)
    have HDD4 : Hid (w4.heap[D]? = some (.deferred (some []))) := ext_heap hx4 HDD.out
    have HNO : Hid (∀ L, ¬ IsB b L) := fun L hL => hmb (by rw [← HEQ.out L hL]; exact hL.1)
    clear hx4 hmb q0
    go_wp2_with fail
    refine HEQL.out.mono ?_
    rintro x w5 ⟨⟨z, hz, rfl⟩, rfl⟩
    have hz0 : z = false := by
     cases z with
     | false => rfl
     | true => have h1 := hz.1 rfl; have h2 := HBL.out.2; rw [← h1] at h2; simp at h2
    subst hz0
    clear hz
    have HF : Hid (Below w.heap.size w (w5.putObj D (.deferred none))) := HB4.out.trans ((putObj_chg w5 D _).below (fun i e => by have := HDL.out; have := HLB.out; omega) HB4.out.size)
    go_wp2_with fail
    refine (giveUp_any _).mono ?_
    rintro x w6 ⟨rfl, rfl⟩
    refine ⟨by simp, .inl ⟨_, _, rfl, run_takeDeferred HDD4.out, ?_⟩⟩
    exact ⟨HF.out, .inr ⟨rfl, HNO.out⟩⟩
 case pan =>
  rintro D k W D0 K0 ch hDl hi ⟨rfl, hno⟩ hD
  have hbw := hi.below
  refine ⟨by simp, .inl ⟨_, _, rfl, run_takeDeferred hD, ?_⟩⟩
  exact ⟨hbw.trans ((putObj_chg W D _).below (fun i e => by have := HLB.out; omega) hbw.size), .inr ⟨rfl, fun L hL => hno L (HBI.out L hL)⟩⟩
 case stop =>
  rintro D cd W hDl ⟨rfl, hb, X, cR, R, h1, h2, h3, h4, h5⟩ hD
  have HBOX := zHd h1
  have HGOT := zHd h2
  have HLEN : Hid (R.length ≤ 1025) := Nat.le_of_eq h3
  have HBW := zHd hb
  have HDD := zHd hD
  have HDL := zHd hDl
  have HEQ : Hid (∀ L, IsB b L → L = R.map Prod.fst) := fun L hL => by
   have h6 := h4 L (HBI.out L hL)
   have h7 := hL.1.2.1
   omega
  clear hDl hb h1 h2 h3 h4 h5 hD
  refine wpIn_wide.2 ?_
  have q0 := HBOX.out.cell
  have HW := zHd (write_any (c := cR) HGOT.out.rs (zNr _) HGOT.out.capd.1 (by have := HLEN.out; omega))
  go_wp2_with fail
  refine HW.out.mono ?_
  rintro x w4 ⟨hx4, (⟨hmb, B, cb, rfl, hown⟩ | ⟨hmb, rfl⟩)⟩
  · have HX4 := zHd hx4
    have HMB := zHd hmb
    have HOW := zHd hown
    have HB4 : Hid (Below w.heap.size w w4) := HBW.out.trans (hx4.mono HBW.out.size)
    have HEQL := zHd (bequal_any hown.bs (HV.out.below (HBW.out.trans (hx4.mono HBW.out.size)) HHI.out) (wr_lt hmb (fun e he => by obtain ⟨p, hp, rfl⟩ := List.mem_map.1 he; exact ⟨(HGOT.out.each p hp).good.bk, (HGOT.out.each p hp).good.bv⟩)) HBY.out)
    have q1 := ext_cell hx4 q0
    have HDD4 : Hid (w4.heap[D]? = some (.deferred (some []))) := ext_heap hx4 HDD.out
    have HG4 := zHd (HGOT.out.below hx4)
    clear hx4 hmb hown q0
    go_wp2_with fail
    refine HEQL.out.mono ?_
    rintro x w5 ⟨⟨z, hz, rfl⟩, rfl⟩
    have HZ := zHd hz
    clear hz
    have HF : Hid (Below w.heap.size w (w5.putObj D (.deferred none))) := HB4.out.trans ((putObj_chg w5 D _).below (fun i e => by have := HDL.out; have := HLB.out; omega) HB4.out.size)
    have HGF : Hid (Got w.heap.size (.slice X R.length cR) R (w5.putObj D (.deferred none))) := HG4.out.keepS (putObj_chg w5 D _) (fun bb hbb e => got_not HG4.out hbb (by rw [e]; exact HDD4.out))
    cases z with
    | true =>
     have HIS : Hid (IsB b (R.map Prod.fst)) := ⟨HMB.out, HZ.out.1 rfl⟩
     go_wp2_with fail
     refine ⟨by simp, .inl ⟨_, _, rfl, run_takeDeferred HDD4.out, ?_⟩⟩
     exact ⟨_, results_tmp rfl _ _ _, HF.out, .inl ⟨R, X, cR, HIS.out, rfl, HGF.out⟩⟩
    | false =>
     have HNO : Hid (∀ L, ¬ IsB b L) := fun L hL => by
      have h1 := HEQ.out L hL
      have h2 := HZ.out.2 (by rw [← h1]; exact hL.2)
      cases h2
     go_wp2_with fail
     refine (giveUp_any _).mono ?_
     rintro x w6 ⟨rfl, rfl⟩
     refine ⟨by simp, .inl ⟨_, _, rfl, run_takeDeferred HDD4.out, ?_⟩⟩
     exact ⟨HF.out, .inr ⟨rfl, HNO.out⟩⟩
  · have HX4 := zHd hx4
    have HB4 : Hid (Below w.heap.size w w4) := HBW.out.trans (hx4.mono HBW.out.size)
    have HEQL := zHd (bequal_any (Bs.nil w4 0 0) (HV.out.below (HBW.out.trans (hx4.mono HBW.out.size)) HHI.out) (by simp) HBY.out)
    have HDD4 : Hid (w4.heap[D]? = some (.deferred (some []))) := ext_heap hx4 HDD.out
    have HNO : Hid (∀ L, ¬ IsB b L) := fun L hL => hmb (by rw [← HEQ.out L hL]; exact hL.1)
    clear hx4 hmb q0
    go_wp2_with fail
    refine HEQL.out.mono ?_
    rintro x w5 ⟨⟨z, hz, rfl⟩, rfl⟩
    have hz0 : z = false := by
     cases z with
     | false => rfl
     | true => have h1 := hz.1 rfl; have h2 := HBL.out.2; rw [← h1] at h2; simp at h2
    subst hz0
    clear hz
    have HF : Hid (Below w.heap.size w (w5.putObj D (.deferred none))) := HB4.out.trans ((putObj_chg w5 D _).below (fun i e => by have := HDL.out; have := HLB.out; omega) HB4.out.size)
    go_wp2_with fail
    refine (giveUp_any _).mono ?_
    rintro x w6 ⟨rfl, rfl⟩
    refine ⟨by simp, .inl ⟨_, _, rfl, run_takeDeferred HDD4.out, ?_⟩⟩
    exact ⟨HF.out, .inr ⟨rfl, HNO.out⟩⟩
end Go.Proofs.YtkdidghfcfcpfaaGreat
namespace Go.Proofs.YtkdidghfcfcpfaaGreat
open Go.ChangeShapes Go.WideShapes Go.ChangeAt Go.RowKit
def plOf (p : List Ent) (a : Nat) : Pl := ⟨((p.getLast?).map Ent.key).getD [], ((p.getLast?).map fun e => e.seq.toNat).getD 0, a, (wr p).length⟩
def offB (C : List (List Ent)) (k : Nat) : Nat := (blks (C.take k)).length
def pls (C : List (List Ent)) : List Pl := (List.range C.length).map fun k => plOf (C.getD k []) (offB C k)
theorem pls_length (C : List (List Ent)) : (pls C).length = C.length := by simp [pls]
theorem pls_at {C : List (List Ent)} {k : Nat} {p : List Ent} (h : C[k]? = some p) : (pls C)[k]? = some (plOf p (offB C k)) := by
 obtain ⟨hk, rfl⟩ := zLg.1 h
 unfold pls
 rw [List.getElem?_map, List.getElem?_range hk]
 simp [List.getD, List.getElem?_eq_getElem hk]
theorem plOf_form {p : List Ent} (h : p ≠ []) (a : Nat) : (plOf p a).form = idx1 p a (wr p).length := by
 unfold plOf idx1 Pl.form plf
 cases hl : p.getLast? with
 | none => rw [List.getLast?_eq_none_iff] at hl; exact absurd hl h
 | some e => rfl
theorem blks_snoc (C : List (List Ent)) (p : List Ent) : blks (C ++ [p]) = blks C ++ wr p := by unfold blks; rw [List.flatMap_append]; simp
theorem idxs_snoc : ∀ (C : List (List Ent)) (a : Nat) (p : List Ent), idxs a (C ++ [p]) = idxs a C ++ idx1 p (a + (blks C).length) (wr p).length
 | [], a, p => by simp [idxs, blks]
 | q :: C, a, p => by
  have h := idxs_snoc C (a + (wr q).length) p
  have e : (blks (q :: C)).length = (wr q).length + (blks C).length := by unfold blks; rw [List.flatMap_cons, List.length_append]
  rw [List.cons_append, idxs, h, idxs, List.append_assoc, e, Nat.add_assoc]
theorem pf_take {C : List (List Ent)} (hc : Cuts C) : ∀ k, k ≤ C.length → pf ((pls C).take k) = idxs 0 (C.take k)
 | 0, _ => rfl
 | k + 1, h => by
  have hk : k < C.length := by omega
  have hp := List.getElem?_eq_getElem hk
  obtain ⟨h1, h2⟩ := zLg.1 (pls_at hp)
  rw [List.take_succ_eq_append_getElem hk, idxs_snoc, ← pf_take hc k (by omega), List.take_succ_eq_append_getElem h1, h2]
  unfold pf
  rw [List.map_append, List.flatten_append]
  simp only [List.map_cons, List.map_nil, List.flatten_cons, List.flatten_nil, List.append_nil]
  rw [plOf_form (cuts_piece hc _ (List.getElem_mem hk)).1, Nat.zero_add]
  rfl
theorem pform_pls {C : List (List Ent)} (hc : Cuts C) : pform (pls C) = index C := by
 unfold pform index
 have h := pf_take hc C.length (zNr _)
 rw [List.take_length, List.take_of_length_le (by rw [pls_length]; exact zNr _)] at h
 rw [pls_length, h]
theorem offB_succ {C : List (List Ent)} {k : Nat} {p : List Ent} (h : C[k]? = some p) : blks (C.take (k + 1)) = blks (C.take k) ++ wr p := by
 obtain ⟨hk, rfl⟩ := zLg.1 h
 rw [List.take_succ_eq_append_getElem hk, blks_snoc]
theorem blks_take_le (C : List (List Ent)) (k : Nat) : (blks (C.take k)).length ≤ (blks C).length := by
 have h : blks C = blks (C.take k) ++ blks (C.drop k) := by unfold blks; rw [← List.flatMap_append, List.take_append_drop]
 rw [h, List.length_append]; omega
theorem pls_take {C : List (List Ent)} {k : Nat} {p : List Ent} (h : C[k]? = some p) : (pls C).take (k + 1) = (pls C).take k ++ [plOf p (offB C k)] := by
 obtain ⟨h1, h2⟩ := zLg.1 (pls_at h)
 rw [List.take_succ_eq_append_getElem h1, h2]
theorem plOf_ok {C : List (List Ent)} {k : Nat} {p : List Ent} (h : C[k]? = some p) (hm : ∀ e ∈ C.flatten, e.may = true) (hb : (blks C).length ≤ 269144064) : (plOf p (offB C k)).ok := by
 have hs := offB_succ h
 have h1 := blks_take_le C (k + 1)
 rw [hs, List.length_append] at h1
 have hp := List.mem_of_getElem? h
 unfold Pl.ok plOf offB
 simp only []
 cases hl : p.getLast? with
 | none => simp only [Option.map_none, Option.getD_none, List.length_nil]; omega
 | some e =>
  obtain ⟨m1, m2, m3, m4, _⟩ := mayN_iff.1 (hm e (List.mem_flatten.2 ⟨p, hp, List.mem_of_getLast? hl⟩))
  simp only [Option.map_some, Option.getD_some]
  omega
theorem pls_ok {C : List (List Ent)} (hm : ∀ e ∈ C.flatten, e.may = true) (hb : (blks C).length ≤ 269144064) : ∀ p ∈ pls C, p.ok := by
 intro p hp
 obtain ⟨k, hk, rfl⟩ := List.mem_iff_getElem.1 hp
 have hk2 : k < C.length := by rw [pls_length] at hk; exact hk
 have h := pls_at (List.getElem?_eq_getElem hk2)
 rw [List.getElem?_eq_getElem hk] at h
 injection h with h
 rw [h]
 exact plOf_ok (List.getElem?_eq_getElem hk2) hm hb
theorem pinfo : (Tryz.prog.info? 90).map (fun i => (i.zero, i.size, i.bytes)) = some (some (.agg #[.slice none 0 0, .int .i64 0, .int .i64 0, .slice none 0 0, .int .i64 0, .int .i64 0]), 6, 80) := by kernel_rfl
theorem wpListIn_pushplace {F : Fence} {nF : Nat} {ops : Array Oper} {rest : List Oper} {o : Oper} {a : Act} {Q : Exit → Act → World → Prop} {u : World} (hgd : o.guard = none) (s x : Operand)
    (ho : o.op = .call { callee := .builtin .append, args := #[s, x], argTypes := #[83, 83] }) (B : Nat) (v : Value) (R : List (Pl × PHd)) (hs : a.eval s = v) (hown : u.ownsRow B 90 6 v R.length (prow R))
    (p : Pl × PHd) (gb : Nat) (hx : a.eval x = .slice (some ⟨gb, 0, none⟩) 1 1) (hblk : u.heap[gb]? = some (.cells (pcells p).toArray 90 (0, 0))) (hlen : R.length ≤ 1000000000) (hB : B ≤ u.heap.size)
    (h : ∀ A' c' w', w'.ownsRow B 90 6 (.slice A' (R.length + 1) c') (R.length + 1) (prow (R ++ [p])) → u.grownBy w' v.ownBlock → wpListIn F nF Tryz.prog ops Q rest (a.put o.dst (.slice A' (R.length + 1) c')) w') :
    wpListIn F nF Tryz.prog ops Q (o :: rest) a u := by
 obtain ⟨i0, hi0', ix0, ix1, ix2⟩ := info_parts pinfo
 refine wpListIn_append_own _ hgd s x 83 ho B 90 i0 _ 6 80 Tryz.underlying83 hi0' ix0 ix1 ix2 rfl (by decide) v R.length (prow R) hs hown ⟨gb, 0, none⟩ 1 1 (pcells p) hx rfl (fun j q hj => ?n1) (fun q hq => ?n2) ?n3 ?n4 hB (fun v' w5 ho hgr _ => ?rest)
 case n1 => rw [addr_add, Nat.zero_add]; exact cell_of hblk (by simpa using hj)
 case n2 => exact prow_one [p] q (by simpa [prow] using hq)
 case n3 => unfold maxLen; omega
 case n4 => omega
 case rest =>
  have ho' : w5.ownsRow B 90 6 v' (R.length + 1) (prow (R ++ [p])) := by rw [prow_append]; simpa [prow] using ho
  have hsl : ∃ A' c', v' = .slice A' (R.length + 1) c' := by
   rcases ho'.2 with ⟨e, h0⟩ | ⟨g, cap, cur, e, _⟩
   · omega
   · exact ⟨_, _, e⟩
  obtain ⟨A', c', rfl⟩ := hsl
  exact h A' c' w5 ho' hgr
theorem wpListIn_addrow {F : Fence} {nF : Nat} {ops : Array Oper} {rest : List Oper} {o : Oper} {a : Act} {Q : Exit → Act → World → Prop} {u : World} (hgd : o.guard = none) (s x : Operand)
    (ho : o.op = .call { callee := .builtin .append, args := #[s, x], argTypes := #[22, 22] }) (B : Nat) (v : Value) (l : List Nat) (hs : a.eval s = v) (hown : Own B l v u)
    (lo hi : Nat) (y : Value) (r : List Nat) (hx : a.eval x = y) (hy : Bs u lo hi y r) (hr : 0 < r.length) (hlen : l.length + r.length ≤ 1099511627776) (hB : B ≤ u.heap.size)
    (h : ∀ A' c' w', Own B (l ++ r) (.slice A' (l ++ r).length c') w' → u.grownBy w' v.ownBlock → wpListIn F nF Tryz.prog ops Q rest (a.put o.dst (.slice A' (l ++ r).length c')) w') :
    wpListIn F nF Tryz.prog ops Q (o :: rest) a u := by
 obtain ⟨i0, hi0, ix0, ix1, ix2⟩ := info_parts t5info
 obtain ⟨A, c, rfl, h1, h2, hnil, hby⟩ := hy
 obtain ⟨b, o', e, _, _, hc⟩ := hby.at_ (i := 0) hr
 subst e
 have hcells : ∀ j q, (bv r)[j]? = some q → u.cell? ((⟨b, o', none⟩ : Addr).add j) = some q := fun j q hj => by
  rcases hby with h0 | ⟨b2, o2, e2, _, _, h3⟩
  · rw [h0] at hj; simp at hj
  · have e3 : b = b2 := congrArg Addr.block (Option.some.inj e2)
    have e4 : o' = o2 := congrArg Addr.off (Option.some.inj e2)
    subst e3 e4
    rw [addr_add]; exact h3 j q hj
 refine wpListIn_append_own _ hgd s x 22 ho B 5 i0 (.int .u8 0) 1 1 Tryz.underlying22 hi0 ix0 ix1 ix2 rfl (by decide) v l.length (bv l) hs hown ⟨b, o', none⟩ r.length c (bv r) hx (by rw [bv_length]; omega) hcells (bv_one r) (by unfold maxLen; omega) (by omega) hB (fun v' w' ho' hg _ => ?_)
 have hown' : Own B (l ++ r) v' w' := by unfold Own; rw [List.length_append, bv_append]; exact ho'
 obtain ⟨A', c', rfl⟩ := hown'.slice
 exact h A' c' w' hown' hg
def tgaveUp : List PanicEntry := [{ v := .iface 25 (.int .i64 10), recovered := false }]
theorem tgiveUp_any (w : World) : Calls Tryz.prog 70 #[] w fun e w' => e = .panicked tgaveUp ∧ w' = w := by
 go_enter Tryz.func70, Tryz.ntmps70
 go_wp2
 exact ⟨rfl, rfl, rfl⟩
def TGaveOr (v : Value) (n : Int) (w : World) (e : Ending) (w' : World) : Prop := (n = 0 ∧ e = .returned v ∨ n ≠ 0 ∧ e = .panicked tgaveUp) ∧ w' = w
theorem treadNum_any (v : Int) (n : Int) (w : World) : Calls Tryz.prog 167 #[.int .u64 v, .int .i64 n] w (TGaveOr (.int .u64 v) n w) := by
 by_cases h : n = 0
 · subst h
   go_enter Tryz.func167, Tryz.ntmps167
   go_wp2_with fail
   go_ret
   exact ⟨.inl ⟨rfl, rfl⟩, rfl⟩
 · have d : (n != 0) = true := by simpa using h
   have H := zHd h
   clear h
   go_enter Tryz.func167, Tryz.ntmps167
   go_wp2_with fail
   refine (tgiveUp_any _).mono ?_
   rintro e w' ⟨rfl, rfl⟩
   exact ⟨rfl, .inr ⟨H.out, rfl⟩, rfl⟩
theorem treadBytes_any (A : Option Addr) (k c : Nat) (n : Int) (w : World) : Calls Tryz.prog 152 #[.slice A k c, .int .i64 n] w (TGaveOr (.slice A k c) n w) := by
 by_cases h : n = 0
 · subst h
   go_enter Tryz.func152, Tryz.ntmps152
   go_wp2_with fail
   go_ret
   exact ⟨.inl ⟨rfl, rfl⟩, rfl⟩
 · have d : (n != 0) = true := by simpa using h
   have H := zHd h
   clear h
   go_enter Tryz.func152, Tryz.ntmps152
   go_wp2_with fail
   refine (tgiveUp_any _).mono ?_
   rintro e w' ⟨rfl, rfl⟩
   exact ⟨rfl, .inr ⟨H.out, rfl⟩, rfl⟩
theorem treadPl_any (A : Option Addr) (k c : Nat) (n : Int) (w : World) : Calls Tryz.prog 128 #[.slice A k c, .int .i64 n] w (TGaveOr (.slice A k c) n w) := by
 by_cases h : n = 0
 · subst h
   go_enter Tryz.func128, Tryz.ntmps128
   go_wp2_with fail
   go_ret
   exact ⟨.inl ⟨rfl, rfl⟩, rfl⟩
 · have d : (n != 0) = true := by simpa using h
   have H := zHd h
   clear h
   go_enter Tryz.func128, Tryz.ntmps128
   go_wp2_with fail
   refine (tgiveUp_any _).mono ?_
   rintro e w' ⟨rfl, rfl⟩
   exact ⟨rfl, .inr ⟨H.out, rfl⟩, rfl⟩
theorem treadEnt_any (A : Option Addr) (k c : Nat) (n : Int) (w : World) : Calls Tryz.prog 108 #[.slice A k c, .int .i64 n] w (TGaveOr (.slice A k c) n w) := by
 by_cases h : n = 0
 · subst h
   go_enter Tryz.func108, Tryz.ntmps108
   go_wp2_with fail
   go_ret
   exact ⟨.inl ⟨rfl, rfl⟩, rfl⟩
 · have d : (n != 0) = true := by simpa using h
   have H := zHd h
   clear h
   go_enter Tryz.func108, Tryz.ntmps108
   go_wp2_with fail
   refine (tgiveUp_any _).mono ?_
   rintro e w' ⟨rfl, rfl⟩
   exact ⟨rfl, .inr ⟨H.out, rfl⟩, rfl⟩
theorem or_u64 {x y : Nat} (hx : x < 4294967296) (hy : y < 4294967296) : bits .or .u64 (x : Int) (y : Int) = ((x ||| y : Nat) : Int) := by
 have h1 : (BitVec.ofInt 64 (x : Int)).toNat = x := by
  rw [BitVec.ofInt_natCast, BitVec.toNat_ofNat]; exact Nat.mod_eq_of_lt (by omega)
 have h2 : (BitVec.ofInt 64 (y : Int)).toNat = y := by
  rw [BitVec.ofInt_natCast, BitVec.toNat_ofNat]; exact Nat.mod_eq_of_lt (by omega)
 have h3 : x ||| y < 2 ^ 32 := Nat.or_lt_two_pow (by omega) (by omega)
 show IntKind.u64.wrap ((BitVec.ofInt 64 (x : Int) ||| BitVec.ofInt 64 (y : Int)).toNat : Int) = _
 rw [BitVec.toNat_or, h1, h2, IntKind.wrap_u64]
 omega
theorem or_byteU {m c : Nat} (hm : m < 16777216) (hc : c < 256) : bits .or .u64 (IntKind.u64.wrap ((m : Int) * 256)) (c : Int) = ((m * 256 + c : Nat) : Int) := by
 have e : IntKind.u64.wrap ((m : Int) * 256) = ((m * 256 : Nat) : Int) := by rw [IntKind.wrap_u64]; omega
 rw [e, or_u64 (by omega) (by omega)]
 have : m * 256 ||| c = m * 256 + c := by
  have := Nat.shiftLeft_add_eq_or_of_lt (i := 8) (b := c) (by simpa using hc) m
  simpa [Nat.shiftLeft_eq] using this.symm
 rw [this]
theorem enters_index1 : ∀ args w, (callFunc 151 args).run Tryz.prog w = .ok (.enter 151 args) w := enters_of Tryz.func151 (by kernel_rfl) rfl
set_option maxHeartbeats 1000000 in
theorem index1_any {w : World} {fb lo hi c : Nat} {A : Option Addr} {l : List Nat} (hb : Boxed w fb 22 (.slice A l.length c)) (hv : Bs w lo hi (.slice A l.length c) l) (h4 : 4 ≤ l.length) (hl : ∀ x ∈ l, x < 256) (hfb : hi ≤ fb) :
    Calls Tryz.prog 151 #[.pointer (some ⟨fb, 0, none⟩)] w fun x w' => x = .returned (.int .u64 (num4 (l.take 4) : Nat)) ∧ Chg (fun i => i = fb) w w' ∧ ∃ A2 c2, Boxed w' fb 22 (.slice A2 (l.drop 4).length c2) ∧ Bs w' lo hi (.slice A2 (l.drop 4).length c2) (l.drop 4) := by
 have c0 := hb.cell
 have z0 := hb.frozen
 have HB := zHd hb
 have HV := zHd hv
 obtain ⟨_, hc1, hc2⟩ := hv.len
 obtain ⟨A2, hA2, _, hr2⟩ := cut_run A l.length c 4 l.length h4 (zNr _) hc1
 have hr2 : ∀ w, (Instr.slice 22 (.slice A l.length c) (some (.int .i64 4)) none none).run Tryz.prog w = .ok (.slice A2 (l.length - 4) (c - 4)) w := hr2 rfl
 have hb2 := hA2 _ _ _ _ hv
 rw [List.take_of_length_le (by simp)] at hb2
 have HB2 := zHd hb2
 obtain ⟨A3, hA3, _, hr3⟩ := head_run .i64 A l.length c 4 h4 hc1
 have hr3 : ∀ w, (Instr.slice 22 (.slice A l.length c) none (some (.int .i64 4)) none).run Tryz.prog w = .ok (.slice A3 4 c) w := hr3
 obtain ⟨_, _, e, _, _, _, hby⟩ := hv
 injection e with e1 _ e2
 subst e1 e2
 have HT : Hid (By w lo hi A3 (l.take 4)) := hA3 l rfl _ _ _ hby
 obtain ⟨t, ht⟩ : ∃ t, t = l.take 4 := ⟨_, rfl⟩
 rw [← ht] at HT ⊢
 have HT4 : Hid (t.length = 4) := by rw [ht, List.length_take]; unfold Hid; omega
 have HTB : Hid (∀ x ∈ t, x < 256) := fun x hx => hl x (List.mem_of_mem_take (by rw [← ht]; exact hx))
 have HFB := zHd hfb
 have hdl : (l.drop 4).length = l.length - 4 := List.length_drop
 have HDL := zHd hdl
 rw [← hdl] at hr2
 rw [← hdl] at HB2
 obtain ⟨tb, tq, rfl⟩ : ∃ x y, A3 = some ⟨x, y, none⟩ := by
  obtain ⟨b', o, e, _⟩ := HT.out.at_ (i := 0) (by rw [HT4.out]; omega)
  exact ⟨_, _, e⟩
 clear hb hA2 hb2 hA3 hby hc2 hc1 hl h4 ht hfb hdl
 go_enter Tryz.func151, Tryz.ntmps151
 go_wp2_with fail
 go_loopw [2, 4, 8] (fun m y i wr => ∃ (k r : Nat), k ≤ 4 ∧ i = .int .i64 (k : Int) ∧ m = .int .u64 (r : Int) ∧ Hid (r = num4 (t.take k)) ∧ wr = w) (fun _ _ i _ => 4 - (intOf i).toNat)
 case atStart => exact ⟨0, 0, Nat.zero_le _, rfl, rfl, rfl, rfl⟩
 case round =>
  obtain ⟨k, r, hk, rfl, rfl, HR, rfl⟩ := hrel
  by_cases hlt : k < 4
  · have hkl : k < t.length := by rw [HT4.out]; exact hlt
    obtain ⟨b', o', e1, _, _, hc⟩ := HT.out.at_ hkl
    injection e1 with e1
    injection e1 with e1 e2
    subst e1 e2
    obtain ⟨y, hy⟩ : ∃ y, y = t[k] := ⟨_, rfl⟩
    rw [← hy] at hc
    have HM : Hid (r < 16777216) := by rw [HR.out]; exact num4_lt3 HT4.out HTB.out hlt
    have hc256 : y < 256 := by rw [hy]; exact HTB.out _ (List.getElem_mem hkl)
    have HO := zHd (or_byteU HM.out hc256)
    have HTT : Hid (num4 (t.take (k + 1)) = r * 256 + y) := by rw [HR.out, hy]; exact num4_take hkl
    have n1 : (0 : Int) ≤ (k : Int) := by omega
    have n2 : (k : Int) < 4 := by omega
    clear hy
    go_wp2_with fail
    go_roundw
    case rel =>
     refine ⟨k + 1, r * 256 + y, by omega, by go_num, ?_, HTT.out.symm, ?_⟩
     · rw [HO.out]
     · trivial
    case measure => simp [intOf]; omega
  · clear HT
    obtain rfl : k = 4 := by omega
    have hr : r = num4 t := by rw [HR.out, List.take_of_length_le (by rw [HT4.out]; exact zNr _)]
    have HRE := zHd hr
    clear hr
    go_wp2_with fail
    go_ret
    refine ⟨by rw [← HRE.out]; rfl, Chg.setCell _ _ _ rfl, A2, c - 4, ?_, HB2.out.setCell (.inr HFB.out) _⟩
    rw [HDL.out]
    exact HB.out.set _
theorem tb_index {C : List (List Ent)} {L : List Ent} (h : MayT L) (hc : Cuts C) (hf : C.flatten = L) : 28 ≤ (tb C L).length ∧ (tb C L).take ((tb C L).length - 28) = ahd C L ∧
    num4 (((tb C L).drop ((tb C L).length - 28)).take 4) = (blks C).length ∧ num4 ((((tb C L).drop ((tb C L).length - 28)).drop 4).take 4) = (index C).length ∧ (blks C).length + (index C).length ≤ (ahd C L).length ∧ ((ahd C L).drop (blks C).length).take (index C).length = index C := by
 have hfw := few h hc hf
 have e1 : (tb C L).length - 28 = (ahd C L).length := by rw [tb_len]; omega
 have ht : (tb C L).take (ahd C L).length = ahd C L := by unfold tb; rw [List.take_left]
 have hd : (tb C L).drop (ahd C L).length = foot24 C L ++ be4 (Bl.crc (foot24 C L)) := by unfold tb; rw [List.drop_left]
 refine ⟨by rw [tb_len]; omega, by rw [e1, ht], ?_, ?_, by unfold ahd; simp, by unfold ahd; simp⟩
 · rw [e1, hd]; exact num4_be4 (by have := hfw.b; omega)
 · rw [e1, hd]; exact num4_be4 (by have := hfw.i; omega)
theorem headB_run (kl : IntKind) (A : Option Addr) (n c k : Nat) (hk : k ≤ n) (hc : n ≤ c) : ∃ A2, (∀ (W : World) (lo hi : Nat) (l : List Nat), Bs W lo hi (.slice A n c) l → Bs W lo hi (.slice A2 k c) (l.take k)) ∧
    ∀ w, (Instr.slice 22 (.slice A n c) none (some (.int kl (k : Int))) none).run Tryz.prog w = .ok (.slice A2 k c) w := by
 obtain ⟨A2, h1, h2, h3⟩ := head_run kl A n c k hk hc
 refine ⟨A2, fun W lo hi l h => ?_, h3⟩
 obtain ⟨A', c', he, a1, a2, a3, a4⟩ := h
 injection he with x1 x2 x3
 subst x1 x2 x3
 have hl : (l.take k).length = k := by rw [List.length_take]; omega
 exact ⟨A2, c, by rw [hl], by omega, a2, fun e => a3 (h2 e), h1 l rfl W lo hi a4⟩
theorem cutU_run (A : Option Addr) (n c k j : Nat) (hkj : k ≤ j) (hjn : j ≤ n) (hc : n ≤ c) : ∃ A2, (∀ (W : World) (lo hi : Nat) (l : List Nat), Bs W lo hi (.slice A n c) l → Bs W lo hi (.slice A2 (j - k) (c - k)) ((l.drop k).take (j - k))) ∧
    (∀ w, (Instr.slice 22 (.slice A n c) (some (.int .u64 (k : Int))) (some (.int .u64 (j : Int))) none).run Tryz.prog w = .ok (.slice A2 (j - k) (c - k)) w) := by
 obtain ⟨i0, hi, _, hz1, _⟩ := info_parts t5info
 have he : Tryz.prog.underlying 22 = some (.slice (Tryz.prog.elem 22)) := by kernel_rfl
 have hs : ∀ w, (sizeOf (Tryz.prog.elem 22)).run Tryz.prog w = .ok 1 w := fun w => by
  have e : Tryz.prog.elem 22 = 5 := by kernel_rfl
  rw [e]
  simp [Go.sizeOf, typeInfo, hi, hz1]
 refine ⟨if c = k then A else A.map (·.add k), fun W lo hi' l h => ?_, fun w => ?_⟩
 · obtain ⟨A', c', he, a1, a2, a3, a4⟩ := h
   injection he with x1 x2 x3
   subst x1 x2 x3
   have h2 := By.drop (k := k) (cap := c) a4 (by omega) (by omega)
   have hl : ((l.drop k).take (j - k)).length = j - k := by simp; omega
   refine ⟨(if c = k then A else A.map (·.add k)), c - k, by rw [hl], by rw [hl]; omega, by omega, fun hn => ?_, ?_⟩
   · split at hn
     · have := a3 hn; omega
     · cases A with
       | none => have := a3 rfl; omega
       | some a => simp at hn
   · unfold By
     rw [bv_take]
     exact Sl.take h2 _
 · rw [run_slice_lh w 22 A n c he .u64 .u64 (k : Int) (j : Int) (by omega) (by omega) (by omega), hs]
   simp [Result.andThen, sliced]
def IdxAns (w : World) (lo hi : Nat) (b : List Nat) (x : Ending) (w' : World) : Prop :=
 Ext w w' ∧ ((∃ (A : Option Addr) (c : Nat) (l : List Nat), x = .returned (.slice A l.length c) ∧ Bs w' lo hi (.slice A l.length c) l ∧ (∀ y ∈ l, y < 256) ∧ l.length ≤ b.length ∧ 28 ≤ b.length ∧ ∀ C L, MayT L → Cuts C → C.flatten = L → tb C L = b → l = index C) ∨
  (x = .panicked tgaveUp ∧ ∀ L, ¬ IsT b L))
set_option maxRecDepth 100000 in
set_option maxHeartbeats 4000000 in
theorem index_any {w : World} {lo hi c : Nat} {A : Option Addr} {b : List Nat} (hv : Bs w lo hi (.slice A b.length c) b) (hhi : hi ≤ w.heap.size) (hb : ∀ x ∈ b, x < 256) (hl : b.length ≤ 1000000000) :
    Calls Tryz.prog 131 #[.slice A b.length c] w (IdxAns w lo hi b) := by
 have HHI := zHd hhi
 have HB := zHd hb
 have HL := zHd hl
 obtain ⟨_, hc1, _⟩ := hv.len
 rcases Nat.lt_or_ge b.length 28 with h4 | h4
 · have d : decide ((b.length : Int) < 28) = true := by rw [decide_eq_true_eq]; omega
   have H4 := zHd h4
   clear h4 hv hhi hb hl hc1
   go_enter Tryz.func131, Tryz.ntmps131
   go_wp2_with fail
   refine (tgiveUp_any _).mono ?_
   rintro x w' ⟨rfl, rfl⟩
   refine ⟨rfl, Ext.refl _, .inr ⟨rfl, fun L h => ?_⟩⟩
   obtain ⟨hm, C, hf, hcu, rfl⟩ := h
   exact absurd (tb_index hm hcu hf).1 (by have := H4.out; omega)
 obtain ⟨n, hn⟩ : ∃ n, n = b.length - 28 := ⟨_, rfl⟩
 have HN : Hid (b.length = n + 28) := by unfold Hid; omega
 have ew : wrap64 ((b.length : Int) - 28) = (n : Int) := by unfold wrap64; omega
 have d : decide ((b.length : Int) < 28) = false := by rw [decide_eq_false_iff_not]; omega
 obtain ⟨A2, hA2, _, hr2o⟩ := cut_run A b.length c n b.length (by omega) (zNr _) hc1
 have hr2 : ∀ w, (Instr.slice 22 (.slice A b.length c) (some (.int .i64 (n : Int))) none none).run Tryz.prog w = .ok (.slice A2 28 (c - n)) w := fun w => by rw [hr2o rfl, HN.out]; congr 2; omega
 clear hr2o
 obtain ⟨ft, hft⟩ : ∃ ft, ft = b.drop n := ⟨_, rfl⟩
 have HF28 : Hid (ft.length = 28) := by rw [hft, List.length_drop]; unfold Hid; omega
 have hbf := hA2 _ _ _ _ hv
 rw [List.take_of_length_le (by simp), ← hft, show b.length - n = ft.length by rw [HF28.out]; omega] at hbf
 have HBF := zHd hbf
 obtain ⟨A3, hA3, hr3⟩ := headB_run .i64 A b.length c n (by omega) hc1
 obtain ⟨ah, hah⟩ : ∃ ah, ah = b.take n := ⟨_, rfl⟩
 have HAN : Hid (ah.length = n) := by rw [hah, List.length_take]; unfold Hid; omega
 have hba := hA3 _ _ _ _ hv
 rw [← hah] at hba
 have HBA := zHd hba
 have HFE : Hid (ft = b.drop (b.length - 28)) := by rw [hft, hn]; exact rfl
 have HAE : Hid (ah = b.take (b.length - 28)) := by rw [hah, hn]; exact rfl
 have HFL : Hid (∀ x ∈ ft, x < 256) := fun x hx => hb x (List.mem_of_mem_drop (by rw [← hft]; exact hx))
 clear hv hhi hb hl hc1 h4 hn hA2 hbf hA3 hba hah hft
 go_enter Tryz.func131, Tryz.ntmps131
 have hen := enters_index1
 go_upto_region 3 with (fail)
 go_region
 obtain ⟨w1, hw1⟩ : ∃ w1, w1 = (w.alloc (.cells #[.slice A2 28 (c - n)] 22)).drew := ⟨_, rfl⟩
 rw [← hw1]
 have HX1 : Hid (Ext w w1) := by rw [hw1]; exact (ext_alloc _ _).trans (Ext.drew _)
 have hbx : Boxed w1 w.heap.size 22 (.slice A2 ft.length (c - n)) := by rw [hw1, HF28.out]; exact heap_at w _ rfl
 have hbf := HBF.out.below HX1.out HHI.out
 have HI1 := zHd (index1_any hbx hbf (by rw [HF28.out]; omega) HFL.out HHI.out)
 clear hw1 hbx hbf
 go_wp2_with fail
 refine HI1.out.mono ?_
 rintro x w2 ⟨rfl, hc2, A4, c4, hb4, hv4⟩
 have HX2 : Hid (Ext w w2) := Below.trans HX1.out (hc2.below (fun i hi => by rw [hi]; exact zNr _) HX1.out.size)
 have HI2 := zHd (index1_any hb4 hv4 (by rw [List.length_drop, HF28.out]; omega) (fun x hx => HFL.out x (List.mem_of_mem_drop hx)) HHI.out)
 clear hc2 hb4 hv4
 obtain ⟨x, hx⟩ : ∃ x, x = num4 (ft.take 4) := ⟨_, rfl⟩
 have HX := zHd hx
 have HXL : Hid (x < 4294967296) := by rw [hx]; exact num4_lt (by rw [List.length_take, HF28.out]; rfl) fun y hy => HFL.out y (List.mem_of_mem_take hy)
 rw [← hx]
 clear hx
 go_wp2_with fail
 refine HI2.out.mono ?_
 rintro x' w3 ⟨rfl, hc3, A5, c5, hb5, hv5⟩
 have HX3 : Hid (Ext w w3) := Below.trans HX2.out (hc3.below (fun i hi => by rw [hi]; exact zNr _) HX2.out.size)
 clear hc3 hb5 hv5
 obtain ⟨y, hy⟩ : ∃ y, y = num4 ((ft.drop 4).take 4) := ⟨_, rfl⟩
 have HY := zHd hy
 have HYL : Hid (y < 4294967296) := by rw [hy]; exact num4_lt (by rw [List.length_take, List.length_drop, HF28.out]; rfl) fun z hz => HFL.out z (List.mem_of_mem_drop (List.mem_of_mem_take hz))
 rw [← hy]
 clear hy
 have e1 : IntKind.u64.wrap ((x : Int) + (y : Int)) = ((x + y : Nat) : Int) := by rw [IntKind.wrap_u64]; have := HXL.out; have := HYL.out; omega
 have e2 : IntKind.u64.wrap (n : Int) = (n : Int) := by rw [IntKind.wrap_u64]; have := HN.out; have := HL.out; omega
 obtain ⟨z, hz⟩ : ∃ z, z = x + y := ⟨_, rfl⟩
 rw [← hz] at e1
 by_cases hgt : n < z
 · have dg : decide ((n : Int) < (z : Int)) = true := by rw [decide_eq_true_eq]; omega
   have dgn : decide (n < z) = true := by rw [decide_eq_true_eq]; exact hgt
   have HGT := zHd (And.intro hgt hz)
   clear hgt hz
   go_wp2_with fail
   refine (tgiveUp_any _).mono ?_
   rintro x' w' ⟨rfl, rfl⟩
   refine ⟨rfl, HX3.out, .inr ⟨rfl, fun L h => ?_⟩⟩
   obtain ⟨hm, C, hf, hcu, rfl⟩ := h
   obtain ⟨_, h2, h3, h4, h5, _⟩ := tb_index hm hcu hf
   rw [← HFE.out] at h3 h4
   rw [← HAE.out] at h2
   rw [← HX.out] at h3
   rw [← HY.out] at h4
   rw [← h2, HAN.out, ← h3, ← h4] at h5
   have := HGT.out
   omega
 · have dg : decide ((n : Int) < (z : Int)) = false := by rw [decide_eq_false_iff_not]; omega
   have dgn : decide (n < z) = false := by rw [decide_eq_false_iff_not]; exact hgt
   obtain ⟨A6, hA6, hr6⟩ := cutU_run A3 n c x z (by omega) (by omega) (by have := HBA.out.len; omega)
   have HA6 := zHd (hA6 _ _ _ _ (HBA.out.below HX3.out HHI.out))
   have hln : ((ah.drop x).take (z - x)).length = z - x := by rw [List.length_take, List.length_drop, HAN.out]; omega
   have HZ := zHd hz
   have HLN := zHd hln
   have HZN : Hid (z ≤ n) := by unfold Hid; omega
   clear hA6 hz hgt hln
   go_wp2_with fail
   go_ret
   refine ⟨HX3.out, .inl ⟨A6, c - x, (ah.drop x).take (z - x), by rw [HLN.out]; rfl, by rw [HLN.out]; exact HA6.out, fun y hy => HB.out y (by have h1 := List.mem_of_mem_drop (List.mem_of_mem_take hy); rw [HAE.out] at h1; exact List.mem_of_mem_take h1), by rw [HLN.out]; have := HN.out; have := HZN.out; omega, by have := HN.out; omega, fun C L hm hcu hf hb => ?_⟩⟩
   subst hb
   obtain ⟨_, h2, h3, h4, h5, h6⟩ := tb_index hm hcu hf
   rw [← HFE.out] at h3 h4
   rw [← HAE.out] at h2
   rw [← HX.out] at h3
   rw [← HY.out] at h4
   rw [h2, h3, show z - (blks C).length = (index C).length by have := HZ.out; omega]
   exact h6
end Go.Proofs.YtkdidghfcfcpfaaGreat
