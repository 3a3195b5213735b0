/- Ktaken Kread Kfirst Splain Shgt Smem Krget, joined. -/
import Derived.Test.YtddfelahpiokjaaMb8
import Derived.RangeFuncLeaves
import Derived.Defers
import Derived.Recover
import Derived.Test.YtddfelahpiokjaaMb2
import Derived.Lib.TrailingZeros
import Derived.Test.YtddfelahpiokjaaMb4
import Derived.Test.YtddfelahpiokjaaMb5
import Derived.Laws.ResultCell

/- taken: the entries of a block's bytes, or it gives up. -/
namespace Go.Proofs.Ytddfelahpiokjaa
open Go.ChangeShapes Go.WideShapes Go.ChangeAt Go.RowKit Go.Shelf
attribute [local go_sem] Oper.semAt_some

/-- 'append(l, e)', within a fence; where the row then lies. -/
theorem wpListIn_putent {F : Fence} {nF : Nat} {ops : Array Oper} {rest : List Oper} {o : Oper} {a : Act} {Q : Exit → Act → World → Prop} {u : World} (hgd : o.guard = none) (s x : Operand)
    (ho : o.op = .call { callee := .builtin .append, args := #[s, x], argTypes := #[24, 24] }) (B : Nat) (v : Value) (R : List (Ent × Hd)) (hs : a.eval s = v) (hgot : Got B v R u)
    (p : Ent × Hd) (gb : Nat) (hx : a.eval x = .slice (some ⟨gb, 0, none⟩) 1 1) (hblk : u.heap[gb]? = some (.cells (ecells p).toArray 37 (0, 0))) (hp : Mine B p u) (hlen : R.length ≤ 1000000000000) (hB : B ≤ u.heap.size)
    (h : ∀ A' c' w', Got B (.slice A' (R.length + 1) c') (R ++ [p]) w' → u.grownBy w' v.ownBlock → (∀ g, (Value.slice A' (R.length + 1) c').ownBlock = some g → v.ownBlock = some g ∨ g = u.heap.size) → wpListIn F nF Try.prog ops Q rest (a.put o.dst (.slice A' (R.length + 1) c')) w') :
    wpListIn F nF Try.prog ops Q (o :: rest) a u := by
  obtain ⟨i0, hi0', ix0, ix1, ix2⟩ := info_parts einfo
  refine wpListIn_plain hgd fun K hK => ?_
  obtain ⟨v', w5, hr, ho2, hgr, _, hat⟩ := run_append_own_at (P := Try.prog) u B 24 o.type 37 i0 _ 4 64 Try.underlying24 hi0' ix0 ix1 ix2 rfl (by decide) v R.length (erow R) hgot.row ⟨gb, 0, none⟩ 1 1 (ecells p) rfl
    (fun j q hj => by rw [addr_add, Nat.zero_add]; exact cell_of hblk (by simpa using hj)) (fun q hq => erow_one [p] q (by simpa [erow] using hq)) (by unfold maxLen; omega) (by omega) hB
  have hke : ∀ q : Ent × Hd, Mine B q u → Mine B q w5 := fun q hq => by
    have hk : ∀ {l : List Nat} {x : Value}, Own B l x u → Own B l x w5 := fun hx => row_kept hx fun g' hg' => hgr.block g' (row_lt hx g' hg').2 (fun e => rows_apart hx hgot.row (by decide) hg' e.symm)
    exact ⟨hk hq.k, hk hq.v, hq.good⟩
  have hgot' : Got B v' (R ++ [p]) w5 := by
    refine ⟨by rw [List.length_append, erow_append]; simpa [erow] using ho2, fun q hq => ?_⟩
    rcases List.mem_append.1 hq with hq | hq
    · exact hke q (hgot.each q hq)
    · rw [List.mem_singleton] at hq; subst hq; exact hke q hp
  obtain ⟨A', c', rfl⟩ := rowN_slice ho2
  have hfin := h A' c' w5 hgot' hgr (fun g hg => by
    rcases hat with e | e
    · exact .inl (e ▸ hg)
    · rw [e] at hg; injection hg with hg; exact .inr hg.symm)
  unfold Oper.wpIn
  refine ⟨?_, ?_⟩
  · simp [Oper.about, ho, resolve, Target.leads, Sem.run_pure]
  · rw [Oper.semAt_plain F _ _ (by rw [ho]; intro c hc'; cases hc')]
    simp [execOp, ho, resolve, invoke, builtin, hs, hx, hr, Result.andThen]
    exact hK _ _ hfin

/-- What taken answers. -/
def TakenAns (w : World) (b : List Nat) (x : Ending) (w' : World) : Prop :=
  Ext w w' ∧ ((∃ (R : List (Ent × Hd)) (A : Option Addr) (c : Nat), IsB b (R.map Prod.fst) ∧ x = .returned (.slice A R.length c) ∧ Got w.heap.size (.slice A R.length c) R w') ∨ (x = .panicked gaveUp ∧ ∀ L, ¬ IsB b L))

theorem Free.grow {D D' : Nat → Prop} {v : Value} {n : Nat} (h : Free D v) (hb : ∀ b, v.ownBlock = some b → b < n) (hD : ∀ i, D' i → D i ∨ n ≤ i) : Free D' v := fun b hv hd => by
  rcases hD b hd with h1 | h1
  · exact h b hv h1
  · have := hb b hv; omega
/-- What is collected between two rounds. -/
structure TkR (base lb : Nat) (bd : List Nat) (D K : Nat → Prop) (k : Nat) (A : World) (X : Option Addr) (c : Nat) (R : List (Ent × Hd)) : Prop where
  box : Boxed A lb 24 (.slice X R.length c)
  got : Got base (.slice X R.length c) R A
  len : R.length = k
  is : ∀ L, BodyIs L bd → k ≤ L.length ∧ L.take k = R.map Prod.fst
  fd : Free D (.slice X R.length c)
  fk : Free K (.slice X R.length c)
  fe : ∀ p ∈ R, Free D (.slice p.2.kA p.1.key.length p.2.kc) ∧ Free D (.slice p.2.vA p.1.val.length p.2.vc)
structure TkI (w : World) (lb s3 : Nat) (bd : List Nat) (D K : Nat → Prop) (k : Nat) (A : World) : Prop where
  below : Below w.heap.size w A
  z : s3 ≤ A.heap.size
  dz : ∀ i, D i → s3 ≤ i
  ex : ∃ X c R, TkR w.heap.size lb bd D K k A X c R ∧ k ≤ 1024
theorem TkI.chg {w A A' : World} {lb s3 : Nat} {bd : List Nat} {D K D' K' : Nat → Prop} {k : Nat} (h : TkI w lb s3 bd D K k A) (hlb : lb < s3) (hs : w.heap.size ≤ s3) (hc : Chg D A A') (hD : ∀ i, D' i → D i ∨ A.heap.size ≤ i) (hK : ∀ i, K' i → K i ∨ A.heap.size ≤ i) : TkI w lb s3 bd D' K' k A' := by
  obtain ⟨h1, h2, h3, X, c, R, t, hk⟩ := h
  refine ⟨h1.trans (hc.below (fun i hi => Nat.le_trans hs (h3 i hi)) h1.size), Nat.le_trans h2 hc.size, fun i hi => by rcases hD i hi with h | h; exact h3 i h; omega, X, c, R, ⟨boxed_chg t.box hc (fun hd => by have := h3 lb hd; omega), ⟨rowN_kept t.got.row fun g hg => hc.block g (rowN_lt t.got.row g hg).2.1 (t.fd g hg), fun p hp => ?_⟩, t.len, t.is, t.fd.grow (fun b hb => (rowN_lt t.got.row b hb).2.1) hD, t.fk.grow (fun b hb => (rowN_lt t.got.row b hb).2.1) hK, fun p hp => ?_⟩, hk⟩
  · have hm := t.got.each p hp
    exact ⟨row_kept hm.k fun g hg => hc.block g (row_lt hm.k g hg).2 ((t.fe p hp).1 g hg), row_kept hm.v fun g hg => hc.block g (row_lt hm.v g hg).2 ((t.fe p hp).2 g hg), hm.good⟩
  · have hm := t.got.each p hp
    exact ⟨(t.fe p hp).1.grow (fun b hb => (row_lt hm.k b hb).2) hD, (t.fe p hp).2.grow (fun b hb => (row_lt hm.v b hb).2) hD⟩
/-- What is collected when it is left: one too many. -/
def TkX (w : World) (lb s3 : Nat) (bd : List Nat) (c : Code) (A : World) : Prop := c = .exit 0 ∧ Below w.heap.size w A ∧ ∃ X cc R, Boxed A lb 24 (.slice X R.length cc) ∧ Got w.heap.size (.slice X R.length cc) R A ∧ R.length = 1025 ∧ (∀ L, BodyIs L bd → 1025 ≤ L.length) ∧ ∀ b, Blk (.slice X R.length cc) R b → b ≠ s3 + 1

theorem tk_box {A3 w5 : World} {lb B : Nat} {o : Obj} {X : Option Addr} {c n : Nat} {R : List (Ent × Hd)} (hb : Boxed A3 lb 24 (.slice X n c)) (hg : Got B (.slice X R.length c) R A3) (hgr : (A3.alloc o).grownBy w5 (Value.slice X R.length c).ownBlock) : Boxed w5 lb 24 (.slice X n c) :=
  (hgr.block lb (by have := hb.lt; simp; omega) (Boxed.not_row (ext_heap (ext_alloc A3 o) hb) (by decide) (hg.below (ext_alloc A3 o)).row)).trans (ext_heap (ext_alloc A3 o) hb)

theorem blk_box {W : World} {lb B : Nat} {u v : Value} {R : List (Ent × Hd)} (hb : Boxed W lb 24 u) (hg : Got B v R W) : ∀ b, Blk v R b → b ≠ lb := by
  rintro b (h | ⟨p, hp, h | h⟩) e
  · exact Boxed.not_row hb (by decide) hg.row (by rw [h, e])
  · exact Boxed.not_row hb (by decide) (hg.each p hp).k (by rw [h, e])
  · exact Boxed.not_row hb (by decide) (hg.each p hp).v (by rw [h, e])
theorem got_not {W : World} {B : Nat} {v : Value} {R : List (Ent × Hd)} (hg : Got B v R W) {b : Nat} (hb : Blk v R b) (hD : W.heap[b]? = some (.deferred (some []))) : False := by
  have hcell : ∃ c t f, W.heap[b]? = some (.cells c t f) := by
    rcases hb with h | ⟨p, hp, h | h⟩
    · obtain ⟨_, _, c, hc⟩ := rowN_lt hg.row b h; exact ⟨_, _, _, hc⟩
    · obtain ⟨_, _, c, hc⟩ := rowN_lt (hg.each p hp).k b h; exact ⟨_, _, _, hc⟩
    · obtain ⟨_, _, c, hc⟩ := rowN_lt (hg.each p hp).v b h; exact ⟨_, _, _, hc⟩
  obtain ⟨c, t, f, hc⟩ := hcell
  rw [hD] at hc; cases hc
theorem wr_lt {L : List Ent} (_hm : MayB L) (hb : ∀ e ∈ L, (∀ x ∈ e.key, x < 256) ∧ ∀ x ∈ e.val, x < 256) : ∀ x ∈ wr L, x < 256 := by
  intro x hx
  unfold wr at hx
  rcases List.mem_append.1 hx with hx | hx
  · exact upto_lt hb _ x hx
  · rcases List.mem_append.1 hx with hx | hx
    · obtain ⟨n, _, hn⟩ := List.mem_flatMap.1 hx
      exact be4_lt n x hn
    · exact be4_lt _ x hx
/-- What stands behind an append. -/
structure TkN (w : World) (lb : Nat) (D K : Nat → Prop) (A3 w6 : World) (X : Option Addr) (c : Nat) (R' : List (Ent × Hd)) : Prop where
  box : Boxed w6 lb 24 (.slice X R'.length c)
  got : Got w.heap.size (.slice X R'.length c) R' w6
  below : Below w.heap.size w w6
  step : StepK K A3 w6
  size : A3.heap.size ≤ w6.heap.size
  fd : Free D (.slice X R'.length c)
  fk : Free K (.slice X R'.length c)
theorem tk_next {w A3 w5 w6 : World} {lb s3 : Nat} {bd : List Nat} {D K : Nat → Prop} {k cR N c5 : Nat} {X X5 : Option Addr} {R : List (Ent × Hd)} {p : Ent × Hd} {o : Obj} (hT : TkR w.heap.size lb bd D K k A3 X cR R) (hbw : Below w.heap.size w A3) (hlb : lb < s3) (hwl : w.heap.size ≤ lb)
    (hD : ∀ i, D i → s3 ≤ i ∧ i < A3.heap.size) (hK : ∀ i, K i → s3 ≤ i ∧ i < A3.heap.size)
    (hN : N = R.length + 1) (hg5 : Got w.heap.size (.slice X5 N c5) (R ++ [p]) w5) (hgr : (A3.alloc o).grownBy w5 (Value.slice X R.length cR).ownBlock)
    (hat : ∀ g, (Value.slice X5 N c5).ownBlock = some g → (Value.slice X R.length cR).ownBlock = some g ∨ g = (A3.alloc o).heap.size) (hw6 : w6 = w5.setCell ⟨lb, 0, none⟩ (.slice X5 N c5)) : TkN w lb D K A3 w6 X5 c5 (R ++ [p]) := by
  have hlen : N = (R ++ [p]).length := by rw [hN]; simp
  subst hlen
  have hb5 := tk_box hT.box hT.got hgr
  have hb6 : Boxed w6 lb 24 (.slice X5 (R ++ [p]).length c5) := by rw [hw6]; exact hb5.set _
  have hc : Chg (fun i => (Value.slice X R.length cR).ownBlock = some i ∨ i = lb) A3 w6 := by
    rw [hw6]
    exact ((Chg.alloc (S := fun i => (Value.slice X R.length cR).ownBlock = some i ∨ i = lb) A3 o).trans (Chg.grown hgr fun g hg => .inl hg)).trans (Chg.setCell _ _ _ (.inr rfl))
  have hrow := fun g hg => rowN_lt hT.got.row g hg
  refine ⟨hb6, ?_, hbw.trans (hc.below (fun i hi => by rcases hi with hi | hi; exact (hrow i hi).1; omega) hbw.size), StepK.of_chg hc (fun i _ hk hs => by rcases hs with hs | hs; exact hT.fk i hs hk; have := hK i hk; omega), hc.size, fun g hg hd => ?_, fun g hg hd => ?_⟩
  · rw [hw6]
    exact hg5.keepS (Chg.setCell (S := fun i => i = lb) w5 ⟨lb, 0, none⟩ _ rfl) (fun b hb => blk_box hb5 hg5 b hb)
  · rcases hat g hg with h | h
    · exact hT.fd g h hd
    · have := (hD g hd).2; rw [h] at this; simp at this; omega
  · rcases hat g hg with h | h
    · exact hT.fk g h hd
    · have := (hK g hd).2; rw [h] at this; simp at this; omega

set_option maxRecDepth 100000 in
set_option maxHeartbeats 16000000 in
theorem taken_any {w : World} {lo hi : Nat} {v : Value} {b : List Nat} (hv : Bs w lo hi v b) (hhi : hi ≤ w.heap.size) (hb : ∀ x ∈ b, x < 256) (hl : b.length ≤ 1000000000) :
    Calls Try.prog 21 #[v] w (TakenAns w b) := by
  obtain ⟨w1, hw1⟩ : ∃ w1, w1 = w.alloc (.cells #[.slice none 0 0] 24) := ⟨_, rfl⟩
  have HX1 : Hid (Ext w w1) := by rw [hw1]; exact ext_alloc _ _
  have HZ1 : Hid (w1.heap.size = w.heap.size + 1) := by rw [hw1]; simp [Hid]
  have HB1 : Hid (Boxed w1 w.heap.size 24 (.slice none 0 0)) := by rw [hw1]; exact heap_at _ _ rfl
  have HBO := Lib.hid (body_any (hv.below HX1.out hhi) (Nat.le_trans hhi HX1.out.size) hb hl)
  have HV := Lib.hid hv
  have HHI := Lib.hid hhi
  have HBY := Lib.hid hb
  have HL := Lib.hid hl
  obtain ⟨A, c, rfl, _, _, _, _⟩ := hv
  clear hhi hb hl
  refine (callsIn_wide (n := 6)).1 ?_
  refine callsIn_of_wp_marks Try.func21 rfl trivial ?_
  simp only [Try.ntmps21, List.size_toArray, List.length_cons, List.length_nil, Nat.reduceAdd, Nat.reduceSub, Array.replicate_succ, Array.replicate_zero, List.push_toArray, List.append_toArray, List.nil_append, List.cons_append]
  refine wpIn_wide.2 ?_
  go_wp2_with fail
  rw [← hw1]
  clear hw1
  refine HBO.out.mono ?_
  rintro x w2 ⟨hx2, (⟨BA, bc, bd, rfl, hbs, hbb, hbl, h4, hbi⟩ | ⟨rfl, hno⟩)⟩
  rotate_left
  · exact ⟨Ext.trans HX1.out hx2, .inr ⟨rfl, hno⟩⟩
  have HX2 : Hid (Ext w w2) := Ext.trans HX1.out hx2
  have HX12 := Lib.hid hx2
  have HBS := Lib.hid hbs
  have HBB := Lib.hid hbb
  have HBL := Lib.hid (And.intro hbl h4)
  have HBI := Lib.hid hbi
  clear hx2 hbs hbb hbl h4 hbi HBO
  go_wp2_with fail
  refine (entries_any _ _ _ _).mono ?_
  rintro x w3 ⟨rfl, hw3⟩
  have HX3 : Hid (Ext w2 w3) := by rw [hw3]; exact ext_alloc _ _
  have HZ3 : Hid (w3.heap.size = w2.heap.size + 1) := by rw [hw3]; simp [Hid]
  have HC3 : Hid (w3.cell? ⟨w2.heap.size, 0, none⟩ = some (.slice BA bd.length bc)) := by rw [hw3]; exact cell_of (heap_at _ _ rfl) rfl
  have HXW : Hid (Ext w w3) := Ext.trans HX2.out HX3.out
  clear hw3
  go_wp2_with fail
  rename_i ak
  refine (wpIn_wide (n := 6)).1 ?_
  have HIT := Lib.hid (entries_iter (HBS.out.below HX3.out (Nat.le_refl _)) HX3.out.size HBB.out (Nat.le_trans HBL.out.1 HL.out) HC3.out)
  have HLB : Hid (w.heap.size < w3.heap.size) := by have := HZ1.out; have := HX12.out.size; have := HX3.out.size; unfold Hid; omega
  refine wpIn_overP rfl enters_entries1 HIT.out (fun _ => rfl) (TkI w w.heap.size w3.heap.size bd) (TkX w w.heap.size w3.heap.size bd) (fun _ _ _ _ _ => trivial) ?hI ?hIx ?h0 ?round ?hok ?done ?pan ?stop
  case hI => exact fun D K k A1 A2 => fun D' K' h hc hD hK => h.chg HLB.out (Nat.le_of_lt HLB.out) hc hD hK
  case hIx =>
    rintro cd A1 A2 ⟨rfl, hb, X, cc, R, h1, h2, h3, h4, h5⟩ hc
    exact ⟨rfl, hb.trans (hc.below (fun i e => by have := HLB.out; omega) hb.size), X, cc, R, boxed_chg h1 hc (fun e => by have := HLB.out; omega), h2.keepS hc (fun b hb2 e => h5 b hb2 e), h3, h4, h5⟩
  case h0 =>
    intro A1 D K hx hD hK
    refine ⟨Ext.trans HXW.out hx, hx.size, hD, none, 0, [], ⟨ext_heap (Ext.trans (Ext.trans HX12.out HX3.out) hx) HB1.out, Got.nil _ _, rfl, fun L _ => ⟨Nat.zero_le _, rfl⟩, fun b hb => (by cases hb), fun b hb => (by cases hb), fun p hp => (by cases hp)⟩, Nat.zero_le _⟩
  case round =>
    rintro l D K k ⟨e, g⟩ A1 rfl hDl hKl hD hK hi ⟨hek, hm, hf1, hf2⟩
    have HI1 := Lib.hid hi
    have HEK := Lib.hid hek
    have HM1 := Lib.hid hm
    have HFR := Lib.hid (And.intro hf1 hf2)
    have HDK := Lib.hid (And.intro hD hK)
    have HLK := Lib.hid (And.intro hDl hKl)
    clear hDl hKl hD hK hi hek hm hf1 hf2
    dsimp only at HEK HFR
    dsimp only [entV, Ent.at_]
    gi_wp2
    obtain ⟨A2, hA2⟩ : ∃ A2, A2 = A1.alloc (.cells #[.slice g.kA e.key.length g.kc, .int .i64 e.seq, .int .i64 e.kind, .slice g.vA e.val.length g.vc] 37) := ⟨_, rfl⟩
    rw [← hA2]
    have HX2 : Hid (Ext A1 A2) := by rw [hA2]; exact ext_alloc _ _
    have HBE : Hid (A2.heap[A1.heap.size]? = some (.cells #[.slice g.kA e.key.length g.kc, .int .i64 e.seq, .int .i64 e.kind, .slice g.vA e.val.length g.vc] 37 (0, 0))) := by rw [hA2]; exact heap_at _ _ rfl
    clear hA2
    refine ⟨StepK.of_chg (S := fun _ => False) (Chg.of_ext HX2.out) (fun _ _ _ h => h), fun A3 hc => ?_⟩
    have HC23 := Lib.hid hc
    have HCH : Hid (Chg D A1 A3) := ((Chg.of_ext (S := D) HX2.out).trans (hc.mono fun i _ e => by rw [e]; exact HLK.out.1))
    have HI3 := Lib.hid (HI1.out.chg HLB.out (Nat.le_of_lt HLB.out) HCH.out (fun i h => .inl h) (fun i h => .inl h))
    obtain ⟨X, cR, R, hT, hk1024⟩ := HI3.out.ex
    have HT := Lib.hid hT
    have HM3 : Hid (Mine w.heap.size (e, g) A3) := by
      have hk := HM1.out.base (B' := w.heap.size) HXW.out.size
      exact ⟨row_kept hk.k fun b hb => HCH.out.block b (row_lt hk.k b hb).2 (HFR.out.1 b hb), row_kept hk.v fun b hb => HCH.out.block b (row_lt hk.v b hb).2 (HFR.out.2 b hb), hk.good⟩
    have HB3 : Hid (A3.heap[A1.heap.size]? = some (.cells #[.slice g.kA e.key.length g.kc, .int .i64 e.seq, .int .i64 e.kind, .slice g.vA e.val.length g.vc] 37 (0, 0))) :=
      (hc.block _ (Array.getElem?_eq_some_iff.1 HBE.out).1 (fun e => by have := HDK.out.2 _ HLK.out.2; omega)).trans HBE.out
    have HRL : Hid (R.length = k ∧ k ≤ 1024) := ⟨HT.out.len, hk1024⟩
    have q0 := hT.box.cell
    have e0 := cell_of HB3.out (k := 0) rfl
    have e1 := cell_of HB3.out (k := 1) rfl
    have e2 := cell_of HB3.out (k := 2) rfl
    have e3 := cell_of HB3.out (k := 3) rfl
    have HZA : Hid (w.heap.size ≤ A3.heap.size ∧ w3.heap.size ≤ A3.heap.size ∧ A1.heap.size < A3.heap.size) := ⟨by have := HI3.out.z; have := HLB.out; omega, HI3.out.z, (Array.getElem?_eq_some_iff.1 HB3.out).1⟩
    clear hc hT hk1024
    obtain ⟨N, hN⟩ : ∃ N, N = R.length + 1 := ⟨_, rfl⟩
    have HN := Lib.hid hN
    by_cases hbig : 1024 < N
    · have d : decide ((1024 : Int) < (N : Int)) = true := by rw [decide_eq_true_eq]; exact Int.ofNat_lt.2 hbig
      have dn : decide (1024 < N) = true := by rw [decide_eq_true_eq]; exact hbig
      have HBIG := Lib.hid hbig
      clear hbig hN
      gi_wp2_with (gi_at_builtin; refine wpListIn_putent rfl (.tmp 11) (.tmp 13) rfl w.heap.size _ R rfl (HT.out.got.below (ext_alloc _ _)) (e, g) A3.heap.size rfl (heap_at _ _ rfl) (HM3.out.below (ext_alloc _ _)) (by have := HRL.out; omega) (Nat.le_trans HZA.out.1 (by simp)) ?_; rw [← HN.out]; intro X5 c5 w5 hgot5 hgr5 hat5; have HG5 := Lib.hid hgot5; have HGR5 := Lib.hid hgr5; have HAT5 := Lib.hid hat5; have q1 := tk_box HT.out.box HT.out.got hgr5; have HQ1 := Lib.hid q1; have q2 := q1.cell; have q3 := q1.frozen; clear hgot5 hgr5 hat5 q1)
      obtain ⟨w6, hw6⟩ : ∃ w6, w6 = w5.setCell ⟨w.heap.size, 0, none⟩ (.slice X5 N c5) := ⟨_, rfl⟩
      rw [← hw6]
      have hnx := tk_next HT.out HI3.out.below HLB.out (Nat.le_refl _) (fun i h => ⟨(HDK.out.1 i h).1, by have := (HDK.out.1 i h).2; have := HZA.out; omega⟩) (fun i h => ⟨(HDK.out.2 i h).1, by have := (HDK.out.2 i h).2; have := HZA.out; omega⟩) HN.out HG5.out HGR5.out HAT5.out hw6
      clear hw6 q2 q3
      have hl := HLK.out
      refine ⟨hnx.step, rfl, hnx.below, X5, c5, R ++ [(e, g)], hnx.box, hnx.got, ?_, fun L hL => ?_, ?_⟩
      · have := HRL.out; have := HBIG.out; have := HN.out; simp; omega
      · have h1 := (List.getElem?_eq_some_iff.1 (HEK.out L hL)).1
        have := HRL.out; have := HBIG.out; have := HN.out; omega
      · rintro b (h | ⟨p, hp, h⟩) e1
        · subst e1; exact hnx.fk _ h hl.2
        · subst e1
          rcases List.mem_append.1 hp with hp | hp
          · rcases h with h | h
            · exact (HT.out.fe p hp).1 _ h hl.1
            · exact (HT.out.fe p hp).2 _ h hl.1
          · rw [List.mem_singleton] at hp; subst hp
            rcases h with h | h
            · exact HFR.out.1 _ h hl.1
            · exact HFR.out.2 _ h hl.1
    · have d : decide ((1024 : Int) < (N : Int)) = false := by rw [decide_eq_false_iff_not]; exact fun h => hbig (Int.ofNat_lt.1 h)
      have dn : decide (1024 < N) = false := by rw [decide_eq_false_iff_not]; exact hbig
      have HBIG := Lib.hid hbig
      clear hbig hN
      gi_wp2_with (gi_at_builtin; refine wpListIn_putent rfl (.tmp 11) (.tmp 13) rfl w.heap.size _ R rfl (HT.out.got.below (ext_alloc _ _)) (e, g) A3.heap.size rfl (heap_at _ _ rfl) (HM3.out.below (ext_alloc _ _)) (by have := HRL.out; omega) (Nat.le_trans HZA.out.1 (by simp)) ?_; rw [← HN.out]; intro X5 c5 w5 hgot5 hgr5 hat5; have HG5 := Lib.hid hgot5; have HGR5 := Lib.hid hgr5; have HAT5 := Lib.hid hat5; have q1 := tk_box HT.out.box HT.out.got hgr5; have HQ1 := Lib.hid q1; have q2 := q1.cell; have q3 := q1.frozen; clear hgot5 hgr5 hat5 q1)
      obtain ⟨w6, hw6⟩ : ∃ w6, w6 = w5.setCell ⟨w.heap.size, 0, none⟩ (.slice X5 N c5) := ⟨_, rfl⟩
      rw [← hw6]
      have hnx := tk_next HT.out HI3.out.below HLB.out (Nat.le_refl _) (fun i h => ⟨(HDK.out.1 i h).1, by have := (HDK.out.1 i h).2; have := HZA.out; omega⟩) (fun i h => ⟨(HDK.out.2 i h).1, by have := (HDK.out.2 i h).2; have := HZA.out; omega⟩) HN.out HG5.out HGR5.out HAT5.out hw6
      clear hw6 q2 q3
      refine ⟨hnx.step, hnx.below, by have := hnx.size; have := HZA.out; omega, fun i h => (HDK.out.1 i h).1, X5, c5, R ++ [(e, g)], ⟨hnx.box, hnx.got, ?_, fun L hL => ?_, hnx.fd, hnx.fk, fun p hp => ?_⟩, ?_⟩
      · rw [List.length_append, HRL.out.1]; rfl
      · have h1 := HEK.out L hL
        obtain ⟨h2, h3⟩ := HT.out.is L hL
        have h4 := (List.getElem?_eq_some_iff.1 h1).1
        refine ⟨h4, ?_⟩
        rw [List.take_add_one, h3, h1, List.map_append]; rfl
      · rcases List.mem_append.1 hp with hp | hp
        · exact HT.out.fe p hp
        · rw [List.mem_singleton] at hp; subst hp; exact HFR.out
      · have := HRL.out; have := HBIG.out; have := HN.out; omega
  case hok =>
    rintro D K D' K' k x A1 ⟨h1, h2, h3, h4⟩ ⟨od, hd⟩ ⟨ol, hl⟩ hD' _ _ _
    have hfr : ∀ {l : List Nat} {u : Value}, Own w3.heap.size l u A1 → Free D u → Free D' u := fun ho hf b hb hd' => by
      obtain ⟨_, _, cc, hcc⟩ := rowN_lt ho b hb
      rcases hD' b hd' with h | h | h
      · exact hf b hb h
      · rw [h, hd] at hcc; cases hcc
      · rw [h, hl] at hcc; cases hcc
    exact ⟨h1, h2, hfr h2.k h3, hfr h2.v h4⟩
  case done =>
    rintro D k W D0 K0 hDl hi hdn hD
    obtain ⟨X, cR, R, t, hk⟩ := hi.ex
    have HBOX := Lib.hid t.box
    have HGOT := Lib.hid t.got
    have HLEN : Hid (R.length ≤ 1025) := by have := t.len; unfold Hid; omega
    have HBW := Lib.hid hi.below
    have HDD := Lib.hid hD
    have HDL := Lib.hid hDl
    have HEQ : Hid (∀ L, IsB b L → L = R.map Prod.fst) := fun L hL => by
      have hB := HBI.out L hL
      have h1 := (t.is L hB).2
      have h2 := hdn L hB
      rw [← h2, List.take_length] at h1
      exact h1
    clear hDl hi hdn hD t hk
    refine ak _ _ ?_
    have q0 := HBOX.out.cell
    have HW := Lib.hid (write_any (c := cR) HGOT.out.rs (Nat.le_refl _) HGOT.out.capd.1 (by have := HLEN.out; omega))
    go_wp2_with fail
    refine HW.out.mono ?_
    rintro x w4 ⟨hx4, (⟨hmb, B, cb, rfl, hown⟩ | ⟨hmb, rfl⟩)⟩
    · have HX4 := Lib.hid hx4
      have HMB := Lib.hid hmb
      have HOW := Lib.hid hown
      have HB4 : Hid (Below w.heap.size w w4) := HBW.out.trans (hx4.mono HBW.out.size)
      have HEQL := Lib.hid (bequal_any hown.bs (HV.out.below (HBW.out.trans (hx4.mono HBW.out.size)) HHI.out) (wr_lt hmb (fun e he => by obtain ⟨p, hp, rfl⟩ := List.mem_map.1 he; exact ⟨(HGOT.out.each p hp).good.bk, (HGOT.out.each p hp).good.bv⟩)) HBY.out)
      have q1 := ext_cell hx4 q0
      have HDD4 : Hid (w4.heap[D]? = some (.deferred (some []))) := ext_heap hx4 HDD.out
      have HG4 := Lib.hid (HGOT.out.below hx4)
      clear hx4 hmb hown q0
      go_wp2_with fail
      refine HEQL.out.mono ?_
      rintro x w5 ⟨⟨z, hz, rfl⟩, rfl⟩
      have HZ := Lib.hid hz
      clear hz
      have HF : Hid (Below w.heap.size w (w5.putObj D (.deferred none))) := HB4.out.trans ((putObj_chg w5 D _).below (fun i e => by have := HDL.out; have := HLB.out; omega) HB4.out.size)
      have HGF : Hid (Got w.heap.size (.slice X R.length cR) R (w5.putObj D (.deferred none))) := HG4.out.keepS (putObj_chg w5 D _) (fun bb hbb e => got_not HG4.out hbb (by rw [e]; exact HDD4.out))
      cases z with
      | true =>
        have HIS : Hid (IsB b (R.map Prod.fst)) := ⟨HMB.out, HZ.out.1 rfl⟩
        go_wp2_with fail
        refine ⟨by simp, .inl ⟨_, _, rfl, run_takeDeferred HDD4.out, ?_⟩⟩
        exact ⟨_, results_tmp rfl _ _ _, HF.out, .inl ⟨R, X, cR, HIS.out, rfl, HGF.out⟩⟩
      | false =>
        have HNO : Hid (∀ L, ¬ IsB b L) := fun L hL => by
          have h1 := HEQ.out L hL
          have h2 := HZ.out.2 (by rw [← h1]; exact hL.2)
          cases h2
        go_wp2_with fail
        refine (giveUp_any _).mono ?_
        rintro x w6 ⟨rfl, rfl⟩
        refine ⟨by simp, .inl ⟨_, _, rfl, run_takeDeferred HDD4.out, ?_⟩⟩
        exact ⟨HF.out, .inr ⟨rfl, HNO.out⟩⟩
    · have HX4 := Lib.hid hx4
      have HB4 : Hid (Below w.heap.size w w4) := HBW.out.trans (hx4.mono HBW.out.size)
      have HEQL := Lib.hid (bequal_any (Bs.nil w4 0 0) (HV.out.below (HBW.out.trans (hx4.mono HBW.out.size)) HHI.out) (by simp) HBY.out)
      have HDD4 : Hid (w4.heap[D]? = some (.deferred (some []))) := ext_heap hx4 HDD.out
      have HNO : Hid (∀ L, ¬ IsB b L) := fun L hL => hmb (by rw [← HEQ.out L hL]; exact hL.1)
      clear hx4 hmb q0
      go_wp2_with fail
      refine HEQL.out.mono ?_
      rintro x w5 ⟨⟨z, hz, rfl⟩, rfl⟩
      have hz0 : z = false := by
        cases z with
        | false => rfl
        | true => have h1 := hz.1 rfl; have h2 := HBL.out.2; rw [← h1] at h2; simp at h2
      subst hz0
      clear hz
      have HF : Hid (Below w.heap.size w (w5.putObj D (.deferred none))) := HB4.out.trans ((putObj_chg w5 D _).below (fun i e => by have := HDL.out; have := HLB.out; omega) HB4.out.size)
      go_wp2_with fail
      refine (giveUp_any _).mono ?_
      rintro x w6 ⟨rfl, rfl⟩
      refine ⟨by simp, .inl ⟨_, _, rfl, run_takeDeferred HDD4.out, ?_⟩⟩
      exact ⟨HF.out, .inr ⟨rfl, HNO.out⟩⟩
  case pan =>
    rintro D k W D0 K0 ch hDl hi ⟨rfl, hno⟩ hD
    have hbw := hi.below
    refine ⟨by simp, .inl ⟨_, _, rfl, run_takeDeferred hD, ?_⟩⟩
    exact ⟨hbw.trans ((putObj_chg W D _).below (fun i e => by have := HLB.out; omega) hbw.size), .inr ⟨rfl, fun L hL => hno L (HBI.out L hL)⟩⟩
  case stop =>
    rintro D cd W hDl ⟨rfl, hb, X, cR, R, h1, h2, h3, h4, h5⟩ hD
    have HBOX := Lib.hid h1
    have HGOT := Lib.hid h2
    have HLEN : Hid (R.length ≤ 1025) := Nat.le_of_eq h3
    have HBW := Lib.hid hb
    have HDD := Lib.hid hD
    have HDL := Lib.hid hDl
    have HEQ : Hid (∀ L, IsB b L → L = R.map Prod.fst) := fun L hL => by
      have h6 := h4 L (HBI.out L hL)
      have h7 := hL.1.2.1
      omega
    clear hDl hb h1 h2 h3 h4 h5 hD
    refine wpIn_wide.2 ?_
    have q0 := HBOX.out.cell
    have HW := Lib.hid (write_any (c := cR) HGOT.out.rs (Nat.le_refl _) HGOT.out.capd.1 (by have := HLEN.out; omega))
    go_wp2_with fail
    refine HW.out.mono ?_
    rintro x w4 ⟨hx4, (⟨hmb, B, cb, rfl, hown⟩ | ⟨hmb, rfl⟩)⟩
    · have HX4 := Lib.hid hx4
      have HMB := Lib.hid hmb
      have HOW := Lib.hid hown
      have HB4 : Hid (Below w.heap.size w w4) := HBW.out.trans (hx4.mono HBW.out.size)
      have HEQL := Lib.hid (bequal_any hown.bs (HV.out.below (HBW.out.trans (hx4.mono HBW.out.size)) HHI.out) (wr_lt hmb (fun e he => by obtain ⟨p, hp, rfl⟩ := List.mem_map.1 he; exact ⟨(HGOT.out.each p hp).good.bk, (HGOT.out.each p hp).good.bv⟩)) HBY.out)
      have q1 := ext_cell hx4 q0
      have HDD4 : Hid (w4.heap[D]? = some (.deferred (some []))) := ext_heap hx4 HDD.out
      have HG4 := Lib.hid (HGOT.out.below hx4)
      clear hx4 hmb hown q0
      go_wp2_with fail
      refine HEQL.out.mono ?_
      rintro x w5 ⟨⟨z, hz, rfl⟩, rfl⟩
      have HZ := Lib.hid hz
      clear hz
      have HF : Hid (Below w.heap.size w (w5.putObj D (.deferred none))) := HB4.out.trans ((putObj_chg w5 D _).below (fun i e => by have := HDL.out; have := HLB.out; omega) HB4.out.size)
      have HGF : Hid (Got w.heap.size (.slice X R.length cR) R (w5.putObj D (.deferred none))) := HG4.out.keepS (putObj_chg w5 D _) (fun bb hbb e => got_not HG4.out hbb (by rw [e]; exact HDD4.out))
      cases z with
      | true =>
        have HIS : Hid (IsB b (R.map Prod.fst)) := ⟨HMB.out, HZ.out.1 rfl⟩
        go_wp2_with fail
        refine ⟨by simp, .inl ⟨_, _, rfl, run_takeDeferred HDD4.out, ?_⟩⟩
        exact ⟨_, results_tmp rfl _ _ _, HF.out, .inl ⟨R, X, cR, HIS.out, rfl, HGF.out⟩⟩
      | false =>
        have HNO : Hid (∀ L, ¬ IsB b L) := fun L hL => by
          have h1 := HEQ.out L hL
          have h2 := HZ.out.2 (by rw [← h1]; exact hL.2)
          cases h2
        go_wp2_with fail
        refine (giveUp_any _).mono ?_
        rintro x w6 ⟨rfl, rfl⟩
        refine ⟨by simp, .inl ⟨_, _, rfl, run_takeDeferred HDD4.out, ?_⟩⟩
        exact ⟨HF.out, .inr ⟨rfl, HNO.out⟩⟩
    · have HX4 := Lib.hid hx4
      have HB4 : Hid (Below w.heap.size w w4) := HBW.out.trans (hx4.mono HBW.out.size)
      have HEQL := Lib.hid (bequal_any (Bs.nil w4 0 0) (HV.out.below (HBW.out.trans (hx4.mono HBW.out.size)) HHI.out) (by simp) HBY.out)
      have HDD4 : Hid (w4.heap[D]? = some (.deferred (some []))) := ext_heap hx4 HDD.out
      have HNO : Hid (∀ L, ¬ IsB b L) := fun L hL => hmb (by rw [← HEQ.out L hL]; exact hL.1)
      clear hx4 hmb q0
      go_wp2_with fail
      refine HEQL.out.mono ?_
      rintro x w5 ⟨⟨z, hz, rfl⟩, rfl⟩
      have hz0 : z = false := by
        cases z with
        | false => rfl
        | true => have h1 := hz.1 rfl; have h2 := HBL.out.2; rw [← h1] at h2; simp at h2
      subst hz0
      clear hz
      have HF : Hid (Below w.heap.size w (w5.putObj D (.deferred none))) := HB4.out.trans ((putObj_chg w5 D _).below (fun i e => by have := HDL.out; have := HLB.out; omega) HB4.out.size)
      go_wp2_with fail
      refine (giveUp_any _).mono ?_
      rintro x w6 ⟨rfl, rfl⟩
      refine ⟨by simp, .inl ⟨_, _, rfl, run_takeDeferred HDD4.out, ?_⟩⟩
      exact ⟨HF.out, .inr ⟨rfl, HNO.out⟩⟩
end Go.Proofs.Ytddfelahpiokjaa

/- Read: a block's entries; who gives up by the way is recovered. -/
namespace Go.Proofs.Ytddfelahpiokjaa
open Go.ChangeShapes Go.WideShapes Go.ChangeAt Go.RowKit

theorem catch_panicking (p q : Nat) (v0 v1 : Value) (u : TypeId) (pv : Value) (older : List PanicEntry) (w : World) (hp : Boxed w p 24 v0) (hq : Boxed w q 25 v1) (hne : p ≠ q) :
    CallsD Try.prog 20 #[.pointer (some ⟨p, 0, none⟩), .pointer (some ⟨q, 0, none⟩)] (.panicking ({ v := .iface u pv, recovered := false } :: older)) w fun e u' w' =>
      e = .returned (.tuple #[]) ∧ u' = .panicking ({ v := .iface u pv, recovered := true } :: older) ∧ w' = (w.setCell ⟨p, 0, none⟩ (.slice none 0 0)).setCell ⟨q, 0, none⟩ (.int .i64 4) := by
  have hc := hp.cell
  have hz := hp.frozen
  have hq2 : Boxed (w.setCell ⟨p, 0, none⟩ (.slice none 0 0)) q 25 v1 := (Below.heap_setCell _ _ _ _ (by exact fun e => hne e.symm)).trans hq
  have hc2 := hq2.cell
  have hz2 := hq2.frozen
  refine callsD_of_wpS Try.func20 rfl fun c₀ cs hu => ?_
  apply wpS_seq
  apply wpS_region
  simp [wpOpsS, go_sem, recoverD, hu, Try.ntmps20, Exit.thenS]
  refine wpS_cond (t := true) (by simp [Act.eval, Array.replicate]) ?_
  simp only [if_true]
  apply wpS_region
  simp [wpOpsS, go_sem, hc, hz, hc2, hz2, bodyPostS, results, Try.results20]

theorem catch_idle (p q : Nat) (w : World) :
    CallsD Try.prog 20 #[.pointer (some ⟨p, 0, none⟩), .pointer (some ⟨q, 0, none⟩)] .returning w fun e u' w' => e = .returned (.tuple #[]) ∧ u' = .returning ∧ w' = w := by
  refine callsD_of_wpS Try.func20 rfl fun c₀ cs hu => ?_
  apply wpS_seq
  apply wpS_region
  simp [wpOpsS, go_sem, recoverD, hu, Try.ntmps20, Exit.thenS]
  refine wpS_cond (t := false) (by simp [Act.eval, Array.replicate]) ?_
  simp only [Bool.false_eq_true, if_false]
  refine wpS_of_wp (wp_skip ?_)
  cases c₀
  simp_all [bodyPostS, results, Try.results20]

/-- What Read answers. -/
def ReadBAns (w : World) (b : List Nat) (x : Ending) (w' : World) : Prop :=
  Ext w w' ∧ ((∃ (R : List (Ent × Hd)) (A : Option Addr) (c : Nat), IsB b (R.map Prod.fst) ∧ x = .returned (.tuple #[.slice A R.length c, .int .i64 0]) ∧ Got w.heap.size (.slice A R.length c) R w') ∨ ((∀ L, ¬ IsB b L) ∧ x = .returned (.tuple #[.slice none 0 0, .int .i64 4])))
theorem results_read (tmps : Array Value) (w : World) (g k : Nat) (v v' : Value) (hp : tmps.getD 2 undef = .pointer (some ⟨g, 0, none⟩)) (hq : tmps.getD 3 undef = .pointer (some ⟨k, 0, none⟩)) (hc : w.cell? ⟨g, 0, none⟩ = some v) (hc' : w.cell? ⟨k, 0, none⟩ = some v') :
    (results Try.f7 tmps).run Try.prog w = .ok (.tuple #[v, v']) w := by
  simp only [results, Try.results7]
  have hp' : tmps[2]?.getD undef = .pointer (some ⟨g, 0, none⟩) := by simpa using hp
  have hq' : tmps[3]?.getD undef = .pointer (some ⟨k, 0, none⟩) := by simpa using hq
  simp [Sem.run_bind, hp', hq', go_sem, hc, hc']

set_option maxRecDepth 100000 in
set_option maxHeartbeats 4000000 in
theorem bread_any {w : World} {lo hi : Nat} {v : Value} {b : List Nat} (hv : Bs w lo hi v b) (hhi : hi ≤ w.heap.size) (hb : ∀ x ∈ b, x < 256) (hl : b.length ≤ 1000000000) :
    Calls Try.prog 7 #[v] w (ReadBAns w b) := by
  obtain ⟨w1, hw1⟩ : ∃ w1, w1 = (w.alloc (.cells #[.slice none 0 0] 24)).alloc (.cells #[.int .i64 0] 25) := ⟨_, rfl⟩
  have HX1 : Hid (Ext w w1) := by rw [hw1]; exact Ext.trans (ext_alloc _ _) (ext_alloc _ _)
  have HA1 : Hid (Boxed w1 w.heap.size 24 (.slice none 0 0)) := by rw [hw1]; exact ext_heap (ext_alloc _ _) (heap_at _ _ rfl)
  have HB1 : Hid (Boxed w1 (w.heap.size + 1) 25 (.int .i64 0)) := by rw [hw1]; exact heap_at _ _ (by simp)
  have HT := Lib.hid (taken_any (hv.below HX1.out hhi) (Nat.le_trans hhi HX1.out.size) hb hl)
  have HZ1 : Hid (w1.heap.size = w.heap.size + 2) := by rw [hw1]; simp [Hid]
  obtain ⟨A, c, rfl, _, _, _, _⟩ := hv
  have hmf := mkf
  clear hhi hb hl
  go_enter_defers Try.func7, Try.ntmps7
  go_wp2_with fail
  rw [← hw1]
  clear hw1
  refine HT.out.mono ?_
  rintro x w2 ⟨hx2, (⟨R, X, cR, his, rfl, hgot⟩ | ⟨rfl, hno⟩)⟩
  · have HX2 := Lib.hid hx2
    have HIS := Lib.hid his
    have HG := Lib.hid hgot
    have ha : Boxed w2 w.heap.size 24 (.slice none 0 0) := ext_heap hx2 HA1.out
    have hb : Boxed w2 (w.heap.size + 1) 25 (.int .i64 0) := ext_heap hx2 HB1.out
    have HA2 := Lib.hid ha
    have HB2 := Lib.hid hb
    have q0 := ha.cell
    have q1 := ha.frozen
    have hb2 : Boxed (w2.setCell ⟨w.heap.size, 0, none⟩ (.slice X R.length cR)) (w.heap.size + 1) 25 (.int .i64 0) := (Below.heap_setCell _ _ _ _ (by show w.heap.size + 1 ≠ w.heap.size; omega)).trans hb
    have q2 := hb2.cell
    have q3 := hb2.frozen
    have HB3 := Lib.hid hb2
    clear hx2 his hgot ha hb hb2
    go_wp2_with fail
    obtain ⟨w3, hw3⟩ : ∃ w3, w3 = (w2.setCell ⟨w.heap.size, 0, none⟩ (.slice X R.length cR)).setCell ⟨w.heap.size + 1, 0, none⟩ (.int .i64 0) := ⟨_, rfl⟩
    rw [← hw3]
    have ha3 : Boxed w3 w.heap.size 24 (.slice X R.length cR) := by rw [hw3]; exact (Below.heap_setCell _ _ _ _ (by show w.heap.size ≠ w.heap.size + 1; omega)).trans (HA2.out.set _)
    have hb3 : Boxed w3 (w.heap.size + 1) 25 (.int .i64 0) := by rw [hw3]; exact HB3.out.set _
    have hc3 : Chg (fun i => i = w.heap.size ∨ i = w.heap.size + 1) w2 w3 := by rw [hw3]; exact (Chg.setCell _ _ _ (.inl rfl)).trans (Chg.setCell _ _ _ (.inr rfl))
    have hx : Ext w w3 := Below.trans (Ext.trans HX1.out HX2.out) (hc3.below (fun i h => by omega) (Ext.trans HX1.out HX2.out).size)
    clear hw3
    refine leaves_cons (f := 20) (args := #[.pointer (some ⟨w.heap.size, 0, none⟩), .pointer (some ⟨w.heap.size + 1, 0, none⟩)]) (by simp) (by simp [go_sem]) ?_
    refine (catch_idle _ _ _).mono ?_
    rintro e u' w4 ⟨rfl, rfl, rfl⟩
    refine ⟨_, results_read _ _ _ _ _ _ rfl rfl ha3.cell hb3.cell, hx, .inl ⟨R, X, cR, HIS.out, rfl, ?_⟩⟩
    exact (HG.out.keepS hc3 (fun bb hbb e => by have := (HG.out.blk hbb).1; have := HZ1.out; omega)).base HX1.out.size
  · have HX2 := Lib.hid hx2
    have HNO := Lib.hid hno
    have ha : Boxed w2 w.heap.size 24 (.slice none 0 0) := ext_heap hx2 HA1.out
    have hb : Boxed w2 (w.heap.size + 1) 25 (.int .i64 0) := ext_heap hx2 HB1.out
    refine leaves_cons (f := 20) (args := #[.pointer (some ⟨w.heap.size, 0, none⟩), .pointer (some ⟨w.heap.size + 1, 0, none⟩)]) (by simp) (by simp [go_sem]) ?_
    refine (catch_panicking _ _ _ _ _ _ [] _ ha hb (by omega)).mono ?_
    rintro e u' w4 ⟨rfl, rfl, hw4⟩
    have ha3 : Boxed w4 w.heap.size 24 (.slice none 0 0) := by rw [hw4]; exact (Below.heap_setCell _ _ _ _ (by show w.heap.size ≠ w.heap.size + 1; omega)).trans (ha.set _)
    have hb3 : Boxed w4 (w.heap.size + 1) 25 (.int .i64 4) := by
      rw [hw4]
      have h1 : Boxed (w2.setCell ⟨w.heap.size, 0, none⟩ (.slice none 0 0)) (w.heap.size + 1) 25 (.int .i64 0) := (Below.heap_setCell _ _ _ _ (by show w.heap.size + 1 ≠ w.heap.size; omega)).trans hb
      exact h1.set _
    have hc3 : Chg (fun i => i = w.heap.size ∨ i = w.heap.size + 1) w2 w4 := by rw [hw4]; exact (Chg.setCell _ _ _ (.inl rfl)).trans (Chg.setCell _ _ _ (.inr rfl))
    have hx : Ext w w4 := Below.trans (Ext.trans HX1.out HX2.out) (hc3.below (fun i h => by omega) (Ext.trans HX1.out HX2.out).size)
    exact ⟨_, results_read _ _ _ _ _ _ rfl rfl ha3.cell hb3.cell, hx, .inr ⟨HNO.out, rfl⟩⟩

/-- What Restarts answers. -/
def RestAns (w : World) (b : List Nat) (x : Ending) (w' : World) : Prop :=
  Ext w w' ∧ ((∃ (L : List Ent) (A : Option Addr) (c : Nat), IsB b L ∧ x = .returned (.tuple #[.slice A (ats L L.length).length c, .int .i64 0]) ∧ OwnI w.heap.size (ats L L.length) (.slice A (ats L L.length).length c) w') ∨ ((∀ L, ¬ IsB b L) ∧ x = .returned (.tuple #[.slice none 0 0, .int .i64 4])))
set_option maxRecDepth 100000 in
set_option maxHeartbeats 4000000 in
theorem restarts_any {w : World} {lo hi : Nat} {v : Value} {b : List Nat} (hv : Bs w lo hi v b) (hhi : hi ≤ w.heap.size) (hb : ∀ x ∈ b, x < 256) (hl : b.length ≤ 1000000000) :
    Calls Try.prog 9 #[v] w (RestAns w b) := by
  have HR := Lib.hid (bread_any hv hhi hb hl)
  obtain ⟨A, c, rfl, _, _, _, _⟩ := hv
  clear hhi hb hl
  go_enter Try.func9, Try.ntmps9
  go_wp2_with fail
  refine HR.out.mono ?_
  rintro x w2 ⟨hx2, (⟨R, X, cR, his, rfl, hgot⟩ | ⟨hno, rfl⟩)⟩
  · have HX2 := Lib.hid hx2
    have HIS := Lib.hid his
    have HG := Lib.hid hgot
    have hm : MayB (R.map Prod.fst) := his.1
    have HLD := Lib.hid (laid_any (c := cR) hgot.rs (Nat.le_refl _) hgot.capd.1 (by have := hm.1; rw [List.length_map] at this; exact this) (by have := hm.2.1; rw [List.length_map] at this; exact this) (fun p hp => hm.2.2.2 _ (List.mem_map_of_mem hp)))
    obtain ⟨Ls, hLs⟩ : ∃ Ls, Ls = R.map Prod.fst := ⟨_, rfl⟩
    rw [← hLs] at HLD HIS
    clear hx2 his hgot hm hLs
    go_wp2_with fail
    refine HLD.out.mono ?_
    rintro x w3 ⟨hx3, FA, fc, RA, rc, rfl, hf, hr⟩
    have HX3 := Lib.hid (Ext.trans HX2.out hx3)
    have HRO := Lib.hid (hr.base HX2.out.size)
    clear hx3 hf hr
    go_wp2_with fail
    go_ret2
    exact ⟨HX3.out, .inl ⟨_, RA, rc, HIS.out, rfl, HRO.out⟩⟩
  · have HF : Hid (RestAns w b (.returned (.tuple #[.slice none 0 0, .int .i64 4])) w2) := ⟨hx2, .inr ⟨hno, rfl⟩⟩
    clear hx2 hno
    go_wp2_with fail
    go_ret2
    exact HF.out
end Go.Proofs.Ytddfelahpiokjaa

/- first: where the first one of rising entries stands that is not ahead, by halves. -/
namespace Go.Proofs.Ytddfelahpiokjaa
open Go.ChangeShapes Go.WideShapes Go.ChangeAt Go.RowKit

theorem rise_lt {L : List Ent} (h : Rise L) : ∀ (d i : Nat) (a b : Ent), L[i]? = some a → L[i + d + 1]? = some b → cmpE a b < 0 := by
  intro d
  induction d with
  | zero => intro i a b ha hb; exact h i a b ha hb
  | succ d ih =>
    intro i a b ha hb
    have hlt := (List.getElem?_eq_some_iff.1 hb).1
    obtain ⟨m, hm⟩ : ∃ m, L[i + d + 1]? = some m := ⟨_, List.getElem?_eq_getElem (by omega)⟩
    have h1 := ih i a m ha hm
    have h2 := h (i + d + 1) m b hm hb
    have r1 := cmpE_range a m
    have r2 := cmpE_range m b
    have := cmpE_lt_trans (a := a) (b := m) (c := b) (by omega) (by omega)
    omega
theorem rise_at {L : List Ent} (h : Rise L) {i j : Nat} {a b : Ent} (hij : i < j) (ha : L[i]? = some a) (hb : L[j]? = some b) : cmpE a b < 0 := by
  obtain ⟨d, rfl⟩ : ∃ d, j = i + d + 1 := ⟨j - i - 1, by omega⟩
  exact rise_lt h d i a b ha hb
/-- Ahead of n all are ahead of it, from n on none is. -/
structure Cut (L : List Ent) (x : Ent) (n : Nat) : Prop where
  le : n ≤ L.length
  lo : ∀ j a, j < n → L[j]? = some a → cmpE a x < 0
  hi : ∀ j a, n ≤ j → L[j]? = some a → 0 ≤ cmpE a x
theorem cut_lo {L : List Ent} (h : Rise L) {x a : Ent} {m : Nat} (hm : L[m]? = some a) (hc : cmpE a x < 0) : ∀ j b, j < m + 1 → L[j]? = some b → cmpE b x < 0 := by
  intro j b hj hb
  rcases Nat.lt_or_ge j m with h1 | h1
  · have h2 := rise_at h h1 hb hm
    have r1 := cmpE_range b a
    have r2 := cmpE_range a x
    have := cmpE_lt_trans (a := b) (b := a) (c := x) (by omega) (by omega)
    omega
  · have : j = m := by omega
    subst this
    rw [hm] at hb; injection hb with hb; subst hb; exact hc
theorem cut_hi {L : List Ent} (h : Rise L) {x a : Ent} {m : Nat} (hm : L[m]? = some a) (hc : 0 ≤ cmpE a x) : ∀ j b, m ≤ j → L[j]? = some b → 0 ≤ cmpE b x := by
  intro j b hj hb
  rcases Nat.lt_or_ge m j with h1 | h1
  · have h2 := rise_at h h1 hm hb
    rcases Int.lt_or_le (cmpE b x) 0 with h3 | h3
    · have r1 := cmpE_range a b
      have r2 := cmpE_range b x
      have := cmpE_lt_trans (a := a) (b := b) (c := x) (by omega) (by omega)
      omega
    · exact h3
  · have : j = m := by omega
    subst this
    rw [hm] at hb; injection hb with hb; subst hb; exact hc
theorem wrap_half {l h : Nat} (k : l + h < 1000000) : wrap64 (wrap64 ((l : Int) + (h : Int)) / 2) = (((l + h) / 2 : Nat) : Int) := by
  have e : wrap64 ((l : Int) + (h : Int)) = ((l + h : Nat) : Int) := by unfold wrap64; omega
  rw [e]; unfold wrap64; omega
theorem wrap_sum {l h : Nat} (k : l + h < 1000000) : wrap64 ((l : Int) + (h : Int)) = ((l + h : Nat) : Int) := by unfold wrap64; omega
theorem wrap_div {m : Nat} (k : m < 1000000) : wrap64 ((m : Int) / 2) = ((m / 2 : Nat) : Int) := by unfold wrap64; omega

set_option maxRecDepth 100000 in
set_option maxHeartbeats 8000000 in
theorem first_any {w : World} {lo hi lo2 hi2 c : Nat} {A : Option Addr} {L : List (Ent × Hd)} {x : Ent} {g : Hd} (h : Es w lo hi A L) (hhi : hi ≤ w.heap.size) (hn : L.length ≤ 1024) (hr : Rise (L.map Prod.fst)) (hx : Em w lo2 hi2 x g) (hhi2 : hi2 ≤ w.heap.size) :
    Calls Try.prog 30 #[.slice A L.length c, x.at_ g] w fun e w' => ∃ n : Nat, Cut (L.map Prod.fst) x n ∧ e = .returned (.int .i64 (n : Int)) ∧ Ext w w' := by
  obtain ⟨w1, hw1⟩ : ∃ w1, w1 = w.alloc (.cells #[.slice g.kA x.key.length g.kc, .int .i64 x.seq, .int .i64 x.kind, .slice g.vA x.val.length g.vc] 37) := ⟨_, rfl⟩
  have HX1 : Hid (Ext w w1) := by rw [hw1]; exact ext_alloc _ _
  have HB1 : Hid (w1.heap[w.heap.size]? = some (.cells #[.slice g.kA x.key.length g.kc, .int .i64 x.seq, .int .i64 x.kind, .slice g.vA x.val.length g.vc] 37 (0, 0))) := by rw [hw1]; exact heap_at _ _ rfl
  have HE := Lib.hid (h.below HX1.out hhi)
  have HM := Lib.hid (hx.below HX1.out hhi2)
  have HH : Hid (hi ≤ w1.heap.size ∧ hi2 ≤ w1.heap.size) := ⟨Nat.le_trans hhi HX1.out.size, Nat.le_trans hhi2 HX1.out.size⟩
  have HR := Lib.hid hr
  have HN := Lib.hid hn
  clear h hhi hn hr hx hhi2
  unfold Ent.at_
  go_enter Try.func30, Try.ntmps30
  go_upto_region 1 with (fail)
  rw [← hw1]
  clear hw1
  go_step3
  go_wp2_with fail
  go_step3
  go_wp2_with fail
  go_loopw [5, 6, 7] (fun a b _ wr => ∃ l k : Nat, l ≤ k ∧ k ≤ L.length ∧ a = .int .i64 (l : Int) ∧ b = .int .i64 (k : Int) ∧ Hid (∀ j y, j < l → (L.map Prod.fst)[j]? = some y → cmpE y x < 0) ∧ Hid (∀ j y, k ≤ j → (L.map Prod.fst)[j]? = some y → 0 ≤ cmpE y x) ∧ Hid (Ext w1 wr))
    (fun a b _ _ => (intOf b).toNat - (intOf a).toNat)
  case atStart => exact ⟨0, L.length, Nat.zero_le _, Nat.le_refl _, rfl, rfl, fun j y h => absurd h (Nat.not_lt_zero _), fun j y h hy => by have := (List.getElem?_eq_some_iff.1 hy).1; rw [List.length_map] at this; omega, Ext.refl _⟩
  case round =>
    obtain ⟨l, k, hlk, hkn, rfl, rfl, HLO, HHI, HX⟩ := hrel
    by_cases hlt : l < k
    · have d : decide ((l : Int) < (k : Int)) = true := by rw [decide_eq_true_eq]; exact Int.ofNat_lt.2 hlt
      have dn : decide (l < k) = true := by rw [decide_eq_true_eq]; exact hlt
      obtain ⟨m, hm⟩ : ∃ m, m = (l + k) / 2 := ⟨_, rfl⟩
      have HMM : Hid (l ≤ m ∧ m < k ∧ k ≤ L.length ∧ L.length ≤ 1024) := by have := HN.out; unfold Hid; omega
      have hs1 := wrap_sum (l := l) (h := k) (by have := HN.out; omega)
      obtain ⟨s, hs⟩ : ∃ s, s = l + k := ⟨_, rfl⟩
      rw [← hs] at hs1 hm
      have hs2 := wrap_div (m := s) (by have := HN.out; omega)
      rw [← hm] at hs2
      have HS2 := Lib.hid hs2
      have hml : m < L.length := by have := HMM.out; omega
      obtain ⟨p, hp⟩ : ∃ p, L[m]? = some p := ⟨_, List.getElem?_eq_getElem hml⟩
      have HP := Lib.hid hp
      obtain ⟨bb, oo, rfl⟩ := HE.out.base (by omega)
      have HEr := Lib.hid (HE.out.below HX.out HH.out.1)
      obtain ⟨c0, c1, c2, c3⟩ := HEr.out.get hp
      have HBr : Hid (wr.heap[w.heap.size]? = some (.cells #[.slice g.kA x.key.length g.kc, .int .i64 x.seq, .int .i64 x.kind, .slice g.vA x.val.length g.vc] 37 (0, 0))) := ext_heap HX.out HB1.out
      have e0 := cell_of HBr.out (k := 0) rfl
      have e1 := cell_of HBr.out (k := 1) rfl
      have e2 := cell_of HBr.out (k := 2) rfl
      have e3 := cell_of HBr.out (k := 3) rfl
      have n1 : (0 : Int) ≤ (m : Int) := Int.natCast_nonneg _
      have n2 : (m : Int) < (L.length : Int) := Int.ofNat_lt.2 hml
      have HCK : Hid (∀ u, Ext wr u → Calls Try.prog 51 #[p.1.at_ p.2, x.at_ g] u fun y w' => y = .returned (.int .i64 (cmpE p.1 x)) ∧ Ext u w') := fun u hu => by
        have hz := HX.out.size
        exact compare_any ((HEr.out.each p (List.mem_of_getElem? HP.out)).below hu (Nat.le_trans HH.out.1 hz)) (HM.out.below (Ext.trans HX.out hu) HH.out.2) (Nat.le_trans HH.out.1 (Nat.le_trans hz hu.size)) (Nat.le_trans HH.out.2 (Nat.le_trans hz hu.size))
      obtain ⟨z, hz⟩ : ∃ z, z = cmpE p.1 x := ⟨_, rfl⟩
      have HZ := Lib.hid hz
      rw [← hz] at HCK
      have HPM : Hid ((L.map Prod.fst)[m]? = some p.1) := by rw [List.getElem?_map, HP.out]; exact rfl
      unfold Ent.at_ at HCK
      clear hlt hp hml hm hs hlk hkn hz
      by_cases hneg : z < 0
      · have dz : decide (z < 0) = true := decide_eq_true hneg
        have HNG := Lib.hid hneg
        clear hneg
        go_upto_region 4 with (fail)
        refine flow (by kernel_rfl) [Is (.slice (some ⟨bb, oo, none⟩) L.length c), Is (.int .i64 (m : Int)), Is (.pointer (some ⟨bb, oo + m * 4, none⟩)), Is (.agg #[.slice p.2.kA p.1.key.length p.2.kc, .int .i64 p.1.seq, .int .i64 p.1.kind, .slice p.2.vA p.1.val.length p.2.vc]), Is (.agg #[.slice g.kA x.key.length g.kc, .int .i64 x.seq, .int .i64 x.kind, .slice g.vA x.val.length g.vc]), Is (.int .i64 z), Is (.bool true)] (by kernel_rfl) (by kernel_rfl) ?mono (fun f1 => ?obl) ?fin
        case mono =>
          simp only [List.forall_mem_cons, List.not_mem_nil, false_imp_iff, implies_true, and_true]
          exact ⟨.is _, .is _, .is _, .is _, .is _, .is _, .is _⟩
        case fin =>
          intro g1 u hu hg
          simp only [puts, Act.put, List.setIfInBounds_toArray, List.set_cons_zero, List.set_cons_succ]
          have hxu := Ext.trans (Ext.drew wr) hu
          have HXU : Hid (Ext w1 u) := Ext.trans HX.out hxu
          have e6 : g1 6 = .bool true := hg 6 (by decide)
          rw [e6]
          clear hxu hu hg e6 hs1 hs2 e0 e1 e2 e3 c0 c1 c2 c3
          go_wp2_with fail
          go_roundw
          case rel =>
            have hmm := HMM.out
            refine ⟨m + 1, k, by omega, by omega, ?_, rfl, ?_, HHI, HXU⟩
            · rw [HS2.out, wrap_succ (by omega)]
            · exact cut_lo HR.out HPM.out (by rw [← HZ.out]; exact HNG.out)
          case measure =>
            have hmm := HMM.out
            rw [HS2.out, wrap_succ (by omega)]
            simp [intOf]; omega
        case obl =>
          refine ⟨fun u hu hd => ?_, ?_⟩
          · go_simp
            exact ⟨Ext.refl _, rfl⟩
          refine ⟨fun u hu hd => ?_, ?_⟩
          · simp only [Act.put, List.setIfInBounds_toArray, List.set_cons_zero, List.set_cons_succ]
            go_simp
            exact ⟨Ext.refl _, rfl⟩
          refine ⟨fun u hu hd => ?_, ?_⟩
          · simp only [Act.put, List.setIfInBounds_toArray, List.set_cons_zero, List.set_cons_succ]
            have e0 : f1 0 = .slice (some ⟨bb, oo, none⟩) L.length c := hd 0 (by kernel_rfl)
            have e1 : f1 1 = .int .i64 (m : Int) := hd 1 (by kernel_rfl)
            go_simp
            exact ⟨Ext.refl _, rfl⟩
          refine ⟨fun u hu hd => ?_, ?_⟩
          · simp only [Act.put, List.setIfInBounds_toArray, List.set_cons_zero, List.set_cons_succ]
            have e2 : f1 2 = .pointer (some ⟨bb, oo + m * 4, none⟩) := hd 2 (by kernel_rfl)
            have hu2 := Ext.trans (Ext.drew wr) hu
            have q0 := ext_cell hu2 c0
            have q1 := ext_cell hu2 c1
            have q2 := ext_cell hu2 c2
            have q3 := ext_cell hu2 c3
            go_simp
            exact ⟨Ext.refl _, rfl⟩
          refine ⟨fun u hu hd => ?_, ?_⟩
          · simp only [Act.put, List.setIfInBounds_toArray, List.set_cons_zero, List.set_cons_succ]
            have hu2 := Ext.trans (Ext.drew wr) hu
            have q0 := ext_cell hu2 e0
            have q1 := ext_cell hu2 e1
            have q2 := ext_cell hu2 e2
            have q3 := ext_cell hu2 e3
            go_simp
            exact ⟨Ext.refl _, rfl⟩
          refine ⟨fun u hu hd => ?_, ?_⟩
          · simp only [Act.put, List.setIfInBounds_toArray, List.set_cons_zero, List.set_cons_succ]
            have e3 : f1 3 = .agg #[.slice p.2.kA p.1.key.length p.2.kc, .int .i64 p.1.seq, .int .i64 p.1.kind, .slice p.2.vA p.1.val.length p.2.vc] := hd 3 (by kernel_rfl)
            have e4 : f1 4 = .agg #[.slice g.kA x.key.length g.kc, .int .i64 x.seq, .int .i64 x.kind, .slice g.vA x.val.length g.vc] := hd 4 (by kernel_rfl)
            have hu2 := Ext.trans (Ext.drew wr) hu
            go_simp
            refine (HCK.out _ hu2).mono ?_
            rintro y w9 ⟨rfl, hx9⟩
            exact ⟨_, rfl, hx9, rfl⟩
          refine ⟨fun u hu hd => ?_, ?_⟩
          · simp only [Act.put, List.setIfInBounds_toArray, List.set_cons_zero, List.set_cons_succ]
            have e5 : f1 5 = .int .i64 z := hd 5 (by kernel_rfl)
            go_simp
            exact ⟨Ext.refl _, rfl⟩
          trivial
      · have dz : decide (z < 0) = false := decide_eq_false hneg
        have HNG := Lib.hid hneg
        clear hneg
        go_upto_region 4 with (fail)
        refine flow (by kernel_rfl) [Is (.slice (some ⟨bb, oo, none⟩) L.length c), Is (.int .i64 (m : Int)), Is (.pointer (some ⟨bb, oo + m * 4, none⟩)), Is (.agg #[.slice p.2.kA p.1.key.length p.2.kc, .int .i64 p.1.seq, .int .i64 p.1.kind, .slice p.2.vA p.1.val.length p.2.vc]), Is (.agg #[.slice g.kA x.key.length g.kc, .int .i64 x.seq, .int .i64 x.kind, .slice g.vA x.val.length g.vc]), Is (.int .i64 z), Is (.bool false)] (by kernel_rfl) (by kernel_rfl) ?mono (fun f1 => ?obl) ?fin
        case mono =>
          simp only [List.forall_mem_cons, List.not_mem_nil, false_imp_iff, implies_true, and_true]
          exact ⟨.is _, .is _, .is _, .is _, .is _, .is _, .is _⟩
        case fin =>
          intro g1 u hu hg
          simp only [puts, Act.put, List.setIfInBounds_toArray, List.set_cons_zero, List.set_cons_succ]
          have hxu := Ext.trans (Ext.drew wr) hu
          have HXU : Hid (Ext w1 u) := Ext.trans HX.out hxu
          have e6 : g1 6 = .bool false := hg 6 (by decide)
          rw [e6]
          clear hxu hu hg e6 hs1 hs2 e0 e1 e2 e3 c0 c1 c2 c3
          go_wp2_with fail
          go_roundw
          case rel =>
            have hmm := HMM.out
            refine ⟨l, m, by omega, by omega, rfl, by rw [HS2.out], HLO, ?_, HXU⟩
            exact cut_hi HR.out HPM.out (by rw [← HZ.out]; have := HNG.out; omega)
          case measure =>
            have hmm := HMM.out
            rw [HS2.out]
            simp [intOf]; omega
        case obl =>
          refine ⟨fun u hu hd => ?_, ?_⟩
          · go_simp
            exact ⟨Ext.refl _, rfl⟩
          refine ⟨fun u hu hd => ?_, ?_⟩
          · simp only [Act.put, List.setIfInBounds_toArray, List.set_cons_zero, List.set_cons_succ]
            go_simp
            exact ⟨Ext.refl _, rfl⟩
          refine ⟨fun u hu hd => ?_, ?_⟩
          · simp only [Act.put, List.setIfInBounds_toArray, List.set_cons_zero, List.set_cons_succ]
            have e0 : f1 0 = .slice (some ⟨bb, oo, none⟩) L.length c := hd 0 (by kernel_rfl)
            have e1 : f1 1 = .int .i64 (m : Int) := hd 1 (by kernel_rfl)
            go_simp
            exact ⟨Ext.refl _, rfl⟩
          refine ⟨fun u hu hd => ?_, ?_⟩
          · simp only [Act.put, List.setIfInBounds_toArray, List.set_cons_zero, List.set_cons_succ]
            have e2 : f1 2 = .pointer (some ⟨bb, oo + m * 4, none⟩) := hd 2 (by kernel_rfl)
            have hu2 := Ext.trans (Ext.drew wr) hu
            have q0 := ext_cell hu2 c0
            have q1 := ext_cell hu2 c1
            have q2 := ext_cell hu2 c2
            have q3 := ext_cell hu2 c3
            go_simp
            exact ⟨Ext.refl _, rfl⟩
          refine ⟨fun u hu hd => ?_, ?_⟩
          · simp only [Act.put, List.setIfInBounds_toArray, List.set_cons_zero, List.set_cons_succ]
            have hu2 := Ext.trans (Ext.drew wr) hu
            have q0 := ext_cell hu2 e0
            have q1 := ext_cell hu2 e1
            have q2 := ext_cell hu2 e2
            have q3 := ext_cell hu2 e3
            go_simp
            exact ⟨Ext.refl _, rfl⟩
          refine ⟨fun u hu hd => ?_, ?_⟩
          · simp only [Act.put, List.setIfInBounds_toArray, List.set_cons_zero, List.set_cons_succ]
            have e3 : f1 3 = .agg #[.slice p.2.kA p.1.key.length p.2.kc, .int .i64 p.1.seq, .int .i64 p.1.kind, .slice p.2.vA p.1.val.length p.2.vc] := hd 3 (by kernel_rfl)
            have e4 : f1 4 = .agg #[.slice g.kA x.key.length g.kc, .int .i64 x.seq, .int .i64 x.kind, .slice g.vA x.val.length g.vc] := hd 4 (by kernel_rfl)
            have hu2 := Ext.trans (Ext.drew wr) hu
            go_simp
            refine (HCK.out _ hu2).mono ?_
            rintro y w9 ⟨rfl, hx9⟩
            exact ⟨_, rfl, hx9, rfl⟩
          refine ⟨fun u hu hd => ?_, ?_⟩
          · simp only [Act.put, List.setIfInBounds_toArray, List.set_cons_zero, List.set_cons_succ]
            have e5 : f1 5 = .int .i64 z := hd 5 (by kernel_rfl)
            go_simp
            exact ⟨Ext.refl _, rfl⟩
          trivial
    · have d : decide ((l : Int) < (k : Int)) = false := by rw [decide_eq_false_iff_not]; exact fun h => hlt (Int.ofNat_lt.1 h)
      have dn : decide (l < k) = false := by rw [decide_eq_false_iff_not]; exact hlt
      have HLK : Hid (l = k ∧ k ≤ L.length) := ⟨by omega, hkn⟩
      clear hlt hlk hkn
      go_wp2_with fail
      rw [Exit.noGoto_ret]
      go_ret
      exact ⟨l, ⟨by rw [List.length_map]; have := HLK.out; omega, HLO.out, by rw [HLK.out.1]; exact HHI.out⟩, rfl, Ext.trans HX1.out HX.out⟩
end Go.Proofs.Ytddfelahpiokjaa

/- Plain mathematics of the skiplist: entries that rise, where a place is, what is put, found, gone over; towers in a row and their next ones (no function of the program). -/
namespace Go.Proofs.Ytddfelahpiokjaa

/-- They rise. -/
def Asc (L : List Ent) : Prop := L.Pairwise fun a b => cmpE a b < 0
theorem cmpE_lt {a b : Ent} : cmpE a b < 0 ↔ cmpE a b = -1 := by have := cmpE_range a b; omega
theorem cmpE_trans {a b c : Ent} (h : cmpE a b < 0) (k : cmpE b c < 0) : cmpE a c < 0 := by
  rw [cmpE_lt] at *; exact cmpE_lt_trans h k
theorem cmpE_keys {a b : Ent} (h : cmpE a b < 0) : cmpK a.key b.key ≤ 0 := by
  unfold cmpE at h
  split at h
  · omega
  · omega
theorem cmpK_trans_lt {a b c : List Nat} (h : cmpK a b ≤ 0) (k : cmpK b c < 0) : cmpK a c < 0 := by
  have r1 := cmpK_range a b
  have r2 := cmpK_range b c
  rcases r1 with r1 | r1 | r1
  · rw [cmpK_lt_trans r1 (by omega)]; decide
  · rw [cmpK_zero r1]; exact k
  · omega

section
variable {α : Type}
/-- How many stand ahead. -/
def cutOf (q : α → Bool) (L : List α) : Nat := (L.takeWhile q).length
theorem cutOf_le (q : α → Bool) (L : List α) : cutOf q L ≤ L.length := (List.takeWhile_prefix q).length_le
theorem cut_iff {q : α → Bool} : ∀ {L : List α}, L.Pairwise (fun a b => q b = true → q a = true) → ∀ {j : Nat} {e : α}, L[j]? = some e → (q e = true ↔ j < cutOf q L)
  | [], _, j, e, h => by simp at h
  | a :: l, hp, j, e, h => by
    obtain ⟨h1, h2⟩ := List.pairwise_cons.1 hp
    unfold cutOf
    by_cases ha : q a = true
    · rw [List.takeWhile_cons, if_pos ha]
      cases j with
      | zero => simp at h; subst h; simp [ha]
      | succ j =>
        have := cut_iff h2 (j := j) (by simpa using h)
        unfold cutOf at this
        simp only [List.length_cons]
        rw [this]; omega
    · rw [List.takeWhile_cons, if_neg ha]
      simp only [List.length_nil, Nat.not_lt_zero, iff_false]
      cases j with
      | zero => simp at h; subst h; exact ha
      | succ j => exact fun he => ha (h1 e (List.mem_of_getElem? (by simpa using h)) he)
theorem cut_map {β : Type} (f : β → α) (q : α → Bool) (L : List β) : cutOf q (L.map f) = cutOf (fun x => q (f x)) L := by
  unfold cutOf
  induction L with
  | nil => rfl
  | cons a l ih =>
    rw [List.map_cons, List.takeWhile_cons, List.takeWhile_cons]
    split <;> simp_all
/-- The cut is there where it holds below, and no more there. -/
theorem cut_is {q : α → Bool} {L : List α} {k : Nat} (hk : k ≤ L.length) (h1 : ∀ j e, j < k → L[j]? = some e → q e = true) (h2 : ∀ e, L[k]? = some e → q e = false) : cutOf q L = k := by
  induction L generalizing k with
  | nil => simp at hk; subst hk; rfl
  | cons a l ih =>
    unfold cutOf
    cases k with
    | zero =>
      have := h2 a rfl
      rw [List.takeWhile_cons, if_neg (by simp [this])]; rfl
    | succ k =>
      have := h1 0 a (by omega) rfl
      rw [List.takeWhile_cons, if_pos this, List.length_cons]
      have := ih (k := k) (by simpa using hk) (fun j e hj he => h1 (j + 1) e (by omega) (by simpa using he)) (fun e he => h2 e (by simpa using he))
      unfold cutOf at this
      omega
end

/-- Is it ahead of a place? -/
def aheadE (k : List Nat) (s : Int) (e : Ent) : Bool := decide ((if cmpK e.key k = 0 then cmpS e.seq s else cmpK e.key k) < 0)
theorem aheadE_cmp (x e : Ent) : aheadE x.key x.seq e = decide (cmpE e x < 0) := rfl
theorem aheadE_down {k : List Nat} {s : Int} {a b : Ent} (h : cmpE a b < 0) (hb : aheadE k s b = true) : aheadE k s a = true := by
  have : ∀ e, aheadE k s e = decide (cmpE e ⟨k, s, 0, []⟩ < 0) := fun _ => rfl
  rw [this, decide_eq_true_eq] at *
  exact cmpE_trans h hb
/-- Is its key below? -/
def belowK (k : List Nat) (e : Ent) : Bool := decide (cmpK e.key k < 0)
theorem belowK_down {k : List Nat} {a b : Ent} (h : cmpE a b < 0) (hb : belowK k b = true) : belowK k a = true := by
  unfold belowK at *
  rw [decide_eq_true_eq] at *
  exact cmpK_trans_lt (cmpE_keys h) hb
def nobodyE (_ : Ent) : Bool := false

theorem Asc.ahead {L : List Ent} (h : Asc L) (k : List Nat) (s : Int) : L.Pairwise fun a b => aheadE k s b = true → aheadE k s a = true := h.imp fun h => aheadE_down h
theorem Asc.belowK {L : List Ent} (h : Asc L) (k : List Nat) : L.Pairwise fun a b => Go.Proofs.Ytddfelahpiokjaa.belowK k b = true → Go.Proofs.Ytddfelahpiokjaa.belowK k a = true := h.imp fun h => belowK_down h
theorem nobody_pair (L : List Ent) : L.Pairwise fun a b => nobodyE b = true → nobodyE a = true := by
  apply List.pairwise_of_forall
  intro a b h; cases h

/-- What is there behind it, and the error's number. -/
def putE (L : List Ent) (x : Ent) : List Ent × Int :=
  if x.may then
    (match L[cutOf (aheadE x.key x.seq) L]? with
     | some e => if cmpE e x = 0 then (L, 7) else (L.take (cutOf (aheadE x.key x.seq) L) ++ x :: L.drop (cutOf (aheadE x.key x.seq) L), 0)
     | none => (L.take (cutOf (aheadE x.key x.seq) L) ++ x :: L.drop (cutOf (aheadE x.key x.seq) L), 0))
  else (L, 2)

theorem Asc.split {L : List Ent} (h : Asc L) {k : Nat} {x : Ent} (h1 : ∀ j e, j < k → L[j]? = some e → cmpE e x < 0) (h2 : ∀ j e, k ≤ j → L[j]? = some e → cmpE x e < 0) : Asc (L.take k ++ x :: L.drop k) := by
  unfold Asc
  rw [List.pairwise_append]
  refine ⟨h.sublist (List.take_sublist _ _), List.pairwise_cons.2 ⟨fun e he => ?_, h.sublist (List.drop_sublist _ _)⟩, fun a ha b hb => ?_⟩
  · obtain ⟨i, hi⟩ := List.mem_iff_getElem?.1 he
    rw [List.getElem?_drop] at hi
    exact h2 (k + i) e (by omega) hi
  · obtain ⟨i, hi⟩ := List.mem_iff_getElem?.1 ha
    have hik : i < k := by
      have := (List.getElem?_eq_some_iff.1 hi).1
      rw [List.length_take] at this; omega
    rw [List.getElem?_take, if_pos hik] at hi
    rcases List.mem_cons.1 hb with rfl | hb
    · exact h1 i a hik hi
    · obtain ⟨j, hj⟩ := List.mem_iff_getElem?.1 hb
      rw [List.getElem?_drop] at hj
      exact cmpE_trans (h1 i a hik hi) (h2 (k + j) b (by omega) hj)
theorem Asc.lt {L : List Ent} (h : Asc L) {i j : Nat} {a b : Ent} (hij : i < j) (ha : L[i]? = some a) (hb : L[j]? = some b) : cmpE a b < 0 := by
  obtain ⟨h1, rfl⟩ := List.getElem?_eq_some_iff.1 ha
  obtain ⟨h2, rfl⟩ := List.getElem?_eq_some_iff.1 hb
  exact List.pairwise_iff_getElem.1 h i j h1 h2 hij
theorem cmpE_neg {a b : Ent} (h : ¬ cmpE a b < 0) (h0 : cmpE a b ≠ 0) : cmpE b a < 0 := by
  rw [cmpE_turn]; omega
theorem Asc.put {L : List Ent} (h : Asc L) (x : Ent) : Asc (putE L x).1 := by
  unfold putE
  split
  · have hc := h.ahead x.key x.seq
    have key : (∀ e, L[cutOf (aheadE x.key x.seq) L]? = some e → cmpE e x ≠ 0) → Asc (L.take (cutOf (aheadE x.key x.seq) L) ++ x :: L.drop (cutOf (aheadE x.key x.seq) L)) := fun hne => by
      refine h.split (fun j e hj he => ?_) (fun j e hj he => ?_)
      · have := (cut_iff hc he).2 hj
        rw [aheadE_cmp, decide_eq_true_eq] at this
        exact this
      · have h1 : ∀ e', L[cutOf (aheadE x.key x.seq) L]? = some e' → cmpE x e' < 0 := fun e' he' => by
          have : ¬ aheadE x.key x.seq e' = true := fun h => absurd ((cut_iff hc he').1 h) (Nat.lt_irrefl _)
          rw [aheadE_cmp, decide_eq_true_eq] at this
          exact cmpE_neg this (hne e' he')
        rcases Nat.lt_or_ge (cutOf (aheadE x.key x.seq) L) j with hlt | hge
        · obtain ⟨e', he'⟩ : ∃ e', L[cutOf (aheadE x.key x.seq) L]? = some e' := by
            have := (List.getElem?_eq_some_iff.1 he).1
            exact ⟨_, List.getElem?_eq_getElem (by omega)⟩
          exact cmpE_trans (h1 e' he') (h.lt hlt he' he)
        · have : j = cutOf (aheadE x.key x.seq) L := by omega
          subst this
          exact h1 e he
    split
    · rename_i e he
      split
      · exact h
      · rename_i h0
        exact key fun e' he' => by rw [he] at he'; injection he' with he'; subst he'; exact h0
    · rename_i he
      exact key fun e' he' => by rw [he] at he'; cases he'
  · exact h
theorem putE_len (L : List Ent) (x : Ent) : (putE L x).1.length ≤ L.length + 1 := by
  unfold putE
  have h1 := cutOf_le (aheadE x.key x.seq) L
  have h2 : (L.take (cutOf (aheadE x.key x.seq) L) ++ x :: L.drop (cutOf (aheadE x.key x.seq) L)).length = L.length + 1 := by
    simp only [List.length_append, List.length_cons, List.length_take, List.length_drop]; omega
  split
  · split
    · split
      · exact Nat.le_succ _
      · exact Nat.le_of_eq h2
    · exact Nat.le_of_eq h2
  · exact Nat.le_succ _
theorem putE_mem {L : List Ent} {x e : Ent} (h : e ∈ (putE L x).1) : e ∈ L ∨ (e = x ∧ x.may = true) := by
  unfold putE at h
  have key : ∀ k, x.may = true → e ∈ L.take k ++ x :: L.drop k → e ∈ L ∨ (e = x ∧ x.may = true) := fun k hm h => by
    rcases List.mem_append.1 h with h | h
    · exact .inl (List.mem_of_mem_take h)
    · rcases List.mem_cons.1 h with rfl | h
      · exact .inr ⟨rfl, hm⟩
      · exact .inl (List.mem_of_mem_drop h)
  split at h
  · rename_i hm
    split at h
    · split at h
      · exact .inl h
      · exact key _ hm h
    · exact key _ hm h
  · exact .inl h

/-- What is found. -/
def getE (L : List Ent) (k : List Nat) (s : Int) : Option Ent :=
  match L[cutOf (aheadE k s) L]? with
  | some e => if cmpK e.key k = 0 then some e else none
  | none => none
theorem getE_find {L : List Ent} (h : Asc L) (k : List Nat) (s : Int) : getE L k s = L.find? fun e => decide (e.key = k) && decide (e.seq ≤ s) := by
  have hc := h.ahead k s
  have hno : ∀ e, aheadE k s e = true → (decide (e.key = k) && decide (e.seq ≤ s)) = false := fun e he => by
    unfold aheadE at he
    rw [decide_eq_true_eq] at he
    by_cases hk : e.key = k
    · rw [hk, cmpK_self, if_pos rfl] at he
      unfold cmpS at he
      have : ¬ e.seq ≤ s := by
        split at he
        · omega
        · split at he <;> omega
      simp [this]
    · simp [hk]
  unfold getE
  cases he : L[cutOf (aheadE k s) L]? with
  | none =>
    symm
    rw [List.find?_eq_none]
    intro e hm
    obtain ⟨i, hi⟩ := List.mem_iff_getElem?.1 hm
    have h1 := (List.getElem?_eq_some_iff.1 hi).1
    have h2 := List.getElem?_eq_none_iff.1 he
    rw [hno e ((cut_iff hc hi).2 (by omega))]; decide
  | some e =>
    have h0 : aheadE k s e = false := by
      have : ¬ aheadE k s e = true := fun h => absurd ((cut_iff hc he).1 h) (Nat.lt_irrefl _)
      simpa using this
    by_cases hk : cmpK e.key k = 0
    · simp only [if_pos hk]
      symm
      have hkk := cmpK_zero hk
      have hs : e.seq ≤ s := by
        unfold aheadE at h0
        rw [if_pos hk, decide_eq_false_iff_not] at h0
        unfold cmpS at h0
        by_cases h3 : s < e.seq
        · rw [if_pos h3] at h0; omega
        · omega
      have : ∀ {M : List Ent} {i : Nat}, M[i]? = some e → (∀ j y, j < i → M[j]? = some y → (decide (y.key = k) && decide (y.seq ≤ s)) = false) → M.find? (fun e => decide (e.key = k) && decide (e.seq ≤ s)) = some e := by
        intro M
        induction M with
        | nil => intro i hi; simp at hi
        | cons a l ih =>
          intro i hi hj
          cases i with
          | zero => simp at hi; subst hi; simp [hkk, hs]
          | succ i =>
            rw [List.find?_cons, hj 0 a (by omega) rfl]
            exact ih (i := i) (by simpa using hi) (fun j y hjj hy => hj (j + 1) y (by omega) (by simpa using hy))
      exact this he fun j y hj hy => hno y ((cut_iff hc hy).2 hj)
    · simp only [if_neg hk]
      symm
      rw [List.find?_eq_none]
      intro x hm
      obtain ⟨i, hi⟩ := List.mem_iff_getElem?.1 hm
      by_cases hlt : i < cutOf (aheadE k s) L
      · rw [hno x ((cut_iff hc hi).2 hlt)]; decide
      · have hx : cmpK x.key k ≠ 0 := by
          intro hxk
          have hek : 0 < cmpK e.key k := by
            unfold aheadE at h0
            rw [if_neg hk, decide_eq_false_iff_not] at h0
            omega
          have hxe : cmpK e.key x.key ≤ 0 := by
            rcases Nat.lt_or_ge (cutOf (aheadE k s) L) i with hgt | hge
            · exact cmpE_keys (h.lt hgt he hi)
            · have : i = cutOf (aheadE k s) L := by omega
              subst this
              rw [he] at hi; injection hi with hi; subst hi
              rw [cmpK_self]; decide
          rw [cmpK_zero hxk] at hxe
          omega
        have : x.key ≠ k := fun h => hx (by rw [h, cmpK_self])
        simp [this]
theorem getE_mem {L : List Ent} {k : List Nat} {s : Int} {e : Ent} (h : getE L k s = some e) : e ∈ L := by
  unfold getE at h
  split at h
  · rename_i x hx
    split at h
    · injection h with h; subst h; exact List.mem_of_getElem? hx
    · cases h
  · cases h

/-- How many bytes they have. -/
def bytesE (L : List Ent) : Nat := (L.map fun e => e.form.length).sum
theorem bytesE_split (L : List Ent) (k : Nat) (x : Ent) : bytesE (L.take k ++ x :: L.drop k) = bytesE L + x.form.length := by
  unfold bytesE
  have : L = L.take k ++ L.drop k := (List.take_append_drop k L).symm
  conv => rhs; rw [this]
  simp only [List.map_append, List.map_cons, List.sum_append, List.sum_cons]
  omega

/-- A tower. -/
structure Tw where
  e : Ent
  b : Nat
  h : Nat
/-- The next one in a level, among those behind. -/
def nxt (n : Nat) : List Tw → Option Nat
  | [] => none
  | t :: r => if n < t.h then some t.b else nxt n r
theorem nxt_append (n : Nat) (X Y : List Tw) (h : ∀ t ∈ X, t.h ≤ n) : nxt n (X ++ Y) = nxt n Y := by
  induction X with
  | nil => rfl
  | cons a l ih =>
    have := h a (by simp)
    rw [List.cons_append, nxt, if_neg (by omega)]
    exact ih fun t ht => h t (by simp [ht])
theorem nxt_hit (n : Nat) {X Y : List Tw} {t : Tw} (ht : t ∈ X) (hn : n < t.h) : nxt n (X ++ Y) = nxt n X := by
  induction X with
  | nil => simp at ht
  | cons a l ih =>
    rw [List.cons_append, nxt, nxt]
    by_cases ha : n < a.h
    · rw [if_pos ha, if_pos ha]
    · rw [if_neg ha, if_neg ha]
      rcases List.mem_cons.1 ht with rfl | ht
      · exact absurd hn ha
      · exact ih ht
/-- What the next one in a level is. -/
theorem nxt_some {n b : Nat} : ∀ {X : List Tw}, nxt n X = some b → ∃ (i : Nat) (t : Tw), X[i]? = some t ∧ t.b = b ∧ n < t.h ∧ ∀ (j : Nat) (t' : Tw), j < i → X[j]? = some t' → t'.h ≤ n
  | [], h => by cases h
  | a :: l, h => by
    rw [nxt] at h
    by_cases ha : n < a.h
    · rw [if_pos ha] at h
      injection h with h
      exact ⟨0, a, rfl, h, ha, fun j t' hj _ => absurd hj (Nat.not_lt_zero _)⟩
    · rw [if_neg ha] at h
      obtain ⟨i, t, h1, h2, h3, h4⟩ := nxt_some h
      refine ⟨i + 1, t, by simpa using h1, h2, h3, fun j t' hj hjt => ?_⟩
      cases j with
      | zero => simp at hjt; subst hjt; omega
      | succ j => exact h4 j t' (by omega) (by simpa using hjt)
theorem nxt_none {n : Nat} : ∀ {X : List Tw}, nxt n X = none → ∀ t : Tw, t ∈ X → t.h ≤ n
  | [], _, t, ht => by simp at ht
  | a :: l, h, t, ht => by
    rw [nxt] at h
    by_cases ha : n < a.h
    · rw [if_pos ha] at h; cases h
    · rw [if_neg ha] at h
      rcases List.mem_cons.1 ht with rfl | ht
      · omega
      · exact nxt_none h t ht
/-- The last one ahead of k in a level. -/
structure LastAt (H : List Tw) (k n i : Nat) : Prop where
  lt : i < k
  at_ : ∃ t : Tw, H[i]? = some t ∧ n < t.h
  last : ∀ (j : Nat) (t : Tw), i < j → j < k → H[j]? = some t → t.h ≤ n
end Go.Proofs.Ytddfelahpiokjaa

/- A tower's height: plain mathematics. -/
namespace Go.Proofs.Ytddfelahpiokjaa
open Go

theorem _root_.Go.Lib.ctzFrom_le : ∀ (f x : Nat), Go.Lib.ctzFrom f x ≤ f
  | 0, x => Nat.le_refl _
  | f + 1, x => by
    unfold Go.Lib.ctzFrom
    split
    · omega
    · have := Go.Lib.ctzFrom_le f (x / 2); omega
/-- One byte more into the sum. -/
def fnv (h b : Nat) : Nat := ((h ^^^ b) * 16777619) % 4294967296
/-- A number's byte, from the highest one on. -/
def sbyte (s : Int) (j : Nat) : Nat := (s / 2 ^ (56 - 8 * j) % 256).toNat
def sbytes (s : Int) (n : Nat) : List Nat := (List.range n).map (sbyte s)
def sumK (key : List Nat) : Nat := key.foldl fnv 2166136261
def sumS (key : List Nat) (s : Int) : Nat := (sbytes s 8).foldl fnv (sumK key)
def hgt (key : List Nat) (s : Int) : Nat := min (1 + Lib.ctz 32 (sumS key s) / 2) 8
theorem hgt_le (key : List Nat) (s : Int) : 1 ≤ hgt key s ∧ hgt key s ≤ 8 := by unfold hgt; omega
theorem fnv_lt (h b : Nat) : fnv h b < 4294967296 := Nat.mod_lt _ (by decide)
theorem fold_lt (l : List Nat) (h : Nat) (hh : h < 4294967296) : l.foldl fnv h < 4294967296 := by
  induction l generalizing h with
  | nil => exact hh
  | cons a l ih => exact ih _ (fnv_lt _ _)
theorem sbyte_lt (s : Int) (j : Nat) : sbyte s j < 256 := by unfold sbyte; omega
end Go.Proofs.Ytddfelahpiokjaa

/- The skiplist in memory: towers, each with its next ones; what keeps them. -/
namespace Go.Proofs.Ytddfelahpiokjaa
open Go.ChangeShapes Go.WideShapes Go.ChangeAt Go.RowKit

/-- A pointer that may be none. -/
def optp : Option Nat → Value
  | none => .pointer none
  | some b => .pointer (some ⟨b, 0, none⟩)
/-- A tower's cells: t, its entry's rows at g, how many came ahead of it; behind it the towers R. -/
def nextOf (t : Tw) (R : List Tw) (n : Nat) : Value := if n < t.h then optp (nxt n R) else .pointer none
def tcells (t : Tw) (g : Hd) (born : Int) (R : List Tw) : Array Value :=
  #[.slice g.kA t.e.key.length g.kc, .int .i64 t.e.seq, .int .i64 t.e.kind, .slice g.vA t.e.val.length g.vc, .int .i64 born, nextOf t R 0, nextOf t R 1, nextOf t R 2, nextOf t R 3, nextOf t R 4, nextOf t R 5, nextOf t R 6, nextOf t R 7]
theorem tcells_next (t : Tw) (g : Hd) (born : Int) (R : List Tw) {n : Nat} (h : n < 8) : (tcells t g born R)[5 + n]? = some (nextOf t R n) := by
  match n, h with
  | 0, _ => rfl
  | 1, _ => rfl
  | 2, _ => rfl
  | 3, _ => rfl
  | 4, _ => rfl
  | 5, _ => rfl
  | 6, _ => rfl
  | 7, _ => rfl
theorem Own.em {B : Nat} {w : World} {e : Ent} {g : Hd} (hk : Own B e.key (.slice g.kA e.key.length g.kc) w) (hv : Own B e.val (.slice g.vA e.val.length g.vc) w) (h1 : ∀ x ∈ e.key, x < 256) (h2 : ∀ x ∈ e.val, x < 256)
    (s1 : -9223372036854775808 ≤ e.seq) (s2 : e.seq ≤ 9223372036854775807) (d1 : -9223372036854775808 ≤ e.kind) (d2 : e.kind ≤ 9223372036854775807) : Em w 0 w.heap.size e g :=
  ⟨hk.bs, hv.bs, h1, h2, s1, s2, d1, d2⟩
theorem Own.keep {B : Nat} {l : List Nat} {v : Value} {w w' : World} {D S : Nat → Prop} (h : Own B l v w) (hd : ∀ k, v.ownBlock = some k → D k) (hc : Chg S w w') (hS : ∀ k, S k → ¬ D k) : Own B l v w' :=
  row_kept h fun g hg => hc.block g (row_lt h g hg).2 (fun hs => hS g hs (hd g hg))
/-- The head of a list: no entry, all levels. -/
def zeroE : Ent := ⟨[], 0, 0, []⟩
def headT (hb : Nat) : Tw := ⟨zeroE, hb, 8⟩
/-- An entry that is in a list: what its parts are bounded by. -/
structure InE (e : Ent) : Prop where
  bk : ∀ x ∈ e.key, x < 256
  bv : ∀ x ∈ e.val, x < 256
  may : e.may = true
theorem InE.s {e : Ent} (h : InE e) : 1 ≤ e.key.length ∧ e.key.length ≤ 32 ∧ 1 ≤ e.seq ∧ e.seq ≤ 2147483647 ∧ (e.kind = 1 ∧ e.val.length ≤ 65536 ∨ e.kind = 2 ∧ e.val.length = 0) := mayN_iff.1 h.may
end Go.Proofs.Ytddfelahpiokjaa

/- The reference's From and Get (out of XSrlev and XSrget). -/
namespace Go.Proofs.Ytddfelahpiokjaa
open Go.ChangeShapes Go.WideShapes Go.ChangeAt Go.RowKit

theorem entry_ret2 {fn : Func} {tmps : Array Value} {w : World} {g : Nat} {p q : Tmp} {c : Array Value} {k : Value} {R : Ending → World → Prop} (hr : fn.results = #[.cell p 37, .tmp q]) (h2 : tmps.getD p undef = .pointer (some ⟨g, 0, none⟩)) (h3 : tmps.getD q undef = k)
    (hc : c.size = 4) (hg : w.heap[g]? = some (.cells c 37 (0, 0))) (h : R (.returned (.tuple #[.agg c, k])) w) : bodyPost Try.prog fn R .ret { tmps := tmps, defers := [] } w := by
  refine ⟨rfl, .tuple #[.agg c, k], ?_, h⟩
  have hi : (Try.prog.info? 37).map (·.size) = some 4 := by kernel_rfl
  have hl := run_loadVar_row (P := Try.prog) w g 37 37 c (0, 0) _ hg Try.underlying37 rfl (by rw [hc]; exact hi)
  have ha : (asAddr (.pointer (some ⟨g, 0, none⟩))).run Try.prog w = .ok ⟨g, 0, none⟩ w := rfl
  rw [results_cell_tmp hr, h2, h3, ha, Result.andThen_ok, hl, Result.andThen_ok]


set_option maxRecDepth 100000 in
set_option maxHeartbeats 4000000 in
theorem rfrom_any {w : World} {lo hi lo2 hi2 : Nat} {A : Option Addr} {c : Nat} {R : List (Ent × Hd)} {v : Value} {key : List Nat} (h : Es w lo hi A R) (hhi : hi ≤ w.heap.size) (hc : R.length ≤ c) (hlen : R.length ≤ 1000000) (hkl : ∀ p ∈ R, p.1.key.length ≤ 140737488351232)
    (hk : Bs w lo2 hi2 v key) (hhi2 : hi2 ≤ w.heap.size) (bk : ∀ x ∈ key, x < 256) (hl : key.length ≤ 140737488351232) :
    Calls Try.prog 18 #[.slice A R.length c, v] w fun e w' => ∃ (X : Option Addr) (d : Nat), e = .returned (.slice X (R.drop (cutOf (belowK key) (R.map Prod.fst))).length d) ∧ Es w lo hi X (R.drop (cutOf (belowK key) (R.map Prod.fst))) ∧ Ext w w' := by
  have HE := Lib.hid h
  have HHI := Lib.hid hhi
  have HC := Lib.hid hc
  have HK := Lib.hid hk
  have HHI2 := Lib.hid hhi2
  have HBK := Lib.hid bk
  have HL := Lib.hid hl
  have HKL := Lib.hid hkl
  have hlI : (R.length : Int) ≤ 1000000 := by omega
  clear h hhi hc hk hhi2 bk hl hkl
  go_enter Try.func18, Try.ntmps18
  go_wp2_with fail
  go_loopw [5] (fun i wr => ∃ k : Nat, k ≤ R.length ∧ i = .int .i64 (k : Int) ∧ Hid (∀ j e, j < k → (R.map Prod.fst)[j]? = some e → belowK key e = true) ∧ Hid (Ext w wr)) (fun i _ => R.length - (intOf i).toNat)
  case atStart => exact ⟨0, Nat.zero_le _, rfl, Lib.hid (fun j _ hj => by omega), Lib.hid (Ext.refl _)⟩
  case round =>
    obtain ⟨k, hk, rfl, HJ, HX⟩ := hrel
    by_cases hlt : k < R.length
    · have d : decide ((k : Int) < (R.length : Int)) = true := decide_eq_true (by omega)
      have dn : decide (k < R.length) = true := decide_eq_true hlt
      obtain ⟨b, o, hA⟩ := HE.out.base (by omega)
      obtain ⟨X, hX⟩ : ∃ X : Option Addr, X = if c = k then A else Option.map (fun q : Addr => q.add (k * 4)) A := ⟨_, rfl⟩
      have HS := Lib.hid (fun W => eslice_from A R.length c k hk HC.out W)
      rw [← hX] at HS
      have HEX : Hid (Es w lo hi X (R.drop k)) := by rw [hX]; exact HE.out.drop hk HC.out
      subst hA
      clear hX
      obtain ⟨p, hp⟩ : ∃ p, R[k]? = some p := ⟨_, List.getElem?_eq_getElem hlt⟩
      obtain ⟨c0, c1, c2, c3⟩ := (HE.out.below HX.out HHI.out).get hp
      have HP := Lib.hid hp
      have n1 : (0 : Int) ≤ (k : Int) := by omega
      have n2 : (k : Int) < (R.length : Int) := by omega
      have HLT := Lib.hid hlt
      have hem := (HE.out.below HX.out HHI.out).each p (List.mem_of_getElem? hp)
      have HCM := Lib.hid (rkeys_any hem.k (HK.out.below HX.out HHI2.out) hem.bk HBK.out (Nat.le_trans HHI.out HX.out.size) (Nat.le_trans HHI2.out HX.out.size) (HKL.out p (List.mem_of_getElem? hp)) HL.out)
      obtain ⟨s, hs⟩ : ∃ s, s = cmpK p.1.key key := ⟨_, rfl⟩
      have HSS := Lib.hid hs
      rw [← hs] at HCM
      obtain ⟨y, hy⟩ : ∃ y, y = decide (0 ≤ s) := ⟨_, rfl⟩
      have HY := Lib.hid hy
      have hyn : decide (s < 0) = !y := by rw [hy]; by_cases h : s < 0 <;> simp [h] <;> omega
      have hys := hy.symm
      clear hp hlt hem hs hy
      go_wp2_with fail
      refine HCM.out.mono ?_
      rintro e w1 ⟨rfl, hx1⟩
      have HX1 : Hid (Ext w w1) := Ext.trans HX.out hx1
      clear hx1 HCM c0 c1 c2 c3
      cases y with
      | true =>
        have HCUT : Hid (cutOf (belowK key) (R.map Prod.fst) = k) := cut_is (by rw [List.length_map]; omega) HJ.out (fun e he => by
          rw [List.getElem?_map, HP.out] at he; injection he with he; subst he
          unfold belowK; rw [← HSS.out]; exact decide_eq_false (by have := of_decide_eq_true hys; omega))
        have hsl := HS.out
        clear hyn
        go_wp2_with fail
        go_ret
        refine ⟨X, c - k, ?_, ?_, HX1.out⟩
        · rw [HCUT.out, List.length_drop]; rfl
        · rw [HCUT.out]; exact HEX.out
      | false =>
        go_wp2_with fail
        go_roundw
        case rel =>
          refine ⟨k + 1, by have := HLT.out; omega, by go_num, Lib.hid (fun j e hj he => ?_), HX1⟩
          by_cases hjk : j = k
          · subst hjk
            rw [List.getElem?_map, HP.out] at he; injection he with he; subst he
            unfold belowK; rw [← HSS.out]; exact decide_eq_true (by have := of_decide_eq_false hys; omega)
          · exact HJ.out j e (by omega) he
        case measure => have := HLT.out; simp [intOf]; omega
    · have d : decide ((k : Int) < (R.length : Int)) = false := decide_eq_false (by omega)
      have dn : decide (k < R.length) = false := decide_eq_false hlt
      have HCUT : Hid (R.drop (cutOf (belowK key) (R.map Prod.fst)) = []) := by
        have h1 : cutOf (belowK key) (R.map Prod.fst) = R.length := cut_is (by rw [List.length_map]; omega) (fun j e hj he => HJ.out j e (by omega) he) (fun e he => by
          rw [List.getElem?_eq_none (by rw [List.length_map]; exact Nat.le_refl _)] at he; cases he)
        unfold Hid; rw [h1]; exact List.drop_length ..
      clear hlt hk
      go_wp2_with fail
      go_ret
      refine ⟨none, 0, ?_, ?_, HX.out⟩
      · rw [HCUT.out]; rfl
      · rw [HCUT.out]; exact ⟨Sl.nil _ _ _ _, fun p hp => by cases hp⟩


/-- What the reference's Get answers. -/
def RGetAns (w : World) (lo hi : Nat) (o : Option Ent) (e : Ending) (w' : World) : Prop :=
  Ext w w' ∧ match o with
    | some x => ∃ g : Hd, e = .returned (.tuple #[x.at_ g, .int .i64 0]) ∧ Em w lo hi x g
    | none => e = .returned (.tuple #[zeroE.at_ ⟨none, 0, none, 0⟩, .int .i64 6])
/-- Is it this key's, and not too late? -/
def seenE (k : List Nat) (s : Int) (e : Ent) : Bool := decide (e.key = k) && decide (e.seq ≤ s)
end Go.Proofs.Ytddfelahpiokjaa
