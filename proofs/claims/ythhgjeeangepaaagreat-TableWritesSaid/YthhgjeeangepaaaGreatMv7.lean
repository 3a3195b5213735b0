import Derived.Test.YthhgjeeangepaaaGreatMv6
import Derived.Test.YthhgjeeangepaaaGreatMv5
import Derived.Test.YthhgjeeangepaaaGreatMv3
import Derived.RangeFuncLeaves
import Derived.Defers
import Derived.Recover
import Derived.Test.YthhgjeeangepaaaGreatMv2
import Derived.Lib.TrailingZeros
import Derived.Test.YthhgjeeangepaaaGreatMv4
import Derived.Laws.ResultCell
import Derived.Laws.AppendOwn
import Derived.Test.YthhgjeeangepaaaGreatMv0
namespace Go.Proofs.YthhgjeeangepaaaGreat
open Go.ChangeShapes Go.WideShapes Go.ChangeAt Go.RowKit
theorem Got.rs {B : Nat} {A : Option Addr} {c : Nat} {R : List (Ent × Hd)} {w : World} (h : Got B (.slice A R.length c) R w) : Es w 0 w.heap.size A R := by
  refine ⟨?_, fun p hp => (h.each p hp).em⟩
  rcases h.row.2 with ⟨h1, h2⟩ | ⟨g, cap, cur, hv, hg, hh, r⟩
  · injection h1 with e1 e2 _
    have : R = [] := List.eq_nil_of_length_eq_zero e2
    subst this; exact Sl.nil _ _ _ _
  · injection hv with e1 _ _
    subst e1
    refine .inr ⟨g, 0, rfl, Nat.zero_le _, (Array.getElem?_eq_some_iff.1 hh).1, fun i u hu => ?_⟩
    have := h.row.cells (g := g) rfl i u hu
    rwa [addr_add] at this
theorem Got.capd {B : Nat} {A : Option Addr} {c : Nat} {R : List (Ent × Hd)} {w : World} (h : Got B (.slice A R.length c) R w) : R.length ≤ c ∧ (A = none → c = 0) := by
  rcases h.row.2 with ⟨he, hx⟩ | ⟨g, cap, cur, hv, _, hh, _, hcs⟩
  · injection he with e1 e2 e3; subst e1 e3; exact ⟨by omega, fun _ => rfl⟩
  · injection hv with e1 e2 e3; subst e1 e3; exact ⟨by omega, fun e => by cases e⟩
theorem eslice_from (A : Option Addr) (n c k : Nat) (hkn : k ≤ n) (_hc : n ≤ c) (w : World) :
    (Instr.slice 22 (.slice A n c) (some (.int .i64 (k : Int))) none none).run Tryz.prog w = .ok (.slice (if c = k then A else A.map (·.add (k * 4))) (n - k) (c - k)) w := by
  have he : Tryz.prog.underlying 22 = some (.slice (Tryz.prog.elem 22)) := by kernel_rfl
  rw [run_slice_l w 22 A n c he .i64 (k : Int) (by omega) (by omega), esize w]
  simp [Result.andThen, sliced]
def Blk (v : Value) (R : List (Ent × Hd)) (b : Nat) : Prop := v.ownBlock = some b ∨ ∃ p ∈ R, (Value.slice p.2.kA p.1.key.length p.2.kc).ownBlock = some b ∨ (Value.slice p.2.vA p.1.val.length p.2.vc).ownBlock = some b
theorem Got.blk {B : Nat} {v : Value} {R : List (Ent × Hd)} {w : World} (h : Got B v R w) {b : Nat} (hb : Blk v R b) : B ≤ b ∧ b < w.heap.size := by
  rcases hb with hb | ⟨p, hp, hb | hb⟩
  · exact ⟨(rowN_lt h.row b hb).1, (rowN_lt h.row b hb).2.1⟩
  · exact row_lt (h.each p hp).k b hb
  · exact row_lt (h.each p hp).v b hb
theorem Got.keepS {B : Nat} {v : Value} {R : List (Ent × Hd)} {w w' : World} {S : Nat → Prop} (h : Got B v R w) (hc : Chg S w w') (hS : ∀ b, Blk v R b → ¬ S b) : Got B v R w' :=
  ⟨rowN_kept h.row fun g hg => hc.block g (rowN_lt h.row g hg).2.1 (hS g (.inl hg)), fun p hp => ⟨row_kept (h.each p hp).k fun g hg => hc.block g (row_lt (h.each p hp).k g hg).2 (hS g (.inr ⟨p, hp, .inl hg⟩)),
    row_kept (h.each p hp).v fun g hg => hc.block g (row_lt (h.each p hp).v g hg).2 (hS g (.inr ⟨p, hp, .inr hg⟩)), (h.each p hp).good⟩⟩
end Go.Proofs.YthhgjeeangepaaaGreat
namespace Go.Proofs.YthhgjeeangepaaaGreat
open Go.ChangeShapes Go.WideShapes Go.ChangeAt Go.RowKit Go.Shelf
attribute [local go_sem] Oper.semAt_some
theorem wpListIn_putent {F : Fence} {nF : Nat} {ops : Array Oper} {rest : List Oper} {o : Oper} {a : Act} {Q : Exit → Act → World → Prop} {u : World} (hgd : o.guard = none) (s x : Operand)
    (ho : o.op = .call { callee := .builtin .append, args := #[s, x], argTypes := #[22, 22] }) (B : Nat) (v : Value) (R : List (Ent × Hd)) (hs : a.eval s = v) (hgot : Got B v R u)
    (p : Ent × Hd) (gb : Nat) (hx : a.eval x = .slice (some ⟨gb, 0, none⟩) 1 1) (hblk : u.heap[gb]? = some (.cells (ecells p).toArray 55 (0, 0))) (hp : Mine B p u) (hlen : R.length ≤ 1000000000000) (hB : B ≤ u.heap.size)
    (h : ∀ A' c' w', Got B (.slice A' (R.length + 1) c') (R ++ [p]) w' → u.grownBy w' v.ownBlock → (∀ g, (Value.slice A' (R.length + 1) c').ownBlock = some g → v.ownBlock = some g ∨ g = u.heap.size) → wpListIn F nF Tryz.prog ops Q rest (a.put o.dst (.slice A' (R.length + 1) c')) w') :
    wpListIn F nF Tryz.prog ops Q (o :: rest) a u := by
  obtain ⟨i0, hi0', ix0, ix1, ix2⟩ := info_parts einfo
  refine wpListIn_plain hgd fun K hK => ?_
  obtain ⟨v', w5, hr, ho2, hgr, _, hat⟩ := run_append_own_at (P := Tryz.prog) u B 22 o.type 55 i0 _ 4 64 Tryz.underlying22 hi0' ix0 ix1 ix2 rfl (by decide) v R.length (erow R) hgot.row ⟨gb, 0, none⟩ 1 1 (ecells p) rfl
    (fun j q hj => by rw [addr_add, Nat.zero_add]; exact cell_of hblk (by simpa using hj)) (fun q hq => erow_one [p] q (by simpa [erow] using hq)) (by unfold maxLen; omega) (by omega) hB
  have hke : ∀ q : Ent × Hd, Mine B q u → Mine B q w5 := fun q hq => by
    have hk : ∀ {l : List Nat} {x : Value}, Own B l x u → Own B l x w5 := fun hx => row_kept hx fun g' hg' => hgr.block g' (row_lt hx g' hg').2 (fun e => rows_apart hx hgot.row (by decide) hg' e.symm)
    exact ⟨hk hq.k, hk hq.v, hq.good⟩
  have hgot' : Got B v' (R ++ [p]) w5 := by
    refine ⟨by rw [List.length_append, erow_append]; simpa [erow] using ho2, fun q hq => ?_⟩
    rcases List.mem_append.1 hq with hq | hq
    · exact hke q (hgot.each q hq)
    · rw [List.mem_singleton] at hq; subst hq; exact hke q hp
  obtain ⟨A', c', rfl⟩ := rowN_slice ho2
  have hfin := h A' c' w5 hgot' hgr (fun g hg => by
    rcases hat with e | e
    · exact .inl (e ▸ hg)
    · rw [e] at hg; injection hg with hg; exact .inr hg.symm)
  unfold Oper.wpIn
  refine ⟨?_, ?_⟩
  · simp [Oper.about, ho, resolve, Target.leads, Sem.run_pure]
  · rw [Oper.semAt_plain F _ _ (by rw [ho]; intro c hc'; cases hc')]
    simp [execOp, ho, resolve, invoke, builtin, hs, hx, hr, Result.andThen]
    exact hK _ _ hfin
def TakenAns (w : World) (b : List Nat) (x : Ending) (w' : World) : Prop :=
  Ext w w' ∧ ((∃ (R : List (Ent × Hd)) (A : Option Addr) (c : Nat), IsB b (R.map Prod.fst) ∧ x = .returned (.slice A R.length c) ∧ Got w.heap.size (.slice A R.length c) R w') ∨ (x = .panicked gaveUp ∧ ∀ L, ¬ IsB b L))
theorem Free.grow {D D' : Nat → Prop} {v : Value} {n : Nat} (h : Free D v) (hb : ∀ b, v.ownBlock = some b → b < n) (hD : ∀ i, D' i → D i ∨ n ≤ i) : Free D' v := fun b hv hd => by
  rcases hD b hd with h1 | h1
  · exact h b hv h1
  · have := hb b hv; omega
structure TkR (base lb : Nat) (bd : List Nat) (D K : Nat → Prop) (k : Nat) (A : World) (X : Option Addr) (c : Nat) (R : List (Ent × Hd)) : Prop where
  box : Boxed A lb 22 (.slice X R.length c)
  got : Got base (.slice X R.length c) R A
  len : R.length = k
  is : ∀ L, BodyIs L bd → k ≤ L.length ∧ L.take k = R.map Prod.fst
  fd : Free D (.slice X R.length c)
  fk : Free K (.slice X R.length c)
  fe : ∀ p ∈ R, Free D (.slice p.2.kA p.1.key.length p.2.kc) ∧ Free D (.slice p.2.vA p.1.val.length p.2.vc)
structure TkI (w : World) (lb s3 : Nat) (bd : List Nat) (D K : Nat → Prop) (k : Nat) (A : World) : Prop where
  below : Below w.heap.size w A
  z : s3 ≤ A.heap.size
  dz : ∀ i, D i → s3 ≤ i
  ex : ∃ X c R, TkR w.heap.size lb bd D K k A X c R ∧ k ≤ 1024
theorem TkI.chg {w A A' : World} {lb s3 : Nat} {bd : List Nat} {D K D' K' : Nat → Prop} {k : Nat} (h : TkI w lb s3 bd D K k A) (hlb : lb < s3) (hs : w.heap.size ≤ s3) (hc : Chg D A A') (hD : ∀ i, D' i → D i ∨ A.heap.size ≤ i) (hK : ∀ i, K' i → K i ∨ A.heap.size ≤ i) : TkI w lb s3 bd D' K' k A' := by
  obtain ⟨h1, h2, h3, X, c, R, t, hk⟩ := h
  refine ⟨h1.trans (hc.below (fun i hi => Nat.le_trans hs (h3 i hi)) h1.size), Nat.le_trans h2 hc.size, fun i hi => by rcases hD i hi with h | h; exact h3 i h; omega, X, c, R, ⟨boxed_chg t.box hc (fun hd => by have := h3 lb hd; omega), ⟨rowN_kept t.got.row fun g hg => hc.block g (rowN_lt t.got.row g hg).2.1 (t.fd g hg), fun p hp => ?_⟩, t.len, t.is, t.fd.grow (fun b hb => (rowN_lt t.got.row b hb).2.1) hD, t.fk.grow (fun b hb => (rowN_lt t.got.row b hb).2.1) hK, fun p hp => ?_⟩, hk⟩
  · have hm := t.got.each p hp
    exact ⟨row_kept hm.k fun g hg => hc.block g (row_lt hm.k g hg).2 ((t.fe p hp).1 g hg), row_kept hm.v fun g hg => hc.block g (row_lt hm.v g hg).2 ((t.fe p hp).2 g hg), hm.good⟩
  · have hm := t.got.each p hp
    exact ⟨(t.fe p hp).1.grow (fun b hb => (row_lt hm.k b hb).2) hD, (t.fe p hp).2.grow (fun b hb => (row_lt hm.v b hb).2) hD⟩
def TkX (w : World) (lb s3 : Nat) (bd : List Nat) (c : Code) (A : World) : Prop := c = .exit 0 ∧ Below w.heap.size w A ∧ ∃ X cc R, Boxed A lb 22 (.slice X R.length cc) ∧ Got w.heap.size (.slice X R.length cc) R A ∧ R.length = 1025 ∧ (∀ L, BodyIs L bd → 1025 ≤ L.length) ∧ ∀ b, Blk (.slice X R.length cc) R b → b ≠ s3 + 1
theorem tk_box {A3 w5 : World} {lb B : Nat} {o : Obj} {X : Option Addr} {c n : Nat} {R : List (Ent × Hd)} (hb : Boxed A3 lb 22 (.slice X n c)) (hg : Got B (.slice X R.length c) R A3) (hgr : (A3.alloc o).grownBy w5 (Value.slice X R.length c).ownBlock) : Boxed w5 lb 22 (.slice X n c) :=
  (hgr.block lb (by have := hb.lt; simp; omega) (Boxed.not_row (ext_heap (ext_alloc A3 o) hb) (by decide) (hg.below (ext_alloc A3 o)).row)).trans (ext_heap (ext_alloc A3 o) hb)
theorem blk_box {W : World} {lb B : Nat} {u v : Value} {R : List (Ent × Hd)} (hb : Boxed W lb 22 u) (hg : Got B v R W) : ∀ b, Blk v R b → b ≠ lb := by
  rintro b (h | ⟨p, hp, h | h⟩) e
  · exact Boxed.not_row hb (by decide) hg.row (by rw [h, e])
  · exact Boxed.not_row hb (by decide) (hg.each p hp).k (by rw [h, e])
  · exact Boxed.not_row hb (by decide) (hg.each p hp).v (by rw [h, e])
theorem got_not {W : World} {B : Nat} {v : Value} {R : List (Ent × Hd)} (hg : Got B v R W) {b : Nat} (hb : Blk v R b) (hD : W.heap[b]? = some (.deferred (some []))) : False := by
  have hcell : ∃ c t f, W.heap[b]? = some (.cells c t f) := by
    rcases hb with h | ⟨p, hp, h | h⟩
    · obtain ⟨_, _, c, hc⟩ := rowN_lt hg.row b h; exact ⟨_, _, _, hc⟩
    · obtain ⟨_, _, c, hc⟩ := rowN_lt (hg.each p hp).k b h; exact ⟨_, _, _, hc⟩
    · obtain ⟨_, _, c, hc⟩ := rowN_lt (hg.each p hp).v b h; exact ⟨_, _, _, hc⟩
  obtain ⟨c, t, f, hc⟩ := hcell
  rw [hD] at hc; cases hc
theorem wr_lt {L : List Ent} (_hm : MayB L) (hb : ∀ e ∈ L, (∀ x ∈ e.key, x < 256) ∧ ∀ x ∈ e.val, x < 256) : ∀ x ∈ wr L, x < 256 := by
  intro x hx
  unfold wr at hx
  rcases List.mem_append.1 hx with hx | hx
  · exact upto_lt hb _ x hx
  · rcases List.mem_append.1 hx with hx | hx
    · obtain ⟨n, _, hn⟩ := List.mem_flatMap.1 hx
      exact be4_lt n x hn
    · exact be4_lt _ x hx
structure TkN (w : World) (lb : Nat) (D K : Nat → Prop) (A3 w6 : World) (X : Option Addr) (c : Nat) (R' : List (Ent × Hd)) : Prop where
  box : Boxed w6 lb 22 (.slice X R'.length c)
  got : Got w.heap.size (.slice X R'.length c) R' w6
  below : Below w.heap.size w w6
  step : StepK K A3 w6
  size : A3.heap.size ≤ w6.heap.size
  fd : Free D (.slice X R'.length c)
  fk : Free K (.slice X R'.length c)
theorem tk_next {w A3 w5 w6 : World} {lb s3 : Nat} {bd : List Nat} {D K : Nat → Prop} {k cR N c5 : Nat} {X X5 : Option Addr} {R : List (Ent × Hd)} {p : Ent × Hd} {o : Obj} (hT : TkR w.heap.size lb bd D K k A3 X cR R) (hbw : Below w.heap.size w A3) (hlb : lb < s3) (hwl : w.heap.size ≤ lb)
    (hD : ∀ i, D i → s3 ≤ i ∧ i < A3.heap.size) (hK : ∀ i, K i → s3 ≤ i ∧ i < A3.heap.size)
    (hN : N = R.length + 1) (hg5 : Got w.heap.size (.slice X5 N c5) (R ++ [p]) w5) (hgr : (A3.alloc o).grownBy w5 (Value.slice X R.length cR).ownBlock)
    (hat : ∀ g, (Value.slice X5 N c5).ownBlock = some g → (Value.slice X R.length cR).ownBlock = some g ∨ g = (A3.alloc o).heap.size) (hw6 : w6 = w5.setCell ⟨lb, 0, none⟩ (.slice X5 N c5)) : TkN w lb D K A3 w6 X5 c5 (R ++ [p]) := by
  have hlen : N = (R ++ [p]).length := by rw [hN]; simp
  subst hlen
  have hb5 := tk_box hT.box hT.got hgr
  have hb6 : Boxed w6 lb 22 (.slice X5 (R ++ [p]).length c5) := by rw [hw6]; exact hb5.set _
  have hc : Chg (fun i => (Value.slice X R.length cR).ownBlock = some i ∨ i = lb) A3 w6 := by
    rw [hw6]
    exact ((Chg.alloc (S := fun i => (Value.slice X R.length cR).ownBlock = some i ∨ i = lb) A3 o).trans (Chg.grown hgr fun g hg => .inl hg)).trans (Chg.setCell _ _ _ (.inr rfl))
  have hrow := fun g hg => rowN_lt hT.got.row g hg
  refine ⟨hb6, ?_, hbw.trans (hc.below (fun i hi => by rcases hi with hi | hi; exact (hrow i hi).1; omega) hbw.size), StepK.of_chg hc (fun i _ hk hs => by rcases hs with hs | hs; exact hT.fk i hs hk; have := hK i hk; omega), hc.size, fun g hg hd => ?_, fun g hg hd => ?_⟩
  · rw [hw6]
    exact hg5.keepS (Chg.setCell (S := fun i => i = lb) w5 ⟨lb, 0, none⟩ _ rfl) (fun b hb => blk_box hb5 hg5 b hb)
  · rcases hat g hg with h | h
    · exact hT.fd g h hd
    · have := (hD g hd).2; rw [h] at this; simp at this; omega
  · rcases hat g hg with h | h
    · exact hT.fk g h hd
    · have := (hK g hd).2; rw [h] at this; simp at this; omega
set_option maxRecDepth 100000 in
set_option maxHeartbeats 16000000 in
theorem taken_any {w : World} {lo hi : Nat} {v : Value} {b : List Nat} (hv : Bs w lo hi v b) (hhi : hi ≤ w.heap.size) (hb : ∀ x ∈ b, x < 256) (hl : b.length ≤ 1000000000) :
    Calls Tryz.prog 130 #[v] w (TakenAns w b) := by
  obtain ⟨w1, hw1⟩ : ∃ w1, w1 = w.alloc (.cells #[.slice none 0 0] 22) := ⟨_, rfl⟩
  have HX1 : Hid (Ext w w1) := by rw [hw1]; exact ext_alloc _ _
  have HZ1 : Hid (w1.heap.size = w.heap.size + 1) := by rw [hw1]; simp [Hid]
  have HB1 : Hid (Boxed w1 w.heap.size 22 (.slice none 0 0)) := by rw [hw1]; exact heap_at _ _ rfl
  have HBO := Lib.hid (body_any (hv.below HX1.out hhi) (Nat.le_trans hhi HX1.out.size) hb hl)
  have HV := Lib.hid hv
  have HHI := Lib.hid hhi
  have HBY := Lib.hid hb
  have HL := Lib.hid hl
  obtain ⟨A, c, rfl, _, _, _, _⟩ := hv
  clear hhi hb hl
  refine (callsIn_wide (n := 6)).1 ?_
  refine callsIn_of_wp_marks Tryz.func130 rfl trivial ?_
  simp only [Tryz.ntmps130, List.size_toArray, List.length_cons, List.length_nil, Nat.reduceAdd, Nat.reduceSub, Array.replicate_succ, Array.replicate_zero, List.push_toArray, List.append_toArray, List.nil_append, List.cons_append]
  refine wpIn_wide.2 ?_
  go_wp2_with fail
  rw [← hw1]
  clear hw1
  refine HBO.out.mono ?_
  rintro x w2 ⟨hx2, (⟨BA, bc, bd, rfl, hbs, hbb, hbl, h4, hbi⟩ | ⟨rfl, hno⟩)⟩
  rotate_left
  · exact ⟨Ext.trans HX1.out hx2, .inr ⟨rfl, hno⟩⟩
  have HX2 : Hid (Ext w w2) := Ext.trans HX1.out hx2
  have HX12 := Lib.hid hx2
  have HBS := Lib.hid hbs
  have HBB := Lib.hid hbb
  have HBL := Lib.hid (And.intro hbl h4)
  have HBI := Lib.hid hbi
  clear hx2 hbs hbb hbl h4 hbi HBO
  go_wp2_with fail
  refine (entries_any _ _ _ _).mono ?_
  rintro x w3 ⟨rfl, hw3⟩
  have HX3 : Hid (Ext w2 w3) := by rw [hw3]; exact ext_alloc _ _
  have HZ3 : Hid (w3.heap.size = w2.heap.size + 1) := by rw [hw3]; simp [Hid]
  have HC3 : Hid (w3.cell? ⟨w2.heap.size, 0, none⟩ = some (.slice BA bd.length bc)) := by rw [hw3]; exact cell_of (heap_at _ _ rfl) rfl
  have HXW : Hid (Ext w w3) := Ext.trans HX2.out HX3.out
  clear hw3
  go_wp2_with fail
  rename_i ak
  refine (wpIn_wide (n := 6)).1 ?_
  have HIT := Lib.hid (entries_iter (HBS.out.below HX3.out (Nat.le_refl _)) HX3.out.size HBB.out (Nat.le_trans HBL.out.1 HL.out) HC3.out)
  have HLB : Hid (w.heap.size < w3.heap.size) := by have := HZ1.out; have := HX12.out.size; have := HX3.out.size; unfold Hid; omega
  refine wpIn_overP rfl enters_entries1 HIT.out (fun _ => rfl) (TkI w w.heap.size w3.heap.size bd) (TkX w w.heap.size w3.heap.size bd) (fun _ _ _ _ _ => trivial) ?hI ?hIx ?h0 ?round ?hok ?done ?pan ?stop
  case hI => exact fun D K k A1 A2 => fun D' K' h hc hD hK => h.chg HLB.out (Nat.le_of_lt HLB.out) hc hD hK
  case hIx =>
    rintro cd A1 A2 ⟨rfl, hb, X, cc, R, h1, h2, h3, h4, h5⟩ hc
    exact ⟨rfl, hb.trans (hc.below (fun i e => by have := HLB.out; omega) hb.size), X, cc, R, boxed_chg h1 hc (fun e => by have := HLB.out; omega), h2.keepS hc (fun b hb2 e => h5 b hb2 e), h3, h4, h5⟩
  case h0 =>
    intro A1 D K hx hD hK
    refine ⟨Ext.trans HXW.out hx, hx.size, hD, none, 0, [], ⟨ext_heap (Ext.trans (Ext.trans HX12.out HX3.out) hx) HB1.out, Got.nil _ _, rfl, fun L _ => ⟨Nat.zero_le _, rfl⟩, fun b hb => (by cases hb), fun b hb => (by cases hb), fun p hp => (by cases hp)⟩, Nat.zero_le _⟩
  case round =>
    rintro l D K k ⟨e, g⟩ A1 rfl hDl hKl hD hK hi ⟨hek, hm, hf1, hf2⟩
    have HI1 := Lib.hid hi
    have HEK := Lib.hid hek
    have HM1 := Lib.hid hm
    have HFR := Lib.hid (And.intro hf1 hf2)
    have HDK := Lib.hid (And.intro hD hK)
    have HLK := Lib.hid (And.intro hDl hKl)
    clear hDl hKl hD hK hi hek hm hf1 hf2
    dsimp only at HEK HFR
    dsimp only [entV, Ent.at_]
    gi_wp2
    obtain ⟨A2, hA2⟩ : ∃ A2, A2 = A1.alloc (.cells #[.slice g.kA e.key.length g.kc, .int .i64 e.seq, .int .i64 e.kind, .slice g.vA e.val.length g.vc] 55) := ⟨_, rfl⟩
    rw [← hA2]
    have HX2 : Hid (Ext A1 A2) := by rw [hA2]; exact ext_alloc _ _
    have HBE : Hid (A2.heap[A1.heap.size]? = some (.cells #[.slice g.kA e.key.length g.kc, .int .i64 e.seq, .int .i64 e.kind, .slice g.vA e.val.length g.vc] 55 (0, 0))) := by rw [hA2]; exact heap_at _ _ rfl
    clear hA2
    refine ⟨StepK.of_chg (S := fun _ => False) (Chg.of_ext HX2.out) (fun _ _ _ h => h), fun A3 hc => ?_⟩
    have HC23 := Lib.hid hc
    have HCH : Hid (Chg D A1 A3) := ((Chg.of_ext (S := D) HX2.out).trans (hc.mono fun i _ e => by rw [e]; exact HLK.out.1))
    have HI3 := Lib.hid (HI1.out.chg HLB.out (Nat.le_of_lt HLB.out) HCH.out (fun i h => .inl h) (fun i h => .inl h))
    obtain ⟨X, cR, R, hT, hk1024⟩ := HI3.out.ex
    have HT := Lib.hid hT
    have HM3 : Hid (Mine w.heap.size (e, g) A3) := by
      have hk := HM1.out.base (B' := w.heap.size) HXW.out.size
      exact ⟨row_kept hk.k fun b hb => HCH.out.block b (row_lt hk.k b hb).2 (HFR.out.1 b hb), row_kept hk.v fun b hb => HCH.out.block b (row_lt hk.v b hb).2 (HFR.out.2 b hb), hk.good⟩
    have HB3 : Hid (A3.heap[A1.heap.size]? = some (.cells #[.slice g.kA e.key.length g.kc, .int .i64 e.seq, .int .i64 e.kind, .slice g.vA e.val.length g.vc] 55 (0, 0))) :=
      (hc.block _ (Array.getElem?_eq_some_iff.1 HBE.out).1 (fun e => by have := HDK.out.2 _ HLK.out.2; omega)).trans HBE.out
    have HRL : Hid (R.length = k ∧ k ≤ 1024) := ⟨HT.out.len, hk1024⟩
    have q0 := hT.box.cell
    have e0 := cell_of HB3.out (k := 0) rfl
    have e1 := cell_of HB3.out (k := 1) rfl
    have e2 := cell_of HB3.out (k := 2) rfl
    have e3 := cell_of HB3.out (k := 3) rfl
    have HZA : Hid (w.heap.size ≤ A3.heap.size ∧ w3.heap.size ≤ A3.heap.size ∧ A1.heap.size < A3.heap.size) := ⟨by have := HI3.out.z; have := HLB.out; omega, HI3.out.z, (Array.getElem?_eq_some_iff.1 HB3.out).1⟩
    clear hc hT hk1024
    obtain ⟨N, hN⟩ : ∃ N, N = R.length + 1 := ⟨_, rfl⟩
    have HN := Lib.hid hN
    by_cases hbig : 1024 < N
    · have d : decide ((1024 : Int) < (N : Int)) = true := by rw [decide_eq_true_eq]; exact Int.ofNat_lt.2 hbig
      have dn : decide (1024 < N) = true := by rw [decide_eq_true_eq]; exact hbig
      have HBIG := Lib.hid hbig
      clear hbig hN
      gi_wp2_with (gi_at_builtin; refine wpListIn_putent rfl (.tmp 11) (.tmp 13) rfl w.heap.size _ R rfl (HT.out.got.below (ext_alloc _ _)) (e, g) A3.heap.size rfl (heap_at _ _ rfl) (HM3.out.below (ext_alloc _ _)) (by have := HRL.out; omega) (Nat.le_trans HZA.out.1 (by simp)) ?_; rw [← HN.out]; intro X5 c5 w5 hgot5 hgr5 hat5; have HG5 := Lib.hid hgot5; have HGR5 := Lib.hid hgr5; have HAT5 := Lib.hid hat5; have q1 := tk_box HT.out.box HT.out.got hgr5; have HQ1 := Lib.hid q1; have q2 := q1.cell; have q3 := q1.frozen; clear hgot5 hgr5 hat5 q1)
      obtain ⟨w6, hw6⟩ : ∃ w6, w6 = w5.setCell ⟨w.heap.size, 0, none⟩ (.slice X5 N c5) := ⟨_, rfl⟩
      rw [← hw6]
      have hnx := tk_next HT.out HI3.out.below HLB.out (Nat.le_refl _) (fun i h => ⟨(HDK.out.1 i h).1, by have := (HDK.out.1 i h).2; have := HZA.out; omega⟩) (fun i h => ⟨(HDK.out.2 i h).1, by have := (HDK.out.2 i h).2; have := HZA.out; omega⟩) HN.out HG5.out HGR5.out HAT5.out hw6
      clear hw6 q2 q3
      have hl := HLK.out
      refine ⟨hnx.step, rfl, hnx.below, X5, c5, R ++ [(e, g)], hnx.box, hnx.got, ?_, fun L hL => ?_, ?_⟩
      · have := HRL.out; have := HBIG.out; have := HN.out; simp; omega
      · have h1 := (List.getElem?_eq_some_iff.1 (HEK.out L hL)).1
        have := HRL.out; have := HBIG.out; have := HN.out; omega
      · rintro b (h | ⟨p, hp, h⟩) e1
        · subst e1; exact hnx.fk _ h hl.2
        · subst e1
          rcases List.mem_append.1 hp with hp | hp
          · rcases h with h | h
            · exact (HT.out.fe p hp).1 _ h hl.1
            · exact (HT.out.fe p hp).2 _ h hl.1
          · rw [List.mem_singleton] at hp; subst hp
            rcases h with h | h
            · exact HFR.out.1 _ h hl.1
            · exact HFR.out.2 _ h hl.1
    · have d : decide ((1024 : Int) < (N : Int)) = false := by rw [decide_eq_false_iff_not]; exact fun h => hbig (Int.ofNat_lt.1 h)
      have dn : decide (1024 < N) = false := by rw [decide_eq_false_iff_not]; exact hbig
      have HBIG := Lib.hid hbig
      clear hbig hN
      gi_wp2_with (gi_at_builtin; refine wpListIn_putent rfl (.tmp 11) (.tmp 13) rfl w.heap.size _ R rfl (HT.out.got.below (ext_alloc _ _)) (e, g) A3.heap.size rfl (heap_at _ _ rfl) (HM3.out.below (ext_alloc _ _)) (by have := HRL.out; omega) (Nat.le_trans HZA.out.1 (by simp)) ?_; rw [← HN.out]; intro X5 c5 w5 hgot5 hgr5 hat5; have HG5 := Lib.hid hgot5; have HGR5 := Lib.hid hgr5; have HAT5 := Lib.hid hat5; have q1 := tk_box HT.out.box HT.out.got hgr5; have HQ1 := Lib.hid q1; have q2 := q1.cell; have q3 := q1.frozen; clear hgot5 hgr5 hat5 q1)
      obtain ⟨w6, hw6⟩ : ∃ w6, w6 = w5.setCell ⟨w.heap.size, 0, none⟩ (.slice X5 N c5) := ⟨_, rfl⟩
      rw [← hw6]
      have hnx := tk_next HT.out HI3.out.below HLB.out (Nat.le_refl _) (fun i h => ⟨(HDK.out.1 i h).1, by have := (HDK.out.1 i h).2; have := HZA.out; omega⟩) (fun i h => ⟨(HDK.out.2 i h).1, by have := (HDK.out.2 i h).2; have := HZA.out; omega⟩) HN.out HG5.out HGR5.out HAT5.out hw6
      clear hw6 q2 q3
      refine ⟨hnx.step, hnx.below, by have := hnx.size; have := HZA.out; omega, fun i h => (HDK.out.1 i h).1, X5, c5, R ++ [(e, g)], ⟨hnx.box, hnx.got, ?_, fun L hL => ?_, hnx.fd, hnx.fk, fun p hp => ?_⟩, ?_⟩
      · rw [List.length_append, HRL.out.1]; rfl
      · have h1 := HEK.out L hL
        obtain ⟨h2, h3⟩ := HT.out.is L hL
        have h4 := (List.getElem?_eq_some_iff.1 h1).1
        refine ⟨h4, ?_⟩
        rw [List.take_add_one, h3, h1, List.map_append]; rfl
      · rcases List.mem_append.1 hp with hp | hp
        · exact HT.out.fe p hp
        · rw [List.mem_singleton] at hp; subst hp; exact HFR.out
      · have := HRL.out; have := HBIG.out; have := HN.out; omega
  case hok =>
    rintro D K D' K' k x A1 ⟨h1, h2, h3, h4⟩ ⟨od, hd⟩ ⟨ol, hl⟩ hD' _ _ _
    have hfr : ∀ {l : List Nat} {u : Value}, Own w3.heap.size l u A1 → Free D u → Free D' u := fun ho hf b hb hd' => by
      obtain ⟨_, _, cc, hcc⟩ := rowN_lt ho b hb
      rcases hD' b hd' with h | h | h
      · exact hf b hb h
      · rw [h, hd] at hcc; cases hcc
      · rw [h, hl] at hcc; cases hcc
    exact ⟨h1, h2, hfr h2.k h3, hfr h2.v h4⟩
  case done =>
    rintro D k W D0 K0 hDl hi hdn hD
    obtain ⟨X, cR, R, t, hk⟩ := hi.ex
    have HBOX := Lib.hid t.box
    have HGOT := Lib.hid t.got
    have HLEN : Hid (R.length ≤ 1025) := by have := t.len; unfold Hid; omega
    have HBW := Lib.hid hi.below
    have HDD := Lib.hid hD
    have HDL := Lib.hid hDl
    have HEQ : Hid (∀ L, IsB b L → L = R.map Prod.fst) := fun L hL => by
      have hB := HBI.out L hL
      have h1 := (t.is L hB).2
      have h2 := hdn L hB
      rw [← h2, List.take_length] at h1
      exact h1
    clear hDl hi hdn hD t hk
    refine ak _ _ ?_
    have q0 := HBOX.out.cell
    have HW := Lib.hid (write_any (c := cR) HGOT.out.rs (Nat.le_refl _) HGOT.out.capd.1 (by have := HLEN.out; omega))
    go_wp2_with fail
    refine HW.out.mono ?_
    rintro x w4 ⟨hx4, (⟨hmb, B, cb, rfl, hown⟩ | ⟨hmb, rfl⟩)⟩
    · have HX4 := Lib.hid hx4
      have HMB := Lib.hid hmb
      have HOW := Lib.hid hown
      have HB4 : Hid (Below w.heap.size w w4) := HBW.out.trans (hx4.mono HBW.out.size)
      have HEQL := Lib.hid (bequal_any hown.bs (HV.out.below (HBW.out.trans (hx4.mono HBW.out.size)) HHI.out) (wr_lt hmb (fun e he => by obtain ⟨p, hp, rfl⟩ := List.mem_map.1 he; exact ⟨(HGOT.out.each p hp).good.bk, (HGOT.out.each p hp).good.bv⟩)) HBY.out)
      have q1 := ext_cell hx4 q0
      have HDD4 : Hid (w4.heap[D]? = some (.deferred (some []))) := ext_heap hx4 HDD.out
      have HG4 := Lib.hid (HGOT.out.below hx4)
      clear hx4 hmb hown q0
      go_wp2_with fail
      refine HEQL.out.mono ?_
      rintro x w5 ⟨⟨z, hz, rfl⟩, rfl⟩
      have HZ := Lib.hid hz
      clear hz
      have HF : Hid (Below w.heap.size w (w5.putObj D (.deferred none))) := HB4.out.trans ((putObj_chg w5 D _).below (fun i e => by have := HDL.out; have := HLB.out; omega) HB4.out.size)
      have HGF : Hid (Got w.heap.size (.slice X R.length cR) R (w5.putObj D (.deferred none))) := HG4.out.keepS (putObj_chg w5 D _) (fun bb hbb e => got_not HG4.out hbb (by rw [e]; exact HDD4.out))
      cases z with
      | true =>
        have HIS : Hid (IsB b (R.map Prod.fst)) := ⟨HMB.out, HZ.out.1 rfl⟩
        go_wp2_with fail
        refine ⟨by simp, .inl ⟨_, _, rfl, run_takeDeferred HDD4.out, ?_⟩⟩
        exact ⟨_, results_tmp rfl _ _ _, HF.out, .inl ⟨R, X, cR, HIS.out, rfl, HGF.out⟩⟩
      | false =>
        have HNO : Hid (∀ L, ¬ IsB b L) := fun L hL => by
          have h1 := HEQ.out L hL
          have h2 := HZ.out.2 (by rw [← h1]; exact hL.2)
          cases h2
        go_wp2_with fail
        refine (giveUp_any _).mono ?_
        rintro x w6 ⟨rfl, rfl⟩
        refine ⟨by simp, .inl ⟨_, _, rfl, run_takeDeferred HDD4.out, ?_⟩⟩
        exact ⟨HF.out, .inr ⟨rfl, HNO.out⟩⟩
    · have HX4 := Lib.hid hx4
      have HB4 : Hid (Below w.heap.size w w4) := HBW.out.trans (hx4.mono HBW.out.size)
      have HEQL := Lib.hid (bequal_any (Bs.nil w4 0 0) (HV.out.below (HBW.out.trans (hx4.mono HBW.out.size)) HHI.out) (by simp) HBY.out)
      have HDD4 : Hid (w4.heap[D]? = some (.deferred (some []))) := ext_heap hx4 HDD.out
      have HNO : Hid (∀ L, ¬ IsB b L) := fun L hL => hmb (by rw [← HEQ.out L hL]; exact hL.1)
      clear hx4 hmb q0
      go_wp2_with fail
      refine HEQL.out.mono ?_
      rintro x w5 ⟨⟨z, hz, rfl⟩, rfl⟩
      have hz0 : z = false := by
        cases z with
        | false => rfl
        | true => have h1 := hz.1 rfl; have h2 := HBL.out.2; rw [← h1] at h2; simp at h2
      subst hz0
      clear hz
      have HF : Hid (Below w.heap.size w (w5.putObj D (.deferred none))) := HB4.out.trans ((putObj_chg w5 D _).below (fun i e => by have := HDL.out; have := HLB.out; omega) HB4.out.size)
      go_wp2_with fail
      refine (giveUp_any _).mono ?_
      rintro x w6 ⟨rfl, rfl⟩
      refine ⟨by simp, .inl ⟨_, _, rfl, run_takeDeferred HDD4.out, ?_⟩⟩
      exact ⟨HF.out, .inr ⟨rfl, HNO.out⟩⟩
  case pan =>
    rintro D k W D0 K0 ch hDl hi ⟨rfl, hno⟩ hD
    have hbw := hi.below
    refine ⟨by simp, .inl ⟨_, _, rfl, run_takeDeferred hD, ?_⟩⟩
    exact ⟨hbw.trans ((putObj_chg W D _).below (fun i e => by have := HLB.out; omega) hbw.size), .inr ⟨rfl, fun L hL => hno L (HBI.out L hL)⟩⟩
  case stop =>
    rintro D cd W hDl ⟨rfl, hb, X, cR, R, h1, h2, h3, h4, h5⟩ hD
    have HBOX := Lib.hid h1
    have HGOT := Lib.hid h2
    have HLEN : Hid (R.length ≤ 1025) := Nat.le_of_eq h3
    have HBW := Lib.hid hb
    have HDD := Lib.hid hD
    have HDL := Lib.hid hDl
    have HEQ : Hid (∀ L, IsB b L → L = R.map Prod.fst) := fun L hL => by
      have h6 := h4 L (HBI.out L hL)
      have h7 := hL.1.2.1
      omega
    clear hDl hb h1 h2 h3 h4 h5 hD
    refine wpIn_wide.2 ?_
    have q0 := HBOX.out.cell
    have HW := Lib.hid (write_any (c := cR) HGOT.out.rs (Nat.le_refl _) HGOT.out.capd.1 (by have := HLEN.out; omega))
    go_wp2_with fail
    refine HW.out.mono ?_
    rintro x w4 ⟨hx4, (⟨hmb, B, cb, rfl, hown⟩ | ⟨hmb, rfl⟩)⟩
    · have HX4 := Lib.hid hx4
      have HMB := Lib.hid hmb
      have HOW := Lib.hid hown
      have HB4 : Hid (Below w.heap.size w w4) := HBW.out.trans (hx4.mono HBW.out.size)
      have HEQL := Lib.hid (bequal_any hown.bs (HV.out.below (HBW.out.trans (hx4.mono HBW.out.size)) HHI.out) (wr_lt hmb (fun e he => by obtain ⟨p, hp, rfl⟩ := List.mem_map.1 he; exact ⟨(HGOT.out.each p hp).good.bk, (HGOT.out.each p hp).good.bv⟩)) HBY.out)
      have q1 := ext_cell hx4 q0
      have HDD4 : Hid (w4.heap[D]? = some (.deferred (some []))) := ext_heap hx4 HDD.out
      have HG4 := Lib.hid (HGOT.out.below hx4)
      clear hx4 hmb hown q0
      go_wp2_with fail
      refine HEQL.out.mono ?_
      rintro x w5 ⟨⟨z, hz, rfl⟩, rfl⟩
      have HZ := Lib.hid hz
      clear hz
      have HF : Hid (Below w.heap.size w (w5.putObj D (.deferred none))) := HB4.out.trans ((putObj_chg w5 D _).below (fun i e => by have := HDL.out; have := HLB.out; omega) HB4.out.size)
      have HGF : Hid (Got w.heap.size (.slice X R.length cR) R (w5.putObj D (.deferred none))) := HG4.out.keepS (putObj_chg w5 D _) (fun bb hbb e => got_not HG4.out hbb (by rw [e]; exact HDD4.out))
      cases z with
      | true =>
        have HIS : Hid (IsB b (R.map Prod.fst)) := ⟨HMB.out, HZ.out.1 rfl⟩
        go_wp2_with fail
        refine ⟨by simp, .inl ⟨_, _, rfl, run_takeDeferred HDD4.out, ?_⟩⟩
        exact ⟨_, results_tmp rfl _ _ _, HF.out, .inl ⟨R, X, cR, HIS.out, rfl, HGF.out⟩⟩
      | false =>
        have HNO : Hid (∀ L, ¬ IsB b L) := fun L hL => by
          have h1 := HEQ.out L hL
          have h2 := HZ.out.2 (by rw [← h1]; exact hL.2)
          cases h2
        go_wp2_with fail
        refine (giveUp_any _).mono ?_
        rintro x w6 ⟨rfl, rfl⟩
        refine ⟨by simp, .inl ⟨_, _, rfl, run_takeDeferred HDD4.out, ?_⟩⟩
        exact ⟨HF.out, .inr ⟨rfl, HNO.out⟩⟩
    · have HX4 := Lib.hid hx4
      have HB4 : Hid (Below w.heap.size w w4) := HBW.out.trans (hx4.mono HBW.out.size)
      have HEQL := Lib.hid (bequal_any (Bs.nil w4 0 0) (HV.out.below (HBW.out.trans (hx4.mono HBW.out.size)) HHI.out) (by simp) HBY.out)
      have HDD4 : Hid (w4.heap[D]? = some (.deferred (some []))) := ext_heap hx4 HDD.out
      have HNO : Hid (∀ L, ¬ IsB b L) := fun L hL => hmb (by rw [← HEQ.out L hL]; exact hL.1)
      clear hx4 hmb q0
      go_wp2_with fail
      refine HEQL.out.mono ?_
      rintro x w5 ⟨⟨z, hz, rfl⟩, rfl⟩
      have hz0 : z = false := by
        cases z with
        | false => rfl
        | true => have h1 := hz.1 rfl; have h2 := HBL.out.2; rw [← h1] at h2; simp at h2
      subst hz0
      clear hz
      have HF : Hid (Below w.heap.size w (w5.putObj D (.deferred none))) := HB4.out.trans ((putObj_chg w5 D _).below (fun i e => by have := HDL.out; have := HLB.out; omega) HB4.out.size)
      go_wp2_with fail
      refine (giveUp_any _).mono ?_
      rintro x w6 ⟨rfl, rfl⟩
      refine ⟨by simp, .inl ⟨_, _, rfl, run_takeDeferred HDD4.out, ?_⟩⟩
      exact ⟨HF.out, .inr ⟨rfl, HNO.out⟩⟩
end Go.Proofs.YthhgjeeangepaaaGreat
namespace Go.Proofs.YthhgjeeangepaaaGreat
open Go.ChangeShapes Go.WideShapes Go.ChangeAt Go.RowKit
theorem catch_panicking (p q : Nat) (v0 v1 : Value) (u : TypeId) (pv : Value) (older : List PanicEntry) (w : World) (hp : Boxed w p 22 v0) (hq : Boxed w q 27 v1) (hne : p ≠ q) :
    CallsD Tryz.prog 129 #[.pointer (some ⟨p, 0, none⟩), .pointer (some ⟨q, 0, none⟩)] (.panicking ({ v := .iface u pv, recovered := false } :: older)) w fun e u' w' =>
      e = .returned (.tuple #[]) ∧ u' = .panicking ({ v := .iface u pv, recovered := true } :: older) ∧ w' = (w.setCell ⟨p, 0, none⟩ (.slice none 0 0)).setCell ⟨q, 0, none⟩ (.int .i64 4) := by
  have hc := hp.cell
  have hz := hp.frozen
  have hq2 : Boxed (w.setCell ⟨p, 0, none⟩ (.slice none 0 0)) q 27 v1 := (Below.heap_setCell _ _ _ _ (by exact fun e => hne e.symm)).trans hq
  have hc2 := hq2.cell
  have hz2 := hq2.frozen
  refine callsD_of_wpS Tryz.func129 rfl fun c₀ cs hu => ?_
  apply wpS_seq
  apply wpS_region
  simp [wpOpsS, go_sem, recoverD, hu, Tryz.ntmps129, Exit.thenS]
  refine wpS_cond (t := true) (by simp [Act.eval, Array.replicate]) ?_
  simp only [if_true]
  apply wpS_region
  simp [wpOpsS, go_sem, hc, hz, hc2, hz2, bodyPostS, results, Tryz.results129]
theorem catch_idle (p q : Nat) (w : World) :
    CallsD Tryz.prog 129 #[.pointer (some ⟨p, 0, none⟩), .pointer (some ⟨q, 0, none⟩)] .returning w fun e u' w' => e = .returned (.tuple #[]) ∧ u' = .returning ∧ w' = w := by
  refine callsD_of_wpS Tryz.func129 rfl fun c₀ cs hu => ?_
  apply wpS_seq
  apply wpS_region
  simp [wpOpsS, go_sem, recoverD, hu, Tryz.ntmps129, Exit.thenS]
  refine wpS_cond (t := false) (by simp [Act.eval, Array.replicate]) ?_
  simp only [Bool.false_eq_true, if_false]
  refine wpS_of_wp (wp_skip ?_)
  cases c₀
  simp_all [bodyPostS, results, Tryz.results129]
def ReadBAns (w : World) (b : List Nat) (x : Ending) (w' : World) : Prop :=
  Ext w w' ∧ ((∃ (R : List (Ent × Hd)) (A : Option Addr) (c : Nat), IsB b (R.map Prod.fst) ∧ x = .returned (.tuple #[.slice A R.length c, .int .i64 0]) ∧ Got w.heap.size (.slice A R.length c) R w') ∨ ((∀ L, ¬ IsB b L) ∧ x = .returned (.tuple #[.slice none 0 0, .int .i64 4])))
theorem results_read (tmps : Array Value) (w : World) (g k : Nat) (v v' : Value) (hp : tmps.getD 2 undef = .pointer (some ⟨g, 0, none⟩)) (hq : tmps.getD 3 undef = .pointer (some ⟨k, 0, none⟩)) (hc : w.cell? ⟨g, 0, none⟩ = some v) (hc' : w.cell? ⟨k, 0, none⟩ = some v') :
    (results Tryz.f103 tmps).run Tryz.prog w = .ok (.tuple #[v, v']) w := by
  simp only [results, Tryz.results103]
  have hp' : tmps[2]?.getD undef = .pointer (some ⟨g, 0, none⟩) := by simpa using hp
  have hq' : tmps[3]?.getD undef = .pointer (some ⟨k, 0, none⟩) := by simpa using hq
  simp [Sem.run_bind, hp', hq', go_sem, hc, hc']
set_option maxRecDepth 100000 in
set_option maxHeartbeats 4000000 in
theorem bread_any {w : World} {lo hi : Nat} {v : Value} {b : List Nat} (hv : Bs w lo hi v b) (hhi : hi ≤ w.heap.size) (hb : ∀ x ∈ b, x < 256) (hl : b.length ≤ 1000000000) :
    Calls Tryz.prog 103 #[v] w (ReadBAns w b) := by
  obtain ⟨w1, hw1⟩ : ∃ w1, w1 = (w.alloc (.cells #[.slice none 0 0] 22)).alloc (.cells #[.int .i64 0] 27) := ⟨_, rfl⟩
  have HX1 : Hid (Ext w w1) := by rw [hw1]; exact Ext.trans (ext_alloc _ _) (ext_alloc _ _)
  have HA1 : Hid (Boxed w1 w.heap.size 22 (.slice none 0 0)) := by rw [hw1]; exact ext_heap (ext_alloc _ _) (heap_at _ _ rfl)
  have HB1 : Hid (Boxed w1 (w.heap.size + 1) 27 (.int .i64 0)) := by rw [hw1]; exact heap_at _ _ (by simp)
  have HT := Lib.hid (taken_any (hv.below HX1.out hhi) (Nat.le_trans hhi HX1.out.size) hb hl)
  have HZ1 : Hid (w1.heap.size = w.heap.size + 2) := by rw [hw1]; simp [Hid]
  obtain ⟨A, c, rfl, _, _, _, _⟩ := hv
  have hmf := mkf
  clear hhi hb hl
  go_enter_defers Tryz.func103, Tryz.ntmps103
  go_wp2_with fail
  rw [← hw1]
  clear hw1
  refine HT.out.mono ?_
  rintro x w2 ⟨hx2, (⟨R, X, cR, his, rfl, hgot⟩ | ⟨rfl, hno⟩)⟩
  · have HX2 := Lib.hid hx2
    have HIS := Lib.hid his
    have HG := Lib.hid hgot
    have ha : Boxed w2 w.heap.size 22 (.slice none 0 0) := ext_heap hx2 HA1.out
    have hb : Boxed w2 (w.heap.size + 1) 27 (.int .i64 0) := ext_heap hx2 HB1.out
    have HA2 := Lib.hid ha
    have HB2 := Lib.hid hb
    have q0 := ha.cell
    have q1 := ha.frozen
    have hb2 : Boxed (w2.setCell ⟨w.heap.size, 0, none⟩ (.slice X R.length cR)) (w.heap.size + 1) 27 (.int .i64 0) := (Below.heap_setCell _ _ _ _ (by show w.heap.size + 1 ≠ w.heap.size; omega)).trans hb
    have q2 := hb2.cell
    have q3 := hb2.frozen
    have HB3 := Lib.hid hb2
    clear hx2 his hgot ha hb hb2
    go_wp2_with fail
    obtain ⟨w3, hw3⟩ : ∃ w3, w3 = (w2.setCell ⟨w.heap.size, 0, none⟩ (.slice X R.length cR)).setCell ⟨w.heap.size + 1, 0, none⟩ (.int .i64 0) := ⟨_, rfl⟩
    rw [← hw3]
    have ha3 : Boxed w3 w.heap.size 22 (.slice X R.length cR) := by rw [hw3]; exact (Below.heap_setCell _ _ _ _ (by show w.heap.size ≠ w.heap.size + 1; omega)).trans (HA2.out.set _)
    have hb3 : Boxed w3 (w.heap.size + 1) 27 (.int .i64 0) := by rw [hw3]; exact HB3.out.set _
    have hc3 : Chg (fun i => i = w.heap.size ∨ i = w.heap.size + 1) w2 w3 := by rw [hw3]; exact (Chg.setCell _ _ _ (.inl rfl)).trans (Chg.setCell _ _ _ (.inr rfl))
    have hx : Ext w w3 := Below.trans (Ext.trans HX1.out HX2.out) (hc3.below (fun i h => by omega) (Ext.trans HX1.out HX2.out).size)
    clear hw3
    refine leaves_cons (f := 129) (args := #[.pointer (some ⟨w.heap.size, 0, none⟩), .pointer (some ⟨w.heap.size + 1, 0, none⟩)]) (by simp) (by simp [go_sem]) ?_
    refine (catch_idle _ _ _).mono ?_
    rintro e u' w4 ⟨rfl, rfl, rfl⟩
    refine ⟨_, results_read _ _ _ _ _ _ rfl rfl ha3.cell hb3.cell, hx, .inl ⟨R, X, cR, HIS.out, rfl, ?_⟩⟩
    exact (HG.out.keepS hc3 (fun bb hbb e => by have := (HG.out.blk hbb).1; have := HZ1.out; omega)).base HX1.out.size
  · have HX2 := Lib.hid hx2
    have HNO := Lib.hid hno
    have ha : Boxed w2 w.heap.size 22 (.slice none 0 0) := ext_heap hx2 HA1.out
    have hb : Boxed w2 (w.heap.size + 1) 27 (.int .i64 0) := ext_heap hx2 HB1.out
    refine leaves_cons (f := 129) (args := #[.pointer (some ⟨w.heap.size, 0, none⟩), .pointer (some ⟨w.heap.size + 1, 0, none⟩)]) (by simp) (by simp [go_sem]) ?_
    refine (catch_panicking _ _ _ _ _ _ [] _ ha hb (by omega)).mono ?_
    rintro e u' w4 ⟨rfl, rfl, hw4⟩
    have ha3 : Boxed w4 w.heap.size 22 (.slice none 0 0) := by rw [hw4]; exact (Below.heap_setCell _ _ _ _ (by show w.heap.size ≠ w.heap.size + 1; omega)).trans (ha.set _)
    have hb3 : Boxed w4 (w.heap.size + 1) 27 (.int .i64 4) := by
      rw [hw4]
      have h1 : Boxed (w2.setCell ⟨w.heap.size, 0, none⟩ (.slice none 0 0)) (w.heap.size + 1) 27 (.int .i64 0) := (Below.heap_setCell _ _ _ _ (by show w.heap.size + 1 ≠ w.heap.size; omega)).trans hb
      exact h1.set _
    have hc3 : Chg (fun i => i = w.heap.size ∨ i = w.heap.size + 1) w2 w4 := by rw [hw4]; exact (Chg.setCell _ _ _ (.inl rfl)).trans (Chg.setCell _ _ _ (.inr rfl))
    have hx : Ext w w4 := Below.trans (Ext.trans HX1.out HX2.out) (hc3.below (fun i h => by omega) (Ext.trans HX1.out HX2.out).size)
    exact ⟨_, results_read _ _ _ _ _ _ rfl rfl ha3.cell hb3.cell, hx, .inr ⟨HNO.out, rfl⟩⟩
end Go.Proofs.YthhgjeeangepaaaGreat
namespace Go.Proofs.YthhgjeeangepaaaGreat
open Go.ChangeShapes Go.WideShapes Go.ChangeAt Go.RowKit
theorem rise_lt {L : List Ent} (h : Rise L) : ∀ (d i : Nat) (a b : Ent), L[i]? = some a → L[i + d + 1]? = some b → cmpE a b < 0 := by
  intro d
  induction d with
  | zero => intro i a b ha hb; exact h i a b ha hb
  | succ d ih =>
    intro i a b ha hb
    have hlt := (List.getElem?_eq_some_iff.1 hb).1
    obtain ⟨m, hm⟩ : ∃ m, L[i + d + 1]? = some m := ⟨_, List.getElem?_eq_getElem (by omega)⟩
    have h1 := ih i a m ha hm
    have h2 := h (i + d + 1) m b hm hb
    have r1 := cmpE_range a m
    have r2 := cmpE_range m b
    have := cmpE_lt_trans (a := a) (b := m) (c := b) (by omega) (by omega)
    omega
theorem rise_at {L : List Ent} (h : Rise L) {i j : Nat} {a b : Ent} (hij : i < j) (ha : L[i]? = some a) (hb : L[j]? = some b) : cmpE a b < 0 := by
  obtain ⟨d, rfl⟩ : ∃ d, j = i + d + 1 := ⟨j - i - 1, by omega⟩
  exact rise_lt h d i a b ha hb
structure Cut (L : List Ent) (x : Ent) (n : Nat) : Prop where
  le : n ≤ L.length
  lo : ∀ j a, j < n → L[j]? = some a → cmpE a x < 0
  hi : ∀ j a, n ≤ j → L[j]? = some a → 0 ≤ cmpE a x
theorem cut_lo {L : List Ent} (h : Rise L) {x a : Ent} {m : Nat} (hm : L[m]? = some a) (hc : cmpE a x < 0) : ∀ j b, j < m + 1 → L[j]? = some b → cmpE b x < 0 := by
  intro j b hj hb
  rcases Nat.lt_or_ge j m with h1 | h1
  · have h2 := rise_at h h1 hb hm
    have r1 := cmpE_range b a
    have r2 := cmpE_range a x
    have := cmpE_lt_trans (a := b) (b := a) (c := x) (by omega) (by omega)
    omega
  · have : j = m := by omega
    subst this
    rw [hm] at hb; injection hb with hb; subst hb; exact hc
theorem cut_hi {L : List Ent} (h : Rise L) {x a : Ent} {m : Nat} (hm : L[m]? = some a) (hc : 0 ≤ cmpE a x) : ∀ j b, m ≤ j → L[j]? = some b → 0 ≤ cmpE b x := by
  intro j b hj hb
  rcases Nat.lt_or_ge m j with h1 | h1
  · have h2 := rise_at h h1 hm hb
    rcases Int.lt_or_le (cmpE b x) 0 with h3 | h3
    · have r1 := cmpE_range a b
      have r2 := cmpE_range b x
      have := cmpE_lt_trans (a := a) (b := b) (c := x) (by omega) (by omega)
      omega
    · exact h3
  · have : j = m := by omega
    subst this
    rw [hm] at hb; injection hb with hb; subst hb; exact hc
theorem wrap_half {l h : Nat} (k : l + h < 1000000) : wrap64 (wrap64 ((l : Int) + (h : Int)) / 2) = (((l + h) / 2 : Nat) : Int) := by
  have e : wrap64 ((l : Int) + (h : Int)) = ((l + h : Nat) : Int) := by unfold wrap64; omega
  rw [e]; unfold wrap64; omega
theorem wrap_sum {l h : Nat} (k : l + h < 1000000) : wrap64 ((l : Int) + (h : Int)) = ((l + h : Nat) : Int) := by unfold wrap64; omega
theorem wrap_div {m : Nat} (k : m < 1000000) : wrap64 ((m : Int) / 2) = ((m / 2 : Nat) : Int) := by unfold wrap64; omega
set_option maxRecDepth 100000 in
set_option maxHeartbeats 8000000 in
theorem first_any {w : World} {lo hi lo2 hi2 c : Nat} {A : Option Addr} {L : List (Ent × Hd)} {x : Ent} {g : Hd} (h : Es w lo hi A L) (hhi : hi ≤ w.heap.size) (hn : L.length ≤ 1024) (hr : Rise (L.map Prod.fst)) (hx : Em w lo2 hi2 x g) (hhi2 : hi2 ≤ w.heap.size) :
    Calls Tryz.prog 104 #[.slice A L.length c, x.at_ g] w fun e w' => ∃ n : Nat, Cut (L.map Prod.fst) x n ∧ e = .returned (.int .i64 (n : Int)) ∧ Ext w w' := by
  obtain ⟨w1, hw1⟩ : ∃ w1, w1 = w.alloc (.cells #[.slice g.kA x.key.length g.kc, .int .i64 x.seq, .int .i64 x.kind, .slice g.vA x.val.length g.vc] 55) := ⟨_, rfl⟩
  have HX1 : Hid (Ext w w1) := by rw [hw1]; exact ext_alloc _ _
  have HB1 : Hid (w1.heap[w.heap.size]? = some (.cells #[.slice g.kA x.key.length g.kc, .int .i64 x.seq, .int .i64 x.kind, .slice g.vA x.val.length g.vc] 55 (0, 0))) := by rw [hw1]; exact heap_at _ _ rfl
  have HE := Lib.hid (h.below HX1.out hhi)
  have HM := Lib.hid (hx.below HX1.out hhi2)
  have HH : Hid (hi ≤ w1.heap.size ∧ hi2 ≤ w1.heap.size) := ⟨Nat.le_trans hhi HX1.out.size, Nat.le_trans hhi2 HX1.out.size⟩
  have HR := Lib.hid hr
  have HN := Lib.hid hn
  clear h hhi hn hr hx hhi2
  unfold Ent.at_
  go_enter Tryz.func104, Tryz.ntmps104
  go_upto_region 1 with (fail)
  rw [← hw1]
  clear hw1
  go_step3
  go_wp2_with fail
  go_step3
  go_wp2_with fail
  go_loopw [5, 6, 7] (fun a b _ wr => ∃ l k : Nat, l ≤ k ∧ k ≤ L.length ∧ a = .int .i64 (l : Int) ∧ b = .int .i64 (k : Int) ∧ Hid (∀ j y, j < l → (L.map Prod.fst)[j]? = some y → cmpE y x < 0) ∧ Hid (∀ j y, k ≤ j → (L.map Prod.fst)[j]? = some y → 0 ≤ cmpE y x) ∧ Hid (Ext w1 wr))
    (fun a b _ _ => (intOf b).toNat - (intOf a).toNat)
  case atStart => exact ⟨0, L.length, Nat.zero_le _, Nat.le_refl _, rfl, rfl, fun j y h => absurd h (Nat.not_lt_zero _), fun j y h hy => by have := (List.getElem?_eq_some_iff.1 hy).1; rw [List.length_map] at this; omega, Ext.refl _⟩
  case round =>
    obtain ⟨l, k, hlk, hkn, rfl, rfl, HLO, HHI, HX⟩ := hrel
    by_cases hlt : l < k
    · have d : decide ((l : Int) < (k : Int)) = true := by rw [decide_eq_true_eq]; exact Int.ofNat_lt.2 hlt
      have dn : decide (l < k) = true := by rw [decide_eq_true_eq]; exact hlt
      obtain ⟨m, hm⟩ : ∃ m, m = (l + k) / 2 := ⟨_, rfl⟩
      have HMM : Hid (l ≤ m ∧ m < k ∧ k ≤ L.length ∧ L.length ≤ 1024) := by have := HN.out; unfold Hid; omega
      have hs1 := wrap_sum (l := l) (h := k) (by have := HN.out; omega)
      obtain ⟨s, hs⟩ : ∃ s, s = l + k := ⟨_, rfl⟩
      rw [← hs] at hs1 hm
      have hs2 := wrap_div (m := s) (by have := HN.out; omega)
      rw [← hm] at hs2
      have HS2 := Lib.hid hs2
      have hml : m < L.length := by have := HMM.out; omega
      obtain ⟨p, hp⟩ : ∃ p, L[m]? = some p := ⟨_, List.getElem?_eq_getElem hml⟩
      have HP := Lib.hid hp
      obtain ⟨bb, oo, rfl⟩ := HE.out.base (by omega)
      have HEr := Lib.hid (HE.out.below HX.out HH.out.1)
      obtain ⟨c0, c1, c2, c3⟩ := HEr.out.get hp
      have HBr : Hid (wr.heap[w.heap.size]? = some (.cells #[.slice g.kA x.key.length g.kc, .int .i64 x.seq, .int .i64 x.kind, .slice g.vA x.val.length g.vc] 55 (0, 0))) := ext_heap HX.out HB1.out
      have e0 := cell_of HBr.out (k := 0) rfl
      have e1 := cell_of HBr.out (k := 1) rfl
      have e2 := cell_of HBr.out (k := 2) rfl
      have e3 := cell_of HBr.out (k := 3) rfl
      have n1 : (0 : Int) ≤ (m : Int) := Int.natCast_nonneg _
      have n2 : (m : Int) < (L.length : Int) := Int.ofNat_lt.2 hml
      have HCK : Hid (∀ u, Ext wr u → Calls Tryz.prog 102 #[p.1.at_ p.2, x.at_ g] u fun y w' => y = .returned (.int .i64 (cmpE p.1 x)) ∧ Ext u w') := fun u hu => by
        have hz := HX.out.size
        exact compare_any ((HEr.out.each p (List.mem_of_getElem? HP.out)).below hu (Nat.le_trans HH.out.1 hz)) (HM.out.below (Ext.trans HX.out hu) HH.out.2) (Nat.le_trans HH.out.1 (Nat.le_trans hz hu.size)) (Nat.le_trans HH.out.2 (Nat.le_trans hz hu.size))
      obtain ⟨z, hz⟩ : ∃ z, z = cmpE p.1 x := ⟨_, rfl⟩
      have HZ := Lib.hid hz
      rw [← hz] at HCK
      have HPM : Hid ((L.map Prod.fst)[m]? = some p.1) := by rw [List.getElem?_map, HP.out]; exact rfl
      unfold Ent.at_ at HCK
      clear hlt hp hml hm hs hlk hkn hz
      by_cases hneg : z < 0
      · have dz : decide (z < 0) = true := decide_eq_true hneg
        have HNG := Lib.hid hneg
        clear hneg
        go_upto_region 4 with (fail)
        refine flow (by kernel_rfl) [Is (.slice (some ⟨bb, oo, none⟩) L.length c), Is (.int .i64 (m : Int)), Is (.pointer (some ⟨bb, oo + m * 4, none⟩)), Is (.agg #[.slice p.2.kA p.1.key.length p.2.kc, .int .i64 p.1.seq, .int .i64 p.1.kind, .slice p.2.vA p.1.val.length p.2.vc]), Is (.agg #[.slice g.kA x.key.length g.kc, .int .i64 x.seq, .int .i64 x.kind, .slice g.vA x.val.length g.vc]), Is (.int .i64 z), Is (.bool true)] (by kernel_rfl) (by kernel_rfl) ?mono (fun f1 => ?obl) ?fin
        case mono =>
          simp only [List.forall_mem_cons, List.not_mem_nil, false_imp_iff, implies_true, and_true]
          exact ⟨.is _, .is _, .is _, .is _, .is _, .is _, .is _⟩
        case fin =>
          intro g1 u hu hg
          simp only [puts, Act.put, zq1, zq2, zq3]
          have hxu := Ext.trans (Ext.drew wr) hu
          have HXU : Hid (Ext w1 u) := Ext.trans HX.out hxu
          have e6 : g1 6 = .bool true := hg 6 (by decide)
          rw [e6]
          clear hxu hu hg e6 hs1 hs2 e0 e1 e2 e3 c0 c1 c2 c3
          go_wp2_with fail
          go_roundw
          case rel =>
            have hmm := HMM.out
            refine ⟨m + 1, k, by omega, by omega, ?_, rfl, ?_, HHI, HXU⟩
            · rw [HS2.out, wrap_succ (by omega)]
            · exact cut_lo HR.out HPM.out (by rw [← HZ.out]; exact HNG.out)
          case measure =>
            have hmm := HMM.out
            rw [HS2.out, wrap_succ (by omega)]
            simp [intOf]; omega
        case obl =>
          refine ⟨fun u hu hd => ?_, ?_⟩
          · go_simp
            exact ⟨Ext.refl _, rfl⟩
          refine ⟨fun u hu hd => ?_, ?_⟩
          · simp only [Act.put, zq1, zq2, zq3]
            go_simp
            exact ⟨Ext.refl _, rfl⟩
          refine ⟨fun u hu hd => ?_, ?_⟩
          · simp only [Act.put, zq1, zq2, zq3]
            have e0 : f1 0 = .slice (some ⟨bb, oo, none⟩) L.length c := hd 0 (by kernel_rfl)
            have e1 : f1 1 = .int .i64 (m : Int) := hd 1 (by kernel_rfl)
            go_simp
            exact ⟨Ext.refl _, rfl⟩
          refine ⟨fun u hu hd => ?_, ?_⟩
          · simp only [Act.put, zq1, zq2, zq3]
            have e2 : f1 2 = .pointer (some ⟨bb, oo + m * 4, none⟩) := hd 2 (by kernel_rfl)
            have hu2 := Ext.trans (Ext.drew wr) hu
            have q0 := ext_cell hu2 c0
            have q1 := ext_cell hu2 c1
            have q2 := ext_cell hu2 c2
            have q3 := ext_cell hu2 c3
            go_simp
            exact ⟨Ext.refl _, rfl⟩
          refine ⟨fun u hu hd => ?_, ?_⟩
          · simp only [Act.put, zq1, zq2, zq3]
            have hu2 := Ext.trans (Ext.drew wr) hu
            have q0 := ext_cell hu2 e0
            have q1 := ext_cell hu2 e1
            have q2 := ext_cell hu2 e2
            have q3 := ext_cell hu2 e3
            go_simp
            exact ⟨Ext.refl _, rfl⟩
          refine ⟨fun u hu hd => ?_, ?_⟩
          · simp only [Act.put, zq1, zq2, zq3]
            have e3 : f1 3 = .agg #[.slice p.2.kA p.1.key.length p.2.kc, .int .i64 p.1.seq, .int .i64 p.1.kind, .slice p.2.vA p.1.val.length p.2.vc] := hd 3 (by kernel_rfl)
            have e4 : f1 4 = .agg #[.slice g.kA x.key.length g.kc, .int .i64 x.seq, .int .i64 x.kind, .slice g.vA x.val.length g.vc] := hd 4 (by kernel_rfl)
            have hu2 := Ext.trans (Ext.drew wr) hu
            go_simp
            refine (HCK.out _ hu2).mono ?_
            rintro y w9 ⟨rfl, hx9⟩
            exact ⟨_, rfl, hx9, rfl⟩
          refine ⟨fun u hu hd => ?_, ?_⟩
          · simp only [Act.put, zq1, zq2, zq3]
            have e5 : f1 5 = .int .i64 z := hd 5 (by kernel_rfl)
            go_simp
            exact ⟨Ext.refl _, rfl⟩
          trivial
      · have dz : decide (z < 0) = false := decide_eq_false hneg
        have HNG := Lib.hid hneg
        clear hneg
        go_upto_region 4 with (fail)
        refine flow (by kernel_rfl) [Is (.slice (some ⟨bb, oo, none⟩) L.length c), Is (.int .i64 (m : Int)), Is (.pointer (some ⟨bb, oo + m * 4, none⟩)), Is (.agg #[.slice p.2.kA p.1.key.length p.2.kc, .int .i64 p.1.seq, .int .i64 p.1.kind, .slice p.2.vA p.1.val.length p.2.vc]), Is (.agg #[.slice g.kA x.key.length g.kc, .int .i64 x.seq, .int .i64 x.kind, .slice g.vA x.val.length g.vc]), Is (.int .i64 z), Is (.bool false)] (by kernel_rfl) (by kernel_rfl) ?mono (fun f1 => ?obl) ?fin
        case mono =>
          simp only [List.forall_mem_cons, List.not_mem_nil, false_imp_iff, implies_true, and_true]
          exact ⟨.is _, .is _, .is _, .is _, .is _, .is _, .is _⟩
        case fin =>
          intro g1 u hu hg
          simp only [puts, Act.put, zq1, zq2, zq3]
          have hxu := Ext.trans (Ext.drew wr) hu
          have HXU : Hid (Ext w1 u) := Ext.trans HX.out hxu
          have e6 : g1 6 = .bool false := hg 6 (by decide)
          rw [e6]
          clear hxu hu hg e6 hs1 hs2 e0 e1 e2 e3 c0 c1 c2 c3
          go_wp2_with fail
          go_roundw
          case rel =>
            have hmm := HMM.out
            refine ⟨l, m, by omega, by omega, rfl, by rw [HS2.out], HLO, ?_, HXU⟩
            exact cut_hi HR.out HPM.out (by rw [← HZ.out]; have := HNG.out; omega)
          case measure =>
            have hmm := HMM.out
            rw [HS2.out]
            simp [intOf]; omega
        case obl =>
          refine ⟨fun u hu hd => ?_, ?_⟩
          · go_simp
            exact ⟨Ext.refl _, rfl⟩
          refine ⟨fun u hu hd => ?_, ?_⟩
          · simp only [Act.put, zq1, zq2, zq3]
            go_simp
            exact ⟨Ext.refl _, rfl⟩
          refine ⟨fun u hu hd => ?_, ?_⟩
          · simp only [Act.put, zq1, zq2, zq3]
            have e0 : f1 0 = .slice (some ⟨bb, oo, none⟩) L.length c := hd 0 (by kernel_rfl)
            have e1 : f1 1 = .int .i64 (m : Int) := hd 1 (by kernel_rfl)
            go_simp
            exact ⟨Ext.refl _, rfl⟩
          refine ⟨fun u hu hd => ?_, ?_⟩
          · simp only [Act.put, zq1, zq2, zq3]
            have e2 : f1 2 = .pointer (some ⟨bb, oo + m * 4, none⟩) := hd 2 (by kernel_rfl)
            have hu2 := Ext.trans (Ext.drew wr) hu
            have q0 := ext_cell hu2 c0
            have q1 := ext_cell hu2 c1
            have q2 := ext_cell hu2 c2
            have q3 := ext_cell hu2 c3
            go_simp
            exact ⟨Ext.refl _, rfl⟩
          refine ⟨fun u hu hd => ?_, ?_⟩
          · simp only [Act.put, zq1, zq2, zq3]
            have hu2 := Ext.trans (Ext.drew wr) hu
            have q0 := ext_cell hu2 e0
            have q1 := ext_cell hu2 e1
            have q2 := ext_cell hu2 e2
            have q3 := ext_cell hu2 e3
            go_simp
            exact ⟨Ext.refl _, rfl⟩
          refine ⟨fun u hu hd => ?_, ?_⟩
          · simp only [Act.put, zq1, zq2, zq3]
            have e3 : f1 3 = .agg #[.slice p.2.kA p.1.key.length p.2.kc, .int .i64 p.1.seq, .int .i64 p.1.kind, .slice p.2.vA p.1.val.length p.2.vc] := hd 3 (by kernel_rfl)
            have e4 : f1 4 = .agg #[.slice g.kA x.key.length g.kc, .int .i64 x.seq, .int .i64 x.kind, .slice g.vA x.val.length g.vc] := hd 4 (by kernel_rfl)
            have hu2 := Ext.trans (Ext.drew wr) hu
            go_simp
            refine (HCK.out _ hu2).mono ?_
            rintro y w9 ⟨rfl, hx9⟩
            exact ⟨_, rfl, hx9, rfl⟩
          refine ⟨fun u hu hd => ?_, ?_⟩
          · simp only [Act.put, zq1, zq2, zq3]
            have e5 : f1 5 = .int .i64 z := hd 5 (by kernel_rfl)
            go_simp
            exact ⟨Ext.refl _, rfl⟩
          trivial
    · have d : decide ((l : Int) < (k : Int)) = false := by rw [decide_eq_false_iff_not]; exact fun h => hlt (Int.ofNat_lt.1 h)
      have dn : decide (l < k) = false := by rw [decide_eq_false_iff_not]; exact hlt
      have HLK : Hid (l = k ∧ k ≤ L.length) := ⟨by omega, hkn⟩
      clear hlt hlk hkn
      go_wp2_with fail
      rw [Exit.noGoto_ret]
      go_ret
      exact ⟨l, ⟨by rw [List.length_map]; have := HLK.out; omega, HLO.out, by rw [HLK.out.1]; exact HHI.out⟩, rfl, Ext.trans HX1.out HX.out⟩
end Go.Proofs.YthhgjeeangepaaaGreat
namespace Go.Proofs.YthhgjeeangepaaaGreat
theorem cmpE_keys {a b : Ent} (h : cmpE a b < 0) : cmpK a.key b.key ≤ 0 := by
  unfold cmpE at h
  split at h
  · omega
  · omega
theorem cmpK_trans_lt {a b c : List Nat} (h : cmpK a b ≤ 0) (k : cmpK b c < 0) : cmpK a c < 0 := by
  have r1 := cmpK_range a b
  have r2 := cmpK_range b c
  rcases r1 with r1 | r1 | r1
  · rw [cmpK_lt_trans r1 (by omega)]; decide
  · rw [cmpK_zero r1]; exact k
  · omega
section
variable {α : Type}
def cutOf (q : α → Bool) (L : List α) : Nat := (L.takeWhile q).length
theorem cutOf_le (q : α → Bool) (L : List α) : cutOf q L ≤ L.length := (List.takeWhile_prefix q).length_le
end
def belowK (k : List Nat) (e : Ent) : Bool := decide (cmpK e.key k < 0)
end Go.Proofs.YthhgjeeangepaaaGreat
namespace Go.Proofs.YthhgjeeangepaaaGreat
open Go
def fnv (h b : Nat) : Nat := ((h ^^^ b) * 16777619) % 4294967296
def sbyte (s : Int) (j : Nat) : Nat := (s / 2 ^ (56 - 8 * j) % 256).toNat
def sbytes (s : Int) (n : Nat) : List Nat := (List.range n).map (sbyte s)
def sumK (key : List Nat) : Nat := key.foldl fnv 2166136261
def sumS (key : List Nat) (s : Int) : Nat := (sbytes s 8).foldl fnv (sumK key)
def hgt (key : List Nat) (s : Int) : Nat := min (1 + Lib.ctz 32 (sumS key s) / 2) 8
end Go.Proofs.YthhgjeeangepaaaGreat
namespace Go.Proofs.YthhgjeeangepaaaGreat
open Go.ChangeShapes Go.WideShapes Go.ChangeAt Go.RowKit
structure InE (e : Ent) : Prop where
  bk : ∀ x ∈ e.key, x < 256
  bv : ∀ x ∈ e.val, x < 256
  may : e.may = true
theorem InE.s {e : Ent} (h : InE e) : 1 ≤ e.key.length ∧ e.key.length ≤ 32 ∧ 1 ≤ e.seq ∧ e.seq ≤ 2147483647 ∧ (e.kind = 1 ∧ e.val.length ≤ 65536 ∨ e.kind = 2 ∧ e.val.length = 0) := mayN_iff.1 h.may
end Go.Proofs.YthhgjeeangepaaaGreat
namespace Go.Proofs.YthhgjeeangepaaaGreat
open Go.ChangeShapes Go.WideShapes Go.ChangeAt Go.RowKit
theorem entry_ret2 {fn : Func} {tmps : Array Value} {w : World} {g : Nat} {p q : Tmp} {c : Array Value} {k : Value} {R : Ending → World → Prop} (hr : fn.results = #[.cell p 55, .tmp q]) (h2 : tmps.getD p undef = .pointer (some ⟨g, 0, none⟩)) (h3 : tmps.getD q undef = k)
    (hc : c.size = 4) (hg : w.heap[g]? = some (.cells c 55 (0, 0))) (h : R (.returned (.tuple #[.agg c, k])) w) : bodyPost Tryz.prog fn R .ret { tmps := tmps, defers := [] } w := by
  refine ⟨rfl, .tuple #[.agg c, k], ?_, h⟩
  have hi : (Tryz.prog.info? 55).map (·.size) = some 4 := by kernel_rfl
  have hl := run_loadVar_row (P := Tryz.prog) w g 55 55 c (0, 0) _ hg Tryz.underlying55 rfl (by rw [hc]; exact hi)
  have ha : (asAddr (.pointer (some ⟨g, 0, none⟩))).run Tryz.prog w = .ok ⟨g, 0, none⟩ w := rfl
  rw [results_cell_tmp hr, h2, h3, ha, Result.andThen_ok, hl, Result.andThen_ok]
def seenE (k : List Nat) (s : Int) (e : Ent) : Bool := decide (e.key = k) && decide (e.seq ≤ s)
end Go.Proofs.YthhgjeeangepaaaGreat
namespace Go.Proofs.YthhgjeeangepaaaGreat
open Go.ChangeShapes Go.WideShapes Go.ChangeAt Go.RowKit
def BGetAns (w : World) (b key : List Nat) (s : Int) (x : Ending) (w' : World) : Prop :=
  Ext w w' ∧ ((∀ L, ¬ IsB b L) ∧ x = .returned (.tuple #[noE, .int .i64 4]) ∨ ∃ L, IsB b L ∧ match L.find? (seenE key s) with
    | some e => ∃ g : Hd, x = .returned (.tuple #[e.at_ g, .int .i64 0]) ∧ Em w' 0 w'.heap.size e g
    | none => x = .returned (.tuple #[noE, .int .i64 6]))
theorem cut_find {L : List Ent} {key : List Nat} {s : Int} {n : Nat} (hr : Rise L) (h : Cut L ⟨key, s, 0, []⟩ n) : L.find? (seenE key s) = if h : n < L.length then (if L[n].key = key then some L[n] else none) else none := by
  have hahead : ∀ j a, j < n → L[j]? = some a → seenE key s a = false := fun j a hj ha => by
    have h1 := h.lo j a hj ha
    unfold seenE
    rw [Bool.and_eq_false_iff]
    by_cases hk : a.key = key
    · right
      rw [decide_eq_false_iff_not]
      intro hs
      unfold cmpE at h1
      rw [if_pos (by rw [hk]; exact cmpK_self _)] at h1
      unfold cmpS at h1
      dsimp only at h1
      split at h1
      · omega
      · split at h1 <;> omega
    · left; exact decide_eq_false hk
  have hsplit : L.find? (seenE key s) = (L.drop n).find? (seenE key s) := by
    conv => lhs; rw [← List.take_append_drop n L]
    rw [List.find?_append]
    have : (L.take n).find? (seenE key s) = none := by
      rw [List.find?_eq_none]
      intro a ha
      obtain ⟨j, hj, rfl⟩ := List.getElem_of_mem ha
      rw [List.length_take] at hj
      rw [List.getElem_take, hahead j _ (by omega) (List.getElem?_eq_getElem (by omega))]
      decide
    rw [this]; rfl
  rw [hsplit]
  split
  · rename_i hn
    rw [List.drop_eq_getElem_cons hn, List.find?_cons]
    have h1 := h.hi n L[n] (Nat.le_refl _) (List.getElem?_eq_getElem hn)
    by_cases hk : L[n].key = key
    · rw [if_pos hk]
      have : seenE key s L[n] = true := by
        unfold seenE
        rw [Bool.and_eq_true, decide_eq_true_eq, decide_eq_true_eq]
        refine ⟨hk, ?_⟩
        unfold cmpE at h1
        rw [if_pos (by rw [hk]; exact cmpK_self _)] at h1
        unfold cmpS at h1
        dsimp only at h1
        split at h1
        · omega
        · split at h1 <;> omega
      rw [this]
    · rw [if_neg hk]
      have h0 : seenE key s L[n] = false := by
        unfold seenE
        rw [Bool.and_eq_false_iff]; left; exact decide_eq_false hk
      rw [h0]
      show (L.drop (n + 1)).find? (seenE key s) = none
      rw [List.find?_eq_none]
      intro a ha hs
      obtain ⟨j, hj, rfl⟩ := List.getElem_of_mem ha
      rw [List.length_drop] at hj
      rw [List.getElem_drop] at hs
      have h2 := rise_at hr (show n < n + 1 + j by omega) (List.getElem?_eq_getElem hn) (List.getElem?_eq_getElem (show n + 1 + j < L.length by omega))
      unfold seenE at hs
      rw [Bool.and_eq_true, decide_eq_true_eq] at hs
      unfold cmpE at h1 h2
      dsimp only at h1
      rw [hs.1] at h2
      split at h1
      · rename_i h3; exact hk (cmpK_zero h3)
      · rename_i h3
        rw [if_neg h3] at h2
        omega
  · rename_i hn
    rw [List.drop_eq_nil_of_le (by omega)]; rfl
theorem chg_four (g : Nat) (w1 : World) (a b c d : Value) : Chg (fun i => i = g) w1 ((((w1.setCell ⟨g, 0, none⟩ a).setCell ⟨g, 1, none⟩ b).setCell ⟨g, 2, none⟩ c).setCell ⟨g, 3, none⟩ d) :=
  (((Chg.setCell (S := fun i => i = g) w1 ⟨g, 0, none⟩ a rfl).trans (Chg.setCell _ ⟨g, 1, none⟩ b rfl)).trans (Chg.setCell _ ⟨g, 2, none⟩ c rfl)).trans (Chg.setCell _ ⟨g, 3, none⟩ d rfl)
theorem get_four {w w1 : World} (h : Ext w w1) (a b c d : Value) : Ext w ((((w1.setCell ⟨w.heap.size, 0, none⟩ a).setCell ⟨w.heap.size, 1, none⟩ b).setCell ⟨w.heap.size, 2, none⟩ c).setCell ⟨w.heap.size, 3, none⟩ d) :=
  Below.trans h ((((Chg.setCell (S := fun i => i = w.heap.size) w1 ⟨w.heap.size, 0, none⟩ a rfl).trans (Chg.setCell _ ⟨w.heap.size, 1, none⟩ b rfl)).trans (Chg.setCell _ ⟨w.heap.size, 2, none⟩ c rfl)).trans (Chg.setCell _ ⟨w.heap.size, 3, none⟩ d rfl) |>.below (fun i e => by omega) h.size)
set_option maxRecDepth 100000 in
set_option maxHeartbeats 8000000 in
theorem bget_any {w : World} {lo hi lo2 hi2 kc : Nat} {v : Value} {kA : Option Addr} {b key : List Nat} {s : Int} (hv : Bs w lo hi v b) (hhi : hi ≤ w.heap.size) (hb : ∀ x ∈ b, x < 256) (hl : b.length ≤ 1000000000) (hk : Bs w lo2 hi2 (.slice kA key.length kc) key) (hhi2 : hi2 ≤ w.heap.size) (bk : ∀ x ∈ key, x < 256) (hs1 : -9223372036854775808 ≤ s) (hs2 : s ≤ 9223372036854775807) :
    Calls Tryz.prog 66 #[v, .slice kA key.length kc, .int .i64 s] w (BGetAns w b key s) := by
  obtain ⟨w1, hw1⟩ : ∃ w1, w1 = w.alloc (.cells #[.slice none 0 0, .int .i64 0, .int .i64 0, .slice none 0 0] 55) := ⟨_, rfl⟩
  have HX1 : Hid (Ext w w1) := by rw [hw1]; exact ext_alloc _ _
  have HB1 : Hid (w1.heap[w.heap.size]? = some (.cells #[.slice none 0 0, .int .i64 0, .int .i64 0, .slice none 0 0] 55 (0, 0))) := by rw [hw1]; exact heap_at _ _ rfl
  have HZ1 : Hid (w1.heap.size = w.heap.size + 1) := by rw [hw1]; simp [Hid]
  have HR := Lib.hid (bread_any (hv.below HX1.out hhi) (Nat.le_trans hhi HX1.out.size) hb hl)
  have HK := Lib.hid hk
  have HH := Lib.hid hhi2
  have HBK := Lib.hid bk
  have HS := Lib.hid (And.intro hs1 hs2)
  obtain ⟨A, c, rfl, _, _, _, _⟩ := hv
  clear hhi hb hl hk hhi2 bk hs1 hs2
  go_enter Tryz.func66, Tryz.ntmps66
  go_wp2_with fail
  rw [← hw1]
  clear hw1
  refine HR.out.mono ?_
  rintro x w2 ⟨hx2, (⟨R, X, cR, his, rfl, hgot⟩ | ⟨hno, rfl⟩)⟩
  rotate_left
  · have HX2 := Lib.hid (Ext.trans HX1.out hx2)
    have HB2 : Hid (w2.heap[w.heap.size]? = some (.cells #[.slice none 0 0, .int .i64 0, .int .i64 0, .slice none 0 0] 55 (0, 0))) := ext_heap hx2 HB1.out
    have HNO := Lib.hid hno
    clear hx2 hno
    have c0 := cell_of HB2.out (k := 0) rfl
    have c1 := cell_of HB2.out (k := 1) rfl
    have c2 := cell_of HB2.out (k := 2) rfl
    have c3 := cell_of HB2.out (k := 3) rfl
    have z0 := frozen_four (j := 0) HB2.out
    have z1 := frozen_four (j := 1) HB2.out
    have z2 := frozen_four (j := 2) HB2.out
    have z3 := frozen_four (j := 3) HB2.out
    go_wp2_with fail
    refine entry_ret2 rfl rfl rfl rfl (set_four HB2.out) ?_
    exact ⟨get_four HX2.out _ _ _ _, .inl ⟨HNO.out, rfl⟩⟩
  have HX2 := Lib.hid (Ext.trans HX1.out hx2)
  have HX12 := Lib.hid hx2
  have HB2 : Hid (w2.heap[w.heap.size]? = some (.cells #[.slice none 0 0, .int .i64 0, .int .i64 0, .slice none 0 0] 55 (0, 0))) := ext_heap hx2 HB1.out
  have HIS := Lib.hid his
  have HG := Lib.hid hgot
  have HRL : Hid (1 ≤ R.length ∧ R.length ≤ 1024) := by have h1 := his.1.1; have h2 := his.1.2.1; rw [List.length_map] at h1 h2; exact ⟨h1, h2⟩
  have HFI := Lib.hid (first_any (c := cR) (x := ⟨key, s, 0, []⟩) (g := ⟨kA, kc, none, 0⟩) (lo2 := 0) (hi2 := w2.heap.size) hgot.rs (Nat.le_refl _) HRL.out.2 his.1.2.2.1 ⟨(HK.out.below (Ext.trans HX1.out hx2) HH.out).wide (Nat.zero_le _) (Nat.le_trans HH.out (Ext.trans HX1.out hx2).size), Bs.nil _ _ _, HBK.out, by simp, HS.out.1, HS.out.2, (by show (-9223372036854775808 : Int) ≤ 0; decide), (by show (0 : Int) ≤ 9223372036854775807; decide)⟩ (Nat.le_refl _))
  clear hx2 his hgot
  go_wp2_with fail
  refine HFI.out.mono ?_
  rintro x w3 ⟨n, hcut, rfl, hx3⟩
  have HX3 := Lib.hid (Ext.trans HX2.out hx3)
  have HX23 := Lib.hid hx3
  have HB3 : Hid (w3.heap[w.heap.size]? = some (.cells #[.slice none 0 0, .int .i64 0, .int .i64 0, .slice none 0 0] 55 (0, 0))) := ext_heap hx3 HB2.out
  have HG3 := Lib.hid (HG.out.below hx3)
  have HF := Lib.hid (cut_find HIS.out.1.2.2.1 hcut)
  have hnle := hcut.le
  rw [List.length_map] at hnle
  have c0 := cell_of HB3.out (k := 0) rfl
  have c1 := cell_of HB3.out (k := 1) rfl
  have c2 := cell_of HB3.out (k := 2) rfl
  have c3 := cell_of HB3.out (k := 3) rfl
  have z0 := frozen_four (j := 0) HB3.out
  have z1 := frozen_four (j := 1) HB3.out
  have z2 := frozen_four (j := 2) HB3.out
  have z3 := frozen_four (j := 3) HB3.out
  clear hx3 hcut
  by_cases hn : n = R.length
  · have d : ((n : Int) == (R.length : Int)) = true := by rw [beq_iff_eq, hn]
    have dn : (n == R.length) = true := by rw [beq_iff_eq, hn]
    have HN := Lib.hid hn
    clear hn hnle
    go_wp2_with fail
    refine entry_ret2 rfl rfl rfl rfl (set_four HB3.out) ?_
    refine ⟨get_four HX3.out _ _ _ _, .inr ⟨_, HIS.out, ?_⟩⟩
    have h1 := HF.out
    rw [dif_neg (by rw [List.length_map]; have := HN.out; omega)] at h1
    rw [h1]
    rfl
  · have d : ((n : Int) == (R.length : Int)) = false := by rw [beq_eq_false_iff_ne]; omega
    have dn : (n == R.length) = false := by rw [beq_eq_false_iff_ne]; exact hn
    have hlt : n < R.length := by omega
    obtain ⟨p, hp⟩ : ∃ p, R[n]? = some p := ⟨_, List.getElem?_eq_getElem hlt⟩
    have HP := Lib.hid hp
    have HLT := Lib.hid hlt
    obtain ⟨bb, oo, rfl⟩ := HG3.out.rs.base (by omega)
    obtain ⟨p0, p1, p2, p3⟩ := HG3.out.rs.get hp
    have n1 : (0 : Int) ≤ (n : Int) := Int.natCast_nonneg _
    have n2 : (n : Int) < (R.length : Int) := Int.ofNat_lt.2 hlt
    have HKC := Lib.hid (keys_any (HG3.out.rs.each p (List.mem_of_getElem? hp)).k (HK.out.below HX3.out HH.out) (HG3.out.rs.each p (List.mem_of_getElem? hp)).bk HBK.out)
    have HFP : Hid ((R.map Prod.fst).find? (seenE key s) = if p.1.key = key then some p.1 else none) := by
      have h1 := HF.out
      rw [dif_pos (by rw [List.length_map]; exact hlt)] at h1
      have h2 : (R.map Prod.fst)[n]'(by rw [List.length_map]; exact hlt) = p.1 := by rw [List.getElem_map]; rw [List.getElem?_eq_getElem hlt] at hp; injection hp with hp; rw [hp]
      rw [h2] at h1
      exact h1
    clear hn hnle hlt hp
    go_wp2_with fail
    refine HKC.out.mono ?_
    rintro x w4 ⟨rfl, rfl⟩
    by_cases hk : p.1.key = key
    · have dk : (cmpK p.1.key key != 0) = false := by rw [hk, cmpK_self]; rfl
      have HKE := Lib.hid hk
      clear hk
      go_wp2_with fail
      refine entry_ret2 rfl rfl rfl rfl (set_four HB3.out) ?_
      refine ⟨get_four HX3.out _ _ _ _, .inr ⟨_, HIS.out, ?_⟩⟩
      rw [HFP.out, if_pos HKE.out]
      refine ⟨p.2, rfl, ?_⟩
      have hm := HG3.out.each p (List.mem_of_getElem? HP.out)
      exact (hm.chg (chg_four _ _ _ _ _ _) (fun k hk e => by have := HZ1.out; omega)).em
    · have dk : (cmpK p.1.key key != 0) = true := by rw [bne_iff_ne]; exact fun h => hk (cmpK_zero h)
      have HKE := Lib.hid hk
      clear hk
      go_wp2_with fail
      refine entry_ret2 rfl rfl rfl rfl (set_four HB3.out) ?_
      refine ⟨get_four HX3.out _ _ _ _, .inr ⟨_, HIS.out, ?_⟩⟩
      rw [HFP.out, if_neg HKE.out]
      rfl
end Go.Proofs.YthhgjeeangepaaaGreat
namespace Go.Proofs.YthhgjeeangepaaaGreat
open Go.ChangeShapes Go.WideShapes Go.ChangeAt Go.RowKit
set_option maxRecDepth 100000 in
theorem clone_run {u : World} {lo hi : Nat} {A : Option Addr} {c : Nat} {l : List Nat} (h : Bs u lo hi (.slice A l.length c) l) (hl : l.length ≤ 1099511627776) :
    ∃ v w, (Builtin.append_ #[26, 26] 26 #[.slice none 0 0, .slice A l.length c]).run Tryz.prog u = .ok v w ∧ Ext u w ∧ Own u.heap.size l v w := by
  obtain ⟨i0, hi0, ix0, ix1, ix2⟩ := info_parts t5info
  obtain ⟨A', c', he, h1, h2, hnil, hby⟩ := h
  injection he with e1 _ e3
  subst e1 e3
  rcases A with _ | ad
  · obtain rfl := hnil rfl
    have hl0 : l = [] := List.eq_nil_of_length_eq_zero (by omega)
    subst hl0
    refine ⟨.slice none 0 0, u, ?_, Ext.refl _, Own.nil _ _⟩
    simp [Builtin.append_, run_underlying Tryz.underlying26, sizeOf, typeInfo, hi0, Builtin.lenOf, Builtin.firstCells]
  · obtain ⟨v', w', hr, ho, hg, _⟩ := run_append_own (P := Tryz.prog) u u.heap.size 26 26 5 i0 (.int .u8 0) 1 1 Tryz.underlying26 hi0 ix0 ix1 ix2 rfl (by omega) (.slice none 0 0) 0 [] (World.ownsRow_nil _ _ _ _) ad l.length c (bv l) (by rw [bv_length]; omega) (fun j q hj => by
        rcases hby with hby | ⟨b, o, he2, _, _, hc⟩
        · rw [hby] at hj; simp at hj
        · rw [Option.some.inj he2, addr_add]
          exact hc j q hj) (bv_one l) (by unfold maxLen; omega) (by omega) (Nat.le_refl _)
    refine ⟨v', w', hr, (Below.refl _ _).grown hg (Nat.le_refl _) (fun k hk => by cases hk), ?_⟩
    unfold Own
    simpa using ho
theorem clone_obl {o : Oper} {a : Act} {x : Operand} {X : Prop} {u : World} {lo hi d : Nat} {A : Option Addr} {c : Nat} {l : List Nat} {R : Value → World → Prop} (_hg : o.guard = none) (ho : o.op = .call { callee := .builtin .append, args := #[.const (.slice none 0 0), x], argTypes := #[26, 26] })
    (ht : o.type = 26) (hd : o.dst = some d) (hx : a.eval x = .slice A l.length c) (hb : Bs u lo hi (.slice A l.length c) l) (hl : l.length ≤ 1099511627776) (hR : ∀ v w, Ext u w → Own u.heap.size l v w → R v w) {Z : Prop} [Decidable Z] (hZ : Z) :
    if Z then GivesR Tryz.prog ((execOp a.eval o).run Tryz.prog u) (fun v u' => Ext u u' ∧ R (kept o v) u') else X := by
  rw [if_pos hZ]
  obtain ⟨v, w, hr, h1, h2⟩ := clone_run hb hl
  have h0 : (execOp a.eval o).run Tryz.prog u = .ok (.value v) w := by
    have hc : a.eval (.const (.slice none 0 0)) = .slice none 0 0 := rfl
    unfold execOp
    simp only [ho, ht, resolve, invoke, builtin, Sem.run_bind, Sem.run_pure, Result.andThen_ok, List.map_toArray, List.map_cons, List.map_nil, hc, hx, hr]
  rw [h0]
  have hk : kept o v = v := by unfold kept; rw [hd]
  show Ext u w ∧ R (kept o v) w
  rw [hk]
  exact ⟨h1, hR _ _ h1 h2⟩
set_option maxRecDepth 100000 in
set_option maxHeartbeats 4000000 in
theorem rcopy_any {w : World} {lo hi : Nat} {e : Ent} {g : Hd} (hm : Em w lo hi e g) (hhi : hi ≤ w.heap.size) (hk : e.key.length ≤ 1099511627776) (hv : e.val.length ≤ 1099511627776) : Calls Tryz.prog 41 #[e.at_ g] w (CopyAns w e) := by
  obtain ⟨w1, hw1⟩ : ∃ w1, w1 = (w.alloc (.cells #[.slice g.kA e.key.length g.kc, .int .i64 e.seq, .int .i64 e.kind, .slice g.vA e.val.length g.vc] 55)).alloc (.cells #[.slice none 0 0, .int .i64 0, .int .i64 0, .slice none 0 0] 55) := ⟨_, rfl⟩
  have HX : Hid (Ext w w1) := by rw [hw1]; exact Ext.trans (ext_alloc _ _) (ext_alloc _ _)
  have HZ1 : Hid (w1.heap.size = w.heap.size + 2) := by rw [hw1]; simp [Hid]
  have HBX : Hid (w1.heap[w.heap.size]? = some (.cells #[.slice g.kA e.key.length g.kc, .int .i64 e.seq, .int .i64 e.kind, .slice g.vA e.val.length g.vc] 55 (0, 0))) := by rw [hw1]; exact ext_heap (ext_alloc _ _) (heap_at _ _ rfl)
  have HRX : Hid (w1.heap[w.heap.size + 1]? = some (.cells #[.slice none 0 0, .int .i64 0, .int .i64 0, .slice none 0 0] 55 (0, 0))) := by rw [hw1]; exact heap_at _ _ (by simp)
  have HM := Lib.hid hm
  have HHI := Lib.hid hhi
  have HK := Lib.hid hk
  have HV := Lib.hid hv
  clear hm hhi hk hv
  have c0 := cell_of HBX.out (k := 0) rfl
  have c3 := cell_of HBX.out (k := 3) rfl
  unfold Ent.at_
  go_enter Tryz.func41, Tryz.ntmps41
  go_upto_region 1 with (fail)
  rw [← hw1]
  clear hw1
  refine flow_tail (by kernel_rfl) [Is (.pointer (some ⟨w.heap.size, 0, none⟩)), Is (.slice g.kA e.key.length g.kc), Own w1.heap.size e.key, Is (.pointer (some ⟨w.heap.size, 3, none⟩)), Is (.slice g.vA e.val.length g.vc), Own w1.heap.size e.val, Is (.pointer (some ⟨w.heap.size, 0, none⟩))] 7 (by kernel_rfl) (by kernel_rfl) (by kernel_rfl) (by kernel_rfl) ?mono (fun f => ?obl) ?fin
  case mono =>
    simp only [List.forall_mem_cons, List.not_mem_nil, false_imp_iff, implies_true, and_true]
    exact ⟨.is _, .is _, .own _ _, .is _, .is _, .own _ _, .is _⟩
  case fin =>
    intro g1 u hu hg
    simp only [List.take_succ_cons, List.take_zero, List.drop_succ_cons, List.drop_zero, puts, Act.put, zq1, zq2, zq3]
    have h2 : Own w1.heap.size e.key (g1 2) u := hg 2 (by decide)
    have h5 : Own w1.heap.size e.val (g1 5) u := hg 5 (by decide)
    have h6 : g1 6 = .pointer (some ⟨w.heap.size, 0, none⟩) := hg 6 (by decide)
    obtain ⟨v2, e2⟩ : ∃ v, v = g1 2 := ⟨_, rfl⟩
    obtain ⟨v5, e5⟩ : ∃ v, v = g1 5 := ⟨_, rfl⟩
    rw [h6]
    rw [← e2] at h2 ⊢
    rw [← e5] at h5 ⊢
    have H2 := Lib.hid h2
    have H5 := Lib.hid h5
    obtain ⟨A2, c2, rfl⟩ := h2.slice
    obtain ⟨A5, c5, rfl⟩ := h5.slice
    have HU : Hid (Ext w1 u) := Ext.trans (Ext.drew w1) hu
    have hb1 := ext_heap HU.out HBX.out
    have hb2 := ext_heap HU.out HRX.out
    have q0 := cell_of hb1 (k := 0) rfl
    have q1 := cell_of hb1 (k := 1) rfl
    have q2 := cell_of hb1 (k := 2) rfl
    have q3 := cell_of hb1 (k := 3) rfl
    have z0 := frozen_four hb1 (j := 0)
    have z3 := frozen_four hb1 (j := 3)
    have r0 := cell_of hb2 (k := 0) rfl
    have r1 := cell_of hb2 (k := 1) rfl
    have r2 := cell_of hb2 (k := 2) rfl
    have r3 := cell_of hb2 (k := 3) rfl
    have y0 := frozen_four hb2 (j := 0)
    have y1 := frozen_four hb2 (j := 1)
    have y2 := frozen_four hb2 (j := 2)
    have y3 := frozen_four hb2 (j := 3)
    have HB2 := Lib.hid hb2
    clear h2 h5 h6 e2 e5 hb1 hb2 hg hu c0 c3
    go_wp2_with fail
    have n1 : w.heap.size < w1.heap.size := by have := HZ1.out; omega
    have n2 : w.heap.size + 1 < w1.heap.size := by have := HZ1.out; omega
    have n3 : w.heap.size ≤ w1.heap.size := Nat.le_of_lt n1
    have HUW := Ext.trans HX.out HU.out
    refine entry_ret1 (p := 2) (by kernel_rfl) rfl rfl (set_four (a := .slice none 0 0) (b := .int .i64 0) (c := .int .i64 0) (d := .slice none 0 0) ?_) ?_
    · rw [Below.heap_setCell _ _ _ _ (by simp), Below.heap_setCell _ _ _ _ (by simp)]; exact HB2.out
    · refine ⟨Below.setCell (Below.setCell (Below.setCell (Below.setCell (Below.setCell (Below.setCell HUW (Nat.le_refl _) _) (Nat.le_refl _) _) (Nat.le_succ _) _) (Nat.le_succ _) _) (Nat.le_succ _) _) (Nat.le_succ _) _, ⟨A2, c2, A5, c5⟩, rfl, ?_, ?_⟩
      · exact ((((((H2.out.far n1).far n1).far n2).far n2).far n2).far n2).base n3
      · exact ((((((H5.out.far n1).far n1).far n2).far n2).far n2).far n2).base n3
  case obl =>
    refine ⟨fun u hu hd => ?_, ?_⟩
    · go_simp
      exact ⟨Ext.refl _, rfl⟩
    refine ⟨fun u hu hd => ?_, ?_⟩
    · simp only [Act.put, zq1, zq2, zq3]
      have e0 : f 0 = (.pointer (some ⟨w.heap.size, 0, none⟩)) := hd 0 (by kernel_rfl)
      have q := ext_cell hu c0
      go_simp
      exact ⟨Ext.refl _, rfl⟩
    refine ⟨fun u hu hd => ?_, ?_⟩
    · simp only [Act.put, zq1, zq2, zq3]
      have e1 : f 1 = (.slice g.kA e.key.length g.kc) := hd 1 (by kernel_rfl)
      have hb := HM.out.k.below (Ext.trans HX.out (Ext.trans (Ext.drew w1) hu)) HHI.out
      refine clone_obl (x := .tmp 4) rfl rfl rfl rfl (by exact e1) hb HK.out (fun v w9 hx9 hown => hown.base (Ext.trans (Ext.drew w1) hu).size) (by kernel_rfl)
    refine ⟨fun u hu hd => ?_, ?_⟩
    · simp only [Act.put, zq1, zq2, zq3]
      go_simp
      exact ⟨Ext.refl _, rfl⟩
    refine ⟨fun u hu hd => ?_, ?_⟩
    · simp only [Act.put, zq1, zq2, zq3]
      have e3 : f 3 = (.pointer (some ⟨w.heap.size, 3, none⟩)) := hd 3 (by kernel_rfl)
      have q := ext_cell hu c3
      go_simp
      exact ⟨Ext.refl _, rfl⟩
    refine ⟨fun u hu hd => ?_, ?_⟩
    · simp only [Act.put, zq1, zq2, zq3]
      have e4 : f 4 = (.slice g.vA e.val.length g.vc) := hd 4 (by kernel_rfl)
      have hb := HM.out.v.below (Ext.trans HX.out (Ext.trans (Ext.drew w1) hu)) HHI.out
      refine clone_obl (x := .tmp 7) rfl rfl rfl rfl (by exact e4) hb HV.out (fun v w9 hx9 hown => hown.base (Ext.trans (Ext.drew w1) hu).size) (by kernel_rfl)
    refine ⟨fun u hu hd => ?_, ?_⟩
    · simp only [Act.put, zq1, zq2, zq3]
      go_simp
      exact ⟨Ext.refl _, rfl⟩
    trivial
end Go.Proofs.YthhgjeeangepaaaGreat
namespace Go.Proofs.YthhgjeeangepaaaGreat
open Go.ChangeShapes Go.WideShapes Go.ChangeAt Go.RowKit Go.Shelf
theorem bcut_is {L : List Ent} {key : List Nat} {n : Nat} (hm : ∀ e ∈ L, e.seq ≤ 2147483647) (h : Cut L ⟨key, 2147483647, 0, []⟩ n) : n = cutOf (belowK key) L := by
  have h1 : ∀ e ∈ L, (cmpE e ⟨key, 2147483647, 0, []⟩ < 0 ↔ belowK key e = true) := fun e he => by
    have hs := hm e he
    unfold cmpE belowK
    rw [decide_eq_true_eq]
    split
    · rename_i h0
      unfold cmpS
      dsimp only at h0 ⊢
      rw [if_neg (by omega)]
      split <;> omega
    · exact Iff.rfl
  unfold cutOf
  have e1 : L = L.take n ++ L.drop n := (List.take_append_drop n L).symm
  have h2 : ∀ a ∈ L.take n, belowK key a = true := fun a ha => by
    obtain ⟨j, hj, rfl⟩ := List.getElem_of_mem ha
    rw [List.length_take] at hj
    rw [List.getElem_take]
    exact (h1 _ (List.getElem_mem _)).1 (h.lo j _ (by omega) (List.getElem?_eq_getElem (by omega)))
  have h3 : (L.drop n).takeWhile (belowK key) = [] := by
    rcases Nat.lt_or_ge n L.length with hn | hn
    · rw [List.drop_eq_getElem_cons hn, List.takeWhile_cons]
      have h4 := h.hi n _ (Nat.le_refl _) (List.getElem?_eq_getElem hn)
      have h5 : ¬ belowK key L[n] = true := fun hb => by have := (h1 _ (List.getElem_mem _)).2 hb; omega
      rw [if_neg h5]
    · rw [List.drop_eq_nil_of_le hn]; rfl
  conv => rhs; rw [e1]
  rw [List.takeWhile_append_of_pos h2, h3, List.append_nil, List.length_take]
  have := h.le
  omega
theorem ReadBAns.all {w w' : World} {b : List Nat} {x : Ending} (h : ReadBAns w b x w') : Ext w w' ∧ ∃ (R : List (Ent × Hd)) (A : Option Addr) (c : Nat) (k : Int), x = .returned (.tuple #[.slice A R.length c, .int .i64 k]) ∧ Got w.heap.size (.slice A R.length c) R w' ∧ R.length ≤ 1024 ∧ Rise (R.map Prod.fst) ∧ (∀ p ∈ R, InE p.1) ∧ (IsB b (R.map Prod.fst) ∨ ((∀ L, ¬ IsB b L) ∧ R = [])) := by
  obtain ⟨hx, (⟨R, A, c, his, rfl, hg⟩ | ⟨hno, rfl⟩)⟩ := h
  · refine ⟨hx, R, A, c, 0, rfl, hg, ?_, his.1.2.2.1, fun p hp => ⟨(hg.each p hp).good.bk, (hg.each p hp).good.bv, his.1.2.2.2 _ (List.mem_map_of_mem hp)⟩, .inl his⟩
    have := his.1.2.1; rw [List.length_map] at this; exact this
  · exact ⟨hx, [], none, 0, 4, rfl, Got.nil _ _, by simp, fun j a b h => by simp at h, fun p hp => (by cases hp), .inr ⟨hno, rfl⟩⟩
def CutV (L : List Ent) (key : List Nat) (v : Value) (_ : World) : Prop := ∃ n : Nat, Cut L ⟨key, 2147483647, 0, []⟩ n ∧ v = .int .i64 (n : Int)
theorem CutV.mono (L : List Ent) (key : List Nat) : Mono (CutV L key) := fun _ _ _ h _ => h
def CutS (L : List Ent) (key : List Nat) (X : Option Addr) (m c : Nat) (v : Value) (_ : World) : Prop := ∃ n : Nat, Cut L ⟨key, 2147483647, 0, []⟩ n ∧ v = .slice (if c = n then X else X.map (·.add (n * 4))) (m - n) (c - n)
theorem CutS.mono (L : List Ent) (key : List Nat) (X : Option Addr) (m c : Nat) : Mono (CutS L key X m c) := fun _ _ _ h _ => h
end Go.Proofs.YthhgjeeangepaaaGreat
namespace Go.Proofs.YthhgjeeangepaaaGreat
open Go.ChangeShapes Go.WideShapes Go.ChangeAt Go.RowKit Go.Shelf
attribute [local go_sem] Oper.semAt_some
theorem enters_from1 : ∀ args w, (callFunc 105 args).run Tryz.prog w = .ok (.enter 105 args) w := enters_of Tryz.func105 (by kernel_rfl) rfl
def rowV (x : Ent × Hd) : Array Value := #[x.1.at_ x.2]
end Go.Proofs.YthhgjeeangepaaaGreat
namespace Go.Proofs.YthhgjeeangepaaaGreat
open Go.ChangeShapes Go.WideShapes Go.ChangeAt Go.RowKit Go.Shelf
attribute [local go_sem] Oper.semAt_some
end Go.Proofs.YthhgjeeangepaaaGreat
