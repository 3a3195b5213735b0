/- Scopies Iover Sgoes Sfrom Sref, joined. -/
import Derived.Test.YtepaaffebhinlaaDoorOa7

/- copies, From, Level: entries in new memory, gone over. -/
namespace Go.Proofs.YtepaaffebhinlaaDoor
open Go.ChangeShapes Go.WideShapes Go.ChangeAt Go.RowKit Go.Shelf
attribute [local go_sem] Oper.semAt_some

theorem scopies_any (gf : Nat) (caps : Array Value) (w : World) : Calls Tryd.prog 42 #[.func (.func gf) #[] caps] w fun e w' =>
    e = .returned (.func (.func 53) #[] #[.pointer (some ⟨w.heap.size, 0, none⟩)]) ∧ w' = w.alloc (.cells #[.func (.func gf) #[] caps] 44) := by
  go_enter Tryd.func42, Tryd.ntmps42
  go_wp2
  go_ret
  exact ⟨rfl, rfl⟩
theorem enters_copies1 : ∀ args w, (callFunc 53 args).run Tryd.prog w = .ok (.enter 53 args) w := enters_of Tryd.func53 (by kernel_rfl) rfl

theorem Iter.ext {P : Program} {α : Type} {gf : Nat} {lb : Array Value} {len : Nat} {encs : α → Array Value} {Ok : Nat → Nat → α → World → Prop} {C : World → Prop} {w w' : World} (h : Iter P gf lb len encs Ok C w) (hx : Ext w w') : Iter P gf lb len encs Ok C w' :=
  fun m l J Jx W hW => h m l J Jx W (Ext.trans hx hW)
/-- Of the k-th: it, in new memory. -/
def CopOk (L : List Tw) (n₁ k : Nat) (x : Ent × Hd) (A : World) : Prop := ∃ t, L[k]? = some t ∧ x.1 = t.e ∧ Own n₁ x.1.key (.slice x.2.kA x.1.key.length x.2.kc) A ∧ Own n₁ x.1.val (.slice x.2.vA x.1.val.length x.2.vc) A
/-- Between two rounds. -/
structure CopI (J : Nat → Nat → World → Prop) (b0 l : Nat) (n₁ k : Nat) (A : World) : Prop where
  j : J n₁ k A
  box : Boxed A b0 64 (.func (.yield l) #[] #[])
  le : n₁ ≤ A.heap.size

set_option maxRecDepth 100000 in
set_option maxHeartbeats 8000000 in
theorem copies_iter {w : World} {gf bd len N : Nat} {caps : Array Value} {C : World → Prop} {L : List Tw} (hin : Iter Tryd.prog gf caps len rowV (RowOk L N) C w) (hen : ∀ args w, (callFunc gf args).run Tryd.prog w = .ok (.enter gf args) w) (hN : N ≤ w.heap.size)
    (hins : ∀ t ∈ L, InE t.e) (hbd : w.cell? ⟨bd, 0, none⟩ = some (.func (.func gf) #[] caps)) :
    Iter Tryd.prog 53 #[.pointer (some ⟨bd, 0, none⟩)] len rowV (CopOk L) C w := by
  intro mm l J Jx W hx hC hJ hJx h0 hY
  have HIN := Lib.hid hin
  have HEN := Lib.hid hen
  have HNN := Lib.hid hN
  have HINS := Lib.hid hins
  have HC := Lib.hid hC
  have HJ := Lib.hid hJ
  have HJX := Lib.hid hJx
  have H0 := Lib.hid h0
  have HY := Lib.hid hY
  have HXW := Lib.hid hx
  have c1 := ext_cell hx hbd
  have c1a := cell_new c1 (.cells #[.func (.yield l) #[] #[]] 64)
  clear hin hen hN hins hC hJ hJx h0 hY hbd hx
  have hf2 : Fence.wide.fn 38 := trivial
  refine (callsIn_wide (n := 6)).1 ?_
  refine callsIn_of_wp_marks Tryd.func53 rfl trivial ?_
  simp only [Tryd.ntmps53, List.size_toArray, List.length_cons, List.length_nil, Nat.reduceAdd, Nat.reduceSub, Array.replicate_succ, Array.replicate_zero, List.push_toArray, List.append_toArray, List.nil_append, List.cons_append]
  gi_wp2_with fail
  obtain ⟨w1, hw1⟩ : ∃ w1, w1 = W.alloc (.cells #[.func (.yield l) #[] #[]] 64) := ⟨_, rfl⟩
  rw [← hw1]
  have HX1 : Hid (Ext W w1) := by rw [hw1]; exact ext_alloc _ _
  have HZ1 : Hid (w1.heap.size = W.heap.size + 1) := by rw [hw1]; simp [Hid]
  have HB0 : Hid (Boxed w1 W.heap.size 64 (.func (.yield l) #[] #[])) := by rw [hw1]; exact heap_at _ _ rfl
  clear hw1 c1 c1a
  have hchg : ∀ n₁ k A A', w1.heap.size ≤ n₁ → CopI J W.heap.size l n₁ k A → Chg (Btw w1.heap.size n₁) A A' → CopI J W.heap.size l n₁ k A' := fun n₁ k A A' hn hi hc =>
    ⟨HJ.out n₁ k A A' (Nat.le_trans HX1.out.size hn) hi.j (hc.mono fun i _ hb => ⟨Nat.le_trans HX1.out.size hb.1, hb.2⟩), boxed_chg hi.box hc (fun hb => by have := hb.1; have := HZ1.out; omega), Nat.le_trans hi.le hc.size⟩
  have HCHG := Lib.hid hchg
  clear hchg
  refine wpIn_over rfl HEN.out (Iter.ext HIN.out (Ext.trans HXW.out HX1.out)) (fun _ => rfl) (CopI J W.heap.size l) (fun c A => c = .ret ∧ Jx A) (fun n₁ k A h => HC.out n₁ k A h.j) ?hI ?hIx ?h0 ?round ?done ?stop
  case hI => intro n₁ k A A' hn hi hc; exact HCHG.out _ _ _ _ (by omega) hi hc
  case hIx => rintro c A A' ⟨rfl, hj⟩ hc; exact ⟨rfl, HJX.out A A' hj (hc.mono fun i _ (hb : w1.heap.size ≤ i) => Nat.le_trans HX1.out.size hb)⟩
  case h0 => intro A hxA; exact ⟨H0.out A (Ext.trans HX1.out hxA), ext_heap hxA HB0.out, Nat.le_refl _⟩
  case round =>
    rintro l2 n₁ k ⟨e, g⟩ A hl1 hl2 hn hnA hi hk ⟨t, hLk, hxe, hem⟩
    have hxe' : e = t.e := hxe
    subst hxe'
    have hinE := HINS.out t (List.mem_of_getElem? hLk)
    have hNw : N ≤ w1.heap.size := Nat.le_trans HNN.out (Ext.trans HXW.out HX1.out).size
    have HLK := Lib.hid hLk
    have HINE := Lib.hid hinE
    have HEM : Hid (Em A 0 N t.e g) := hem
    have HNW := Lib.hid hNw
    have HI := Lib.hid hi
    have HN := Lib.hid hn
    have HL := Lib.hid (And.intro hl1 hl2)
    have HK := Lib.hid hk
    clear hLk hxe hinE hem hNw hi hn hl1 hl2 hk hnA
    dsimp only [rowV, Ent.at_]
    gi_wp2
    refine ⟨?_, fun A2 hc => ?_⟩
    · exact Step.of_chg (Chg.alloc (S := fun _ => False) _ _) HI.out.le (fun _ _ _ h => h)
    have HBX : Hid (A2.heap[A.heap.size]? = some (.cells #[.slice g.kA t.e.key.length g.kc, .int .i64 t.e.seq, .int .i64 t.e.kind, .slice g.vA t.e.val.length g.vc] 28 (0, 0))) := (hc.block _ (by simp) (by have := HI.out.le; have := HL.out.2; omega)).trans (heap_at _ _ rfl)
    have HI2 := Lib.hid (HCHG.out _ _ _ _ (by have := HN.out; omega) (HCHG.out _ _ _ _ (by have := HN.out; omega) HI.out (Chg.alloc A (.cells #[.slice g.kA t.e.key.length g.kc, .int .i64 t.e.seq, .int .i64 t.e.kind, .slice g.vA t.e.val.length g.vc] 28))) (hc.mono fun i _ e => ⟨by have := HL.out.1; omega, by have := HL.out.2; omega⟩))
    have q0 := HI2.out.box.cell
    have c0 := cell_of (v := .slice g.kA t.e.key.length g.kc) HBX.out (k := 0) rfl
    have c1 := cell_of (v := .int .i64 t.e.seq) HBX.out (k := 1) rfl
    have c2 := cell_of (v := .int .i64 t.e.kind) HBX.out (k := 2) rfl
    have c3 := cell_of (v := .slice g.vA t.e.val.length g.vc) HBX.out (k := 3) rfl
    have hNA : N ≤ A.heap.size := by have := HNW.out; have := HN.out; have := HI.out.le; omega
    have HE2 : Hid (Em A2 0 N t.e g) := (HEM.out.below (ext_alloc A (.cells #[.slice g.kA t.e.key.length g.kc, .int .i64 t.e.seq, .int .i64 t.e.kind, .slice g.vA t.e.val.length g.vc] 28)) hNA).keepC (by simp; omega) hc (fun i hi => .inr (by have := HL.out.1; have := HNW.out; omega))
    have HSZ2 : Hid (A.heap.size ≤ A2.heap.size) := by have := hc.size; simp at this; exact Nat.le_trans (Nat.le_succ _) this
    have HL2 : Hid (n₁ ≤ A2.heap.size) := Nat.le_trans HI.out.le HSZ2.out
    have HN2 : Hid (N ≤ A2.heap.size) := Nat.le_trans hNA HSZ2.out
    clear hc hNA
    have HCY := Lib.hid (copy_any (w := A2.drew) (show Em A2.drew 0 N t.e g from HE2.out.below (Ext.drew A2) HN2.out) HN2.out (by have := HINE.out.s; omega) (by have := HINE.out.s; omega))
    unfold Ent.at_ at HCY
    gi_wp2_with fail
    have HMIX : Tryd.prog.follows .mixedOrders = true := by kernel_rfl
    gi_region_with_o (first
     | (gi_at_call 38
        go_loud (
         refine CallsIn.mono (CallsIn.inRound l2 (callsIn_wide.2 HCY.out)) ?_
         rintro e A3 ⟨hx3, g3, rfl, ok, ov⟩
         have HI3 := Lib.hid (HCHG.out n₁ k A2 A3 (by have := HN.out; omega) HI2.out ((Chg.drew A2).trans (Chg.of_ext hx3)))
         have HRD := HY.out n₁ k (t.e, g3) A3 (by have := HN.out; have := HZ1.out; omega) (Nat.le_trans HL2.out hx3.size) HI3.out.j HK.out ⟨t, HLK.out, rfl, ok.base HL2.out, ov.base HL2.out⟩
         obtain ⟨fn, tmps, assign, body, hy, hR⟩ := HRD
         dsimp only [rowV, Ent.at_] at hy
         unfold Ent.at_
         have HR := Lib.hid (roundIn_any (m' := 3) hR)
         have HB3 := Lib.hid hx3
         have q3 := HI3.out.box.cell
         clear hR ok ov hx3))
     | (refine RoundIn.mono (F := Fence.wide.inRound l2) (n := 3) HR.out ?_
        go_loud (
         rintro e A4 ⟨hst, hh⟩
         obtain ⟨gb, rfl, hj⟩ : ∃ gb : Bool, e = .returned (.bool gb) ∧ Hid (match gb with | true => J n₁ (k + 1) A4 | false => Jx A4) := by rcases hh with ⟨rfl, hj⟩ | ⟨rfl, hj⟩ <;> exact ⟨_, rfl, hj⟩
         have HST := Lib.hid hst
         clear hst hh)))
    all_goals cases gb
    all_goals gi_wp2_with fail
    all_goals first
      | (have hst := HST.out
         have hs1 := HX1.out.size
         have hn := HN.out
         have hz := HZ1.out
         have hs23 : Step w1.heap.size n₁ A2 A3 := Step.of_chg (S := fun _ => False) ((Chg.drew A2).trans (Chg.of_ext HB3.out)) HL2.out (fun _ _ _ h => h)
         have hs34 : Step w1.heap.size n₁ A3 A4 := ⟨fun i h1 h2 => hst.stay i (by omega) h2, hst.os, hst.tape, hst.output, hst.size⟩
         have hle : n₁ ≤ A3.heap.size := HI3.out.le
         first
           | exact ⟨hs23.trans hs34, ⟨hj.out, (hst.stay W.heap.size (Nat.le_refl _) (by omega)).trans HI3.out.box, Nat.le_trans hle hst.size⟩⟩
           | exact ⟨hs23.trans hs34, rfl, hj.out⟩)
  case done =>
    rintro D' n₁ W' hDl hDn hn hi hD
    have HDL := Lib.hid (And.intro hDl hDn)
    have HI := Lib.hid hi
    have HN := Lib.hid hn
    have HDD := Lib.hid hD
    clear hDl hDn hn hi hD
    gi_wp2
    refine ⟨by simp, .inl ⟨_, _, rfl, run_takeDeferred HDD.out, ?_⟩⟩
    refine ⟨_, results_none rfl _ _ _, ⟨⟨_, rfl⟩, .inl ⟨n₁, by have := HN.out; have := HZ1.out; omega, ?_⟩⟩⟩
    exact HJ.out n₁ _ _ _ (by have := HN.out; have := HZ1.out; omega) HI.out.j ((putObj_chg W' D' _).mono fun i _ e => ⟨by have := HDL.out.1; have := HZ1.out; omega, by have := HDL.out.2; omega⟩)
  case stop =>
    rintro D' c W' hDl ⟨rfl, hjx⟩ hD
    have HDL := Lib.hid hDl
    have HJX2 := Lib.hid hjx
    have HDD := Lib.hid hD
    clear hDl hjx hD
    gi_wp2
    refine ⟨by simp, .inl ⟨_, _, rfl, run_takeDeferred HDD.out, ?_⟩⟩
    refine ⟨_, results_none rfl _ _ _, ⟨⟨_, rfl⟩, .inr ?_⟩⟩
    exact HJX.out _ _ HJX2.out ((putObj_chg W' D' _).mono fun i _ e => by have := HDL.out; have := HZ1.out; show W.heap.size ≤ i; omega)
end Go.Proofs.YtepaaffebhinlaaDoor

/- The reference's Same; the law's going over what Latest tells. -/
namespace Go.Proofs.YtepaaffebhinlaaDoor
open Go.RowKit Go.Shelf Go.ChangeShapes Go.WideShapes Go.ChangeAt

set_option maxRecDepth 100000 in
theorem cv_any {w : World} {lo hi : Nat} {A : Option Addr} {c : Nat} {l : List Nat} (h : Bs w lo hi (.slice A l.length c) l) : (convert 25 9 (.slice A l.length c)).run Tryd.prog w = .ok (.string (tx l)) w := by
  obtain ⟨A', c', he, _, _, _, hy⟩ := h
  injection he with e1 _ e3
  subst e1 e3
  exact run_text (P := Tryd.prog) w 25 5 Tryd.underlying25 Tryd.underlying5 hy l.length c rfl 9 Tryd.underlying9
attribute [local go_sem] Oper.semAt_some

set_option maxHeartbeats 2000000 in
theorem rsame_any {w : World} {lo hi lo2 hi2 : Nat} {a b : Ent} {g h : Hd} (hu : Em w lo hi a g) (hv : Em w lo2 hi2 b h) (h1 : hi ≤ w.heap.size) (h2 : hi2 ≤ w.heap.size) :
    Calls Tryd.prog 22 #[a.at_ g, b.at_ h] w fun e w' => ∃ z : Bool, (z = true ↔ a = b) ∧ e = .returned (.bool z) ∧ Ext w w' := by
  obtain ⟨w1, hw1⟩ : ∃ w1, w1 = (w.alloc (.cells #[.slice g.kA a.key.length g.kc, .int .i64 a.seq, .int .i64 a.kind, .slice g.vA a.val.length g.vc] 28)).alloc (.cells #[.slice h.kA b.key.length h.kc, .int .i64 b.seq, .int .i64 b.kind, .slice h.vA b.val.length h.vc] 28) := ⟨_, rfl⟩
  have HX : Hid (Ext w w1) := by rw [hw1]; exact Ext.trans (ext_alloc _ _) (ext_alloc _ _)
  have cvn : ∀ (X : Option Addr) (c : Nat) (l : List Nat) (lo hi : Nat), hi ≤ w.heap.size → Bs w lo hi (.slice X l.length c) l → (convert 25 9 (.slice X l.length c)).run Tryd.prog w1 = .ok (.string (tx l)) w1 := fun X c l lo hi hh hb => cv_any (hb.below HX.out hh)
  have v1 := cvn _ _ _ _ _ h1 hu.k
  have v2 := cvn _ _ _ _ _ h2 hv.k
  have v3 := cvn _ _ _ _ _ h1 hu.v
  have v4 := cvn _ _ _ _ _ h2 hv.v
  have t1 := tx_same hu.bk hv.bk
  have t2 := tx_same hu.bv hv.bv
  rw [hw1] at v1 v2 v3 v4
  clear cvn hu hv h1 h2
  unfold Ent.at_
  rw [hw1] at HX
  clear hw1
  by_cases hk : a.key = b.key
  · rw [decide_eq_true hk] at t1
    by_cases hs : a.seq = b.seq
    · have d1 : (a.seq == b.seq) = true := by simp [hs]
      by_cases hd : a.kind = b.kind
      · have d2 : (a.kind == b.kind) = true := by simp [hd]
        obtain ⟨z, hz⟩ : ∃ z, z = decide (a.val = b.val) := ⟨_, rfl⟩
        rw [← hz] at t2
        have HZ : Hid (z = true ↔ a = b) := by rw [hz]; unfold Hid; rw [decide_eq_true_eq]; exact ⟨fun h => Ent.ext hk hs hd h, fun h => by rw [h]⟩
        clear hk hs hd hz
        go_enter Tryd.func22, Tryd.ntmps22
        go_wp2_with fail
        go_ret
        exact ⟨z, HZ.out, by cases z <;> rfl, HX.out⟩
      · have d2 : (a.kind == b.kind) = false := by simp [hd]
        have HZ : Hid (false = true ↔ a = b) := ⟨fun h => (by cases h), fun h => absurd (by rw [h]) hd⟩
        clear hk hs hd t2
        go_enter Tryd.func22, Tryd.ntmps22
        go_wp2_with fail
        go_ret
        exact ⟨false, HZ.out, rfl, HX.out⟩
    · have d1 : (a.seq == b.seq) = false := by simp [hs]
      have HZ : Hid (false = true ↔ a = b) := ⟨fun h => (by cases h), fun h => absurd (by rw [h]) hs⟩
      clear hk hs t2
      go_enter Tryd.func22, Tryd.ntmps22
      go_wp2_with fail
      go_ret
      exact ⟨false, HZ.out, rfl, HX.out⟩
  · rw [decide_eq_false hk] at t1
    have HZ : Hid (false = true ↔ a = b) := ⟨fun h => (by cases h), fun h => absurd (by rw [h]) hk⟩
    clear hk t2
    go_enter Tryd.func22, Tryd.ntmps22
    go_wp2_with fail
    go_ret
    exact ⟨false, HZ.out, rfl, HX.out⟩

theorem results_cell_bool {fn : Func} {p : Tmp} (h : fn.results = #[.cell p 4]) (tmps : Array Value) (w : World) (g : Nat) (z : Bool) (hp : tmps.getD p undef = .pointer (some ⟨g, 0, none⟩)) (hc : w.cell? ⟨g, 0, none⟩ = some (.bool z)) :
    (results fn tmps).run Tryd.prog w = .ok (.bool z) w := by
  simp only [results, h]
  have hp' : tmps[p]?.getD undef = .pointer (some ⟨g, 0, none⟩) := by simpa using hp
  simp [Sem.run_bind, hp', go_sem, hc]
theorem SeenV.stay {B sb : Nat} {v : Value} {R : List (Ent × Hd)} {A A' : World} (h : SeenV B sb v R A) (hs : Stay B A.heap.size A A') (hb : B ≤ sb) : SeenV B sb v R A' :=
  ⟨(hs sb hb h.box.lt).trans h.box, rowN_kept h.row fun g hg => hs g (rowN_lt h.row g hg).1 (rowN_lt h.row g hg).2.1,
    fun p hp => ⟨row_kept (h.each p hp).k fun g hg => hs g (row_lt (h.each p hp).k g hg).1 (row_lt (h.each p hp).k g hg).2, row_kept (h.each p hp).v fun g hg => hs g (row_lt (h.each p hp).v g hg).1 (row_lt (h.each p hp).v g hg).2, (h.each p hp).good⟩⟩

/-- Between two rounds. -/
structure OverI (w w3 : World) (X : Option Addr) (N c : Nat) (n₁ k : Nat) (A : World) : Prop where
  stay : Stay (w.heap.size + 4) w3.heap.size w3 A
  below : Below w.heap.size w A
  num : Boxed A (w.heap.size + 3) 3 (.int .i64 (k : Int))
  res : Boxed A (w.heap.size + 2) 4 (.bool false)
  most : Boxed A (w.heap.size + 1) 3 (.int .i64 0)
  want : Boxed A w.heap.size 22 (.slice X N c)
  z3 : w3.heap.size ≤ A.heap.size
  z1 : n₁ ≤ A.heap.size

end Go.Proofs.YtepaaffebhinlaaDoor

/- goes: a law goes over entries. -/
namespace Go.Proofs.YtepaaffebhinlaaDoor
open Go.ChangeShapes Go.WideShapes Go.ChangeAt Go.RowKit Go.Shelf
attribute [local go_sem] Oper.semAt_some

theorem copies_some (g : Nat) (w : World) : (binOp .eql 44 (.func (.func 53) #[] #[.pointer (some ⟨g, 0, none⟩)]) .nilFunc).run Tryd.prog w = .ok (.bool false) w := by kernel_rfl
/-- Between two rounds. -/
structure GoesI (w : World) (X : Option Addr) (N c : Nat) (most : Int) (n₁ k : Nat) (A : World) : Prop where
  below : Below w.heap.size w A
  num : Boxed A (w.heap.size + 3) 3 (.int .i64 (k : Int))
  res : Boxed A (w.heap.size + 2) 4 (.bool false)
  most : Boxed A (w.heap.size + 1) 3 (.int .i64 most)
  want : Boxed A w.heap.size 22 (.slice X N c)
  z1 : n₁ ≤ A.heap.size

set_option maxRecDepth 100000 in
set_option maxHeartbeats 8000000 in
theorem goes_any {w : World} {bd lo2 hi2 c2 : Nat} {X : Option Addr} {L2 : List (Ent × Hd)} {L : List Tw} {C : World → Prop} {most : Int} (hseq : Iter Tryd.prog 53 #[.pointer (some ⟨bd, 0, none⟩)] L.length rowV (CopOk L) C w) (hC : ∀ A, Below w.heap.size w A → C A) (hins : ∀ t ∈ L, InE t.e)
    (h2 : Es w lo2 hi2 X L2) (hhi2 : hi2 ≤ w.heap.size) (hl2 : L2.length ≤ 1000000000000) (hfit : L.map Tw.e = L2.map Prod.fst) :
    Calls Tryd.prog 17 #[.func (.func 53) #[] #[.pointer (some ⟨bd, 0, none⟩)], .slice X L2.length c2, .int .i64 most] w fun e w' => e = .returned (.bool true) ∧ Below w.heap.size w w' := by
  obtain ⟨w1, hw1⟩ : ∃ w1, w1 = (((w.alloc (.cells #[.slice X L2.length c2] 22)).alloc (.cells #[.int .i64 most] 3)).alloc (.cells #[.bool false] 4)).alloc (.cells #[.int .i64 0] 3) := ⟨_, rfl⟩
  have HX1 : Hid (Ext w w1) := by rw [hw1]; exact Ext.trans (Ext.trans (Ext.trans (ext_alloc _ _) (ext_alloc _ _)) (ext_alloc _ _)) (ext_alloc _ _)
  have HZ1 : Hid (w1.heap.size = w.heap.size + 4) := by rw [hw1]; simp [Hid]
  have HB0 : Hid (Boxed w1 w.heap.size 22 (.slice X L2.length c2)) := by rw [hw1]; exact ext_heap (Ext.trans (Ext.trans (ext_alloc _ _) (ext_alloc _ _)) (ext_alloc _ _)) (heap_at _ _ rfl)
  have HB1 : Hid (Boxed w1 (w.heap.size + 1) 3 (.int .i64 most)) := by rw [hw1]; exact ext_heap (Ext.trans (ext_alloc _ _) (ext_alloc _ _)) (heap_at _ _ (by simp))
  have HB2 : Hid (Boxed w1 (w.heap.size + 2) 4 (.bool false)) := by rw [hw1]; exact ext_heap (ext_alloc _ _) (heap_at _ _ (by simp))
  have HB3 : Hid (Boxed w1 (w.heap.size + 3) 3 (.int .i64 0)) := by rw [hw1]; exact heap_at _ _ (by simp)
  have HSEQ := Lib.hid hseq
  have HC := Lib.hid hC
  have HINS := Lib.hid hins
  have HE2 := Lib.hid h2
  have HHI2 := Lib.hid hhi2
  have HL2 := Lib.hid hl2
  have HFIT := Lib.hid hfit
  have hlen : L.length = L2.length := by have := congrArg List.length hfit; simpa using this
  have HLEN := Lib.hid hlen
  have hlI : (L2.length : Int) ≤ 1000000000000 := by omega
  have hfn := copies_some bd
  clear hseq hC hins h2 hhi2 hl2 hfit hlen
  have hf2 : Fence.wide.fn 22 := trivial
  refine (callsIn_wide (n := 6)).1 ?_
  refine callsIn_of_wp_marks Tryd.func17 rfl trivial ?_
  simp only [Tryd.ntmps17, List.size_toArray, List.length_cons, List.length_nil, Nat.reduceAdd, Nat.reduceSub, Array.replicate_succ, Array.replicate_zero, List.push_toArray, List.append_toArray, List.nil_append, List.cons_append]
  gi_wp2_with fail
  rw [← hw1]
  clear hw1 hfn
  refine wpIn_over rfl enters_copies1 (Iter.ext HSEQ.out HX1.out) (fun _ => rfl) (GoesI w X L2.length c2 most) (fun c A => c = .ret ∧ Boxed A (w.heap.size + 2) 4 (.bool true) ∧ Below w.heap.size w A) (fun _ _ _ h => HC.out _ h.below) ?hI ?hIx ?h0 ?round ?done ?stop
  case hI =>
    intro n₁ k A1 A2 hn hi hc
    have z1 := HZ1.out
    exact ⟨hi.below.trans (hc.below (fun i hb => by have := hb.1; omega) hi.below.size), boxed_chg hi.num hc (fun hb => by have := hb.1; omega), boxed_chg hi.res hc (fun hb => by have := hb.1; omega),
      boxed_chg hi.most hc (fun hb => by have := hb.1; omega), boxed_chg hi.want hc (fun hb => by have := hb.1; omega), Nat.le_trans hi.z1 hc.size⟩
  case hIx =>
    rintro c A1 A2 ⟨rfl, hb, hbl⟩ hc
    have z1 := HZ1.out
    exact ⟨rfl, boxed_chg hb hc (fun h => by have h : w1.heap.size ≤ _ := h; omega), hbl.trans (hc.below (fun i h => by have h : w1.heap.size ≤ i := h; omega) hbl.size)⟩
  case h0 =>
    intro A1 hx
    exact ⟨Ext.trans HX1.out hx, ext_heap hx HB3.out, ext_heap hx HB2.out, ext_heap hx HB1.out, ext_heap hx HB0.out, Nat.le_refl _⟩
  case round =>
    rintro l2 n₁ k ⟨e, g⟩ A1 hl1 hl2 hn hnA hi hk ⟨p, hp, he, hmk, hmv⟩
    have he' : e = p.e := he
    subst he'
    have HINE := Lib.hid (HINS.out p (List.mem_of_getElem? hp))
    have HMK := Lib.hid hmk
    have HMV := Lib.hid hmv
    have HI1 := Lib.hid hi
    have HN1 := Lib.hid hn
    have HL12 := Lib.hid (And.intro hl1 hl2)
    have HK1 := Lib.hid hk
    obtain ⟨q, hq⟩ : ∃ q, L2[k]? = some q := ⟨_, List.getElem?_eq_getElem (by have := HLEN.out; omega)⟩
    have heq : p.e = q.1 := by
      have h1 := congrArg (fun l => l[k]?) HFIT.out
      simp only [List.getElem?_map, hp, hq, Option.map_some] at h1
      injection h1 with h1
    have HQ := Lib.hid hq
    have HEQ := Lib.hid heq
    obtain ⟨e, he⟩ : ∃ e, e = p.e := ⟨_, rfl⟩
    rw [← he] at HINE HMK HMV HEQ ⊢
    clear hl1 hl2 hn hnA hi hk hp hmk hmv hq heq he
    dsimp only at HMK HMV
    dsimp only [rowV, Ent.at_]
    gi_wp2
    obtain ⟨A2, hA2⟩ : ∃ A2, A2 = A1.alloc (.cells #[.slice g.kA e.key.length g.kc, .int .i64 e.seq, .int .i64 e.kind, .slice g.vA e.val.length g.vc] 28) := ⟨_, rfl⟩
    rw [← hA2]
    have HX2 : Hid (Ext A1 A2) := by rw [hA2]; exact ext_alloc _ _
    have HBE : Hid (A2.heap[A1.heap.size]? = some (.cells #[.slice g.kA e.key.length g.kc, .int .i64 e.seq, .int .i64 e.kind, .slice g.vA e.val.length g.vc] 28 (0, 0))) := by rw [hA2]; exact heap_at _ _ rfl
    clear hA2
    refine ⟨Step.of_chg (S := fun _ => False) (Chg.of_ext HX2.out) HI1.out.z1 (fun _ _ _ h => h), fun A3 hc => ?_⟩
    have HCH : Hid (Chg (fun i => i = l2) A1 A3) := (Chg.of_ext HX2.out).trans hc
    have HI3 : Hid (GoesI w X L2.length c2 most n₁ k A3) := by
      have hi := HI1.out
      have h12 := HL12.out
      have hc := HCH.out
      have z1 := HZ1.out
      exact ⟨hi.below.trans (hc.below (fun i hb => by omega) hi.below.size), boxed_chg hi.num hc (fun hb => by omega), boxed_chg hi.res hc (fun hb => by omega),
        boxed_chg hi.most hc (fun hb => by omega), boxed_chg hi.want hc (fun hb => by omega), Nat.le_trans hi.z1 hc.size⟩
    have HM3 : Hid (Em A3 0 A3.heap.size e g) := by
      obtain ⟨a1, a2, a3, a4, a5⟩ := HINE.out.s
      have k3 : Own n₁ e.key (.slice g.kA e.key.length g.kc) A3 := row_chg HMK.out HCH.out (fun i h1 h2 => by have := HL12.out.2; omega)
      have v3 : Own n₁ e.val (.slice g.vA e.val.length g.vc) A3 := row_chg HMV.out HCH.out (fun i h1 h2 => by have := HL12.out.2; omega)
      exact k3.em v3 HINE.out.bk HINE.out.bv (by omega) (by omega) (by rcases a5 with ⟨a, _⟩ | ⟨a, _⟩ <;> omega) (by rcases a5 with ⟨a, _⟩ | ⟨a, _⟩ <;> omega)
    have HB3' : Hid (A3.heap[A1.heap.size]? = some (.cells #[.slice g.kA e.key.length g.kc, .int .i64 e.seq, .int .i64 e.kind, .slice g.vA e.val.length g.vc] 28 (0, 0))) :=
      (hc.block _ (Array.getElem?_eq_some_iff.1 HBE.out).1 (fun e => by have := HI1.out.z1; have := HL12.out.2; omega)).trans HBE.out
    have HE3 := Lib.hid (HE2.out.below HI3.out.below HHI2.out)
    obtain ⟨b, o, rfl⟩ := HE3.out.base (by have := (List.getElem?_eq_some_iff.1 HQ.out).1; omega)
    obtain ⟨d0, d1, d2, d3⟩ := HE3.out.get HQ.out
    have HRS : Hid (∀ u, Ext A3 u → Calls Tryd.prog 22 #[.agg #[.slice g.kA e.key.length g.kc, .int .i64 e.seq, .int .i64 e.kind, .slice g.vA e.val.length g.vc], .agg #[.slice q.2.kA q.1.key.length q.2.kc, .int .i64 q.1.seq, .int .i64 q.1.kind, .slice q.2.vA q.1.val.length q.2.vc]] u fun x w' => x = .returned (.bool true) ∧ Ext u w') := fun u hu => by
      refine (rsame_any (HM3.out.below hu (Nat.le_refl _)) (((HE3.out.below hu (Nat.le_trans HHI2.out HI3.out.below.size)).each q (List.mem_of_getElem? HQ.out))) hu.size (Nat.le_trans (Nat.le_trans HHI2.out HI3.out.below.size) hu.size)).mono ?_
      rintro x w' ⟨z, hz, rfl, hx⟩
      have : z = true := hz.2 HEQ.out
      subst this
      exact ⟨rfl, hx⟩
    have b0 := HI3.out.num.cell
    have f0 := HI3.out.num.frozen
    have b1 := HI3.out.want.cell
    have b2 := HI3.out.most.cell
    have e0 := cell_of HB3'.out (k := 0) rfl
    have e1 := cell_of HB3'.out (k := 1) rfl
    have e2 := cell_of HB3'.out (k := 2) rfl
    have e3 := cell_of HB3'.out (k := 3) rfl
    have hkl : k < L2.length := (List.getElem?_eq_some_iff.1 HQ.out).1
    have dk : decide ((L2.length : Int) ≤ (k : Int)) = false := by simp; omega
    have dkn : decide (L2.length ≤ k) = false := by simp; omega
    have n1 : (0 : Int) ≤ (k : Int) := by omega
    have n2 : (k : Int) < (L2.length : Int) := by omega
    have HKL := Lib.hid hkl
    have HMIX : Tryd.prog.follows .mixedOrders = true := by kernel_rfl
    clear hc hkl
    gi_wp2
    refine flow_in HMIX (by kernel_rfl) (fun _ _ h => h) [Is (.int .i64 (k : Int)), Is (.slice (some ⟨b, o, none⟩) L2.length c2), Is (.int .i64 (L2.length : Int)), Is (.bool false), Is (.bool false), Is (.agg #[.slice g.kA e.key.length g.kc, .int .i64 e.seq, .int .i64 e.kind, .slice g.vA e.val.length g.vc]), Is (.slice (some ⟨b, o, none⟩) L2.length c2), Is (.int .i64 (k : Int)), Is (.pointer (some ⟨b, o + k * 4, none⟩)), Is (.agg #[.slice q.2.kA q.1.key.length q.2.kc, .int .i64 q.1.seq, .int .i64 q.1.kind, .slice q.2.vA q.1.val.length q.2.vc]), Is (.bool true), Is (.bool false), Is (.bool false)] (by kernel_rfl) (by kernel_rfl) ?mono (fun f1 => ?obl) ?fin
    case mono =>
      simp only [List.forall_mem_cons, List.not_mem_nil, false_imp_iff, implies_true, and_true]
      exact ⟨.is _, .is _, .is _, .is _, .is _, .is _, .is _, .is _, .is _, .is _, .is _, .is _, .is _⟩
    case fin =>
      intro g1 u hu hg
      simp only [puts, Act.put, List.setIfInBounds_toArray, List.set_cons_zero, List.set_cons_succ]
      have h12 : g1 12 = .bool false := hg 12 (by decide)
      rw [h12]
      have HU : Hid (Ext A3 u) := Ext.trans (Ext.drew A3) hu
      have b0 := ext_cell HU.out b0
      have b2 := ext_cell HU.out b2
      have f0 : u.frozen? ⟨w.heap.size + 3, 0, none⟩ = false := Boxed.frozen (ext_heap HU.out HI3.out.num)
      have hres := ext_heap HU.out HI3.out.res
      have r0 := Boxed.cell hres
      have rf := Boxed.frozen hres
      have HRES := Lib.hid hres
      clear h12 hg hu e0 e1 e2 e3 d0 d1 d2 d3 hres
      have hi := HI3.out
      have hnum : Boxed u (w.heap.size + 3) 3 (.int .i64 (k : Int)) := ext_heap HU.out hi.num
      have HNUM := Lib.hid hnum
      clear hi hnum
      by_cases hm : (k : Int) + 1 = most
      · have dm : ((k : Int) + 1 == most) = true := by simpa using hm
        clear hm
        gi_wp2
        have hi := HI3.out
        have z1 := HZ1.out
        have hS : Chg (fun i => i = w.heap.size + 3 ∨ i = w.heap.size + 2) A3 ((u.setCell ⟨w.heap.size + 3, 0, none⟩ (.int .i64 ((k : Int) + 1))).setCell ⟨w.heap.size + 2, 0, none⟩ (.bool true)) := ((Chg.of_ext HU.out).trans (Chg.setCell _ _ _ (.inl rfl))).trans (Chg.setCell _ _ _ (.inr rfl))
        have hb2 : Boxed (u.setCell ⟨w.heap.size + 3, 0, none⟩ (.int .i64 ((k : Int) + 1))) (w.heap.size + 2) 4 (.bool false) := (Below.heap_setCell _ _ _ _ (by show w.heap.size + 2 ≠ w.heap.size + 3; omega)).trans HRES.out
        exact ⟨Step.of_chg hS hi.z1 (fun i h1 h2 h3 => by omega), rfl, hb2.set _, hi.below.trans (hS.below (fun i hb => by omega) hi.below.size)⟩
      · have dm : ((k : Int) + 1 == most) = false := by simpa using hm
        clear hm
        gi_wp2
        have hi := HI3.out
        have hS : Chg (fun i => i = w.heap.size + 3) A3 (u.setCell ⟨w.heap.size + 3, 0, none⟩ (.int .i64 ((k : Int) + 1))) := (Chg.of_ext HU.out).trans (Chg.setCell _ _ _ rfl)
        have z1 := HZ1.out
        exact ⟨Step.of_chg hS hi.z1 (fun i h1 h2 h3 => by omega), hi.below.trans (hS.below (fun i hb => by omega) hi.below.size), HNUM.out.set _, boxed_chg hi.res hS (fun hb => by omega),
          boxed_chg hi.most hS (fun hb => by omega), boxed_chg hi.want hS (fun hb => by omega), Nat.le_trans hi.z1 hS.size⟩
    case obl =>
      refine ⟨fun u hu hd => ?_, ?_⟩
      · have hu2 := Ext.trans (Ext.drew A3) hu
        have q1 := ext_cell hu2 b0
        go_simp
        exact ⟨Ext.refl _, rfl⟩
      refine ⟨fun u hu hd => ?_, ?_⟩
      · simp only [Act.put, List.setIfInBounds_toArray, List.set_cons_zero, List.set_cons_succ]
        have hu2 := Ext.trans (Ext.drew A3) hu
        have q1 := ext_cell hu2 b1
        go_simp
        exact ⟨Ext.refl _, rfl⟩
      refine ⟨fun u hu hd => ?_, ?_⟩
      · simp only [Act.put, List.setIfInBounds_toArray, List.set_cons_zero, List.set_cons_succ]
        have e1 : f1 1 = (.slice (some ⟨b, o, none⟩) L2.length c2) := hd 1 (by kernel_rfl)
        go_simp
        exact ⟨Ext.refl _, rfl⟩
      refine ⟨fun u hu hd => ?_, ?_⟩
      · simp only [Act.put, List.setIfInBounds_toArray, List.set_cons_zero, List.set_cons_succ]
        have e0 : f1 0 = (.int .i64 (k : Int)) := hd 0 (by kernel_rfl)
        have e2 : f1 2 = (.int .i64 (L2.length : Int)) := hd 2 (by kernel_rfl)
        go_simp
        exact ⟨Ext.refl _, rfl⟩
      refine ⟨fun u hu hd => ?_, ?_⟩
      · simp only [Act.put, List.setIfInBounds_toArray, List.set_cons_zero, List.set_cons_succ]
        have e3 : f1 3 = (.bool false) := hd 3 (by kernel_rfl)
        go_simp
        exact ⟨Ext.refl _, rfl⟩
      refine ⟨fun u hu hd => ?_, ?_⟩
      · simp only [Act.put, List.setIfInBounds_toArray, List.set_cons_zero, List.set_cons_succ]
        have e4' : f1 4 = .bool false := hd 4 (by kernel_rfl)
        have hu2 := Ext.trans (Ext.drew A3) hu
        have q0 := ext_cell hu2 e0
        have q1 := ext_cell hu2 e1
        have q2 := ext_cell hu2 e2
        have q3 := ext_cell hu2 e3
        go_simp
        exact ⟨Ext.refl _, rfl⟩
      refine ⟨fun u hu hd => ?_, ?_⟩
      · simp only [Act.put, List.setIfInBounds_toArray, List.set_cons_zero, List.set_cons_succ]
        have e4' : f1 4 = .bool false := hd 4 (by kernel_rfl)
        have hu2 := Ext.trans (Ext.drew A3) hu
        have q1 := ext_cell hu2 b1
        go_simp
        exact ⟨Ext.refl _, rfl⟩
      refine ⟨fun u hu hd => ?_, ?_⟩
      · simp only [Act.put, List.setIfInBounds_toArray, List.set_cons_zero, List.set_cons_succ]
        have e4' : f1 4 = .bool false := hd 4 (by kernel_rfl)
        have hu2 := Ext.trans (Ext.drew A3) hu
        have q1 := ext_cell hu2 b0
        go_simp
        exact ⟨Ext.refl _, rfl⟩
      refine ⟨fun u hu hd => ?_, ?_⟩
      · simp only [Act.put, List.setIfInBounds_toArray, List.set_cons_zero, List.set_cons_succ]
        have e4' : f1 4 = .bool false := hd 4 (by kernel_rfl)
        have e6 : f1 6 = (.slice (some ⟨b, o, none⟩) L2.length c2) := hd 6 (by kernel_rfl)
        have e7 : f1 7 = (.int .i64 (k : Int)) := hd 7 (by kernel_rfl)
        go_simp
        exact ⟨Ext.refl _, rfl⟩
      refine ⟨fun u hu hd => ?_, ?_⟩
      · simp only [Act.put, List.setIfInBounds_toArray, List.set_cons_zero, List.set_cons_succ]
        have e4' : f1 4 = .bool false := hd 4 (by kernel_rfl)
        have e8 : f1 8 = (.pointer (some ⟨b, o + k * 4, none⟩)) := hd 8 (by kernel_rfl)
        have hu2 := Ext.trans (Ext.drew A3) hu
        have q0 := ext_cell hu2 d0
        have q1 := ext_cell hu2 d1
        have q2 := ext_cell hu2 d2
        have q3 := ext_cell hu2 d3
        go_simp
        exact ⟨Ext.refl _, rfl⟩
      refine ⟨fun u hu hd => ?_, ?_⟩
      · simp only [Act.put, List.setIfInBounds_toArray, List.set_cons_zero, List.set_cons_succ]
        have e4' : f1 4 = .bool false := hd 4 (by kernel_rfl)
        have e5 : f1 5 = (.agg #[.slice g.kA e.key.length g.kc, .int .i64 e.seq, .int .i64 e.kind, .slice g.vA e.val.length g.vc]) := hd 5 (by kernel_rfl)
        have e9 : f1 9 = (.agg #[.slice q.2.kA q.1.key.length q.2.kc, .int .i64 q.1.seq, .int .i64 q.1.kind, .slice q.2.vA q.1.val.length q.2.vc]) := hd 9 (by kernel_rfl)
        have hu2 := Ext.trans (Ext.drew A3) hu
        go_simp
        refine (HRS.out u hu2).mono ?_
        rintro x w9 ⟨rfl, hx9⟩
        exact ⟨_, rfl, hx9, rfl⟩
      refine ⟨fun u hu hd => ?_, ?_⟩
      · simp only [Act.put, List.setIfInBounds_toArray, List.set_cons_zero, List.set_cons_succ]
        have e4' : f1 4 = .bool false := hd 4 (by kernel_rfl)
        have e10 : f1 10 = (.bool true) := hd 10 (by kernel_rfl)
        go_simp
        exact ⟨Ext.refl _, rfl⟩
      refine ⟨fun u hu hd => ?_, ?_⟩
      · simp only [Act.put, List.setIfInBounds_toArray, List.set_cons_zero, List.set_cons_succ]
        have e4' : f1 4 = .bool false := hd 4 (by kernel_rfl)
        have e11 : f1 11 = (.bool false) := hd 11 (by kernel_rfl)
        go_simp
        exact ⟨Ext.refl _, rfl⟩
      trivial
  case done =>
    rintro D' n₁ W' hDl hDn hn hi hD
    rw [HLEN.out] at hi
    have HDL := Lib.hid (And.intro hDl hDn)
    have HDD := Lib.hid hD
    have HI := Lib.hid hi
    have q0 := hi.num.cell
    have q1 := hi.want.cell
    have q2 := hi.res.cell
    have f2 := hi.res.frozen
    clear hDl hDn hn hi hD
    gi_wp2
    have hne : D' ≠ w.heap.size + 2 := by have h1 := HDL.out; have h2 := HZ1.out; omega
    have HD2 : Hid ((W'.setCell ⟨w.heap.size + 2, 0, none⟩ (.bool true)).heap[D']? = some (.deferred (some []))) := (Below.heap_setCell _ _ _ _ hne).trans HDD.out
    have HBR : Hid (Boxed (W'.setCell ⟨w.heap.size + 2, 0, none⟩ (.bool true)) (w.heap.size + 2) 4 (.bool true)) := HI.out.res.set _
    have HBW : Hid (Below w.heap.size w (W'.setCell ⟨w.heap.size + 2, 0, none⟩ (.bool true))) := Below.setCell HI.out.below (show w.heap.size ≤ w.heap.size + 2 by omega) _
    refine ⟨by simp, .inl ⟨_, _, rfl, run_takeDeferred HD2.out, ?_⟩⟩
    refine ⟨_, results_cell_bool Tryd.results17 _ _ (w.heap.size + 2) true rfl (Boxed.cell (boxed_chg HBR.out (putObj_chg _ D' _) (fun e => hne e.symm))), ⟨rfl, ?_⟩⟩
    exact HBW.out.trans ((putObj_chg _ D' _).below (fun i e => by have h1 := HDL.out; have h2 := HZ1.out; omega) HBW.out.size)
  case stop =>
    rintro D' c W' hDl ⟨rfl, hbr, hbl⟩ hD
    have HDL := Lib.hid hDl
    have HBR := Lib.hid hbr
    have HBW := Lib.hid hbl
    have HDD := Lib.hid hD
    clear hDl hbr hbl hD
    gi_wp2
    have hne : D' ≠ w.heap.size + 2 := by have h1 := HDL.out; have h2 := HZ1.out; omega
    refine ⟨by simp, .inl ⟨_, _, rfl, run_takeDeferred HDD.out, ?_⟩⟩
    refine ⟨_, results_cell_bool Tryd.results17 _ _ (w.heap.size + 2) true rfl (Boxed.cell (boxed_chg HBR.out (putObj_chg _ D' _) (fun e => hne e.symm))), ⟨rfl, ?_⟩⟩
    exact HBW.out.trans ((putObj_chg _ D' _).below (fun i e => by have h1 := HDL.out; have h2 := HZ1.out; omega) HBW.out.size)
end Go.Proofs.YtepaaffebhinlaaDoor

/- From and Level: functions over which one ranges. -/
namespace Go.Proofs.YtepaaffebhinlaaDoor
open Go.ChangeShapes Go.WideShapes Go.ChangeAt Go.RowKit Go.Shelf

theorem Iter.promise {P : Program} {α : Type} {gf : Nat} {lb : Array Value} {len : Nat} {encs : α → Array Value} {Ok : Nat → Nat → α → World → Prop} {C C' : World → Prop} {w : World} (h : Iter P gf lb len encs Ok C w) (hc : ∀ A, C' A → C A) : Iter P gf lb len encs Ok C' w :=
  fun m l J Jx W hW hC => h m l J Jx W hW (fun n₁ k A hj => hc A (hC n₁ k A hj))
/-- What From and Level answer: a function that goes over the towers L, each in new memory. -/
def GoAns (w : World) (L : List Tw) (e : Ending) (w' : World) : Prop :=
  Ext w w' ∧ ∃ bd, e = .returned (.func (.func 53) #[] #[.pointer (some ⟨bd, 0, none⟩)]) ∧ Iter Tryd.prog 53 #[.pointer (some ⟨bd, 0, none⟩)] L.length rowV (CopOk L) (fun A => Below w'.heap.size w' A) w'
theorem rowOf_ins {T : List Tw} (h : ∀ t ∈ T, InE t.e) (q : Ent → Bool) (n : Nat) : ∀ t ∈ rowOf T q n, InE t.e := fun t ht => h t (List.mem_of_mem_drop (List.mem_filter.1 ht).1)
theorem go_ans {w w5 : World} {L : List Tw} {N : Nat} {caps : Array Value} {C : World → Prop} (hx : Ext w w5) (hin : Iter Tryd.prog 52 caps L.length rowV (RowOk L N) C w5) (hN : N ≤ w5.heap.size) (hins : ∀ t ∈ L, InE t.e) (hC : ∀ A, Below w5.heap.size w5 A → C A) :
    GoAns w L (.returned (.func (.func 53) #[] #[.pointer (some ⟨w5.heap.size, 0, none⟩)])) (w5.alloc (.cells #[.func (.func 52) #[] caps] 44)) := by
  have hx6 := ext_alloc w5 (.cells #[.func (.func 52) #[] caps] 44)
  refine ⟨Ext.trans hx hx6, w5.heap.size, rfl, Iter.promise (copies_iter (hin.ext hx6) enters_row1 (Nat.le_trans hN hx6.size) hins (cell_of (heap_at _ _ rfl) rfl)) fun A hA => hC A ?_⟩
  exact Below.trans hx6 ⟨hA.os, hA.tape, hA.output, hA.size, fun i hi => hA.block i (Nat.lt_of_lt_of_le hi hx6.size)⟩

/-- A row of nothing. -/
theorem row_far {w : World} {b0 b1 b2 lb : Nat} {n : Int} {x y z : Value} {hd : Addr} {Ok : Nat → Nat → (Ent × Hd) → World → Prop} {C : World → Prop} (hl : w.heap[lb]? = some (.cells #[.pointer (some hd), x, y] 49 (0, 0))) (hn : n < 0 ∨ 8 ≤ n)
    (x0 : w.cell? ⟨b0, 0, none⟩ = some (.pointer (some ⟨lb, 0, none⟩))) (x1 : w.cell? ⟨b1, 0, none⟩ = some (.int .i64 n)) (_x2 : w.cell? ⟨b2, 0, none⟩ = some z) :
    Iter Tryd.prog 52 #[.pointer (some ⟨b0, 0, none⟩), .pointer (some ⟨b1, 0, none⟩), .pointer (some ⟨b2, 0, none⟩)] 0 rowV Ok C w := by
  intro mm l J Jx W hx hC hJ hJx h0 hY
  have HJ0 := Lib.hid (h0 W (Ext.refl _))
  have HNN := Lib.hid (none_no (ext_heap hx hl))
  have x0 := ext_cell hx x0
  have x1 := ext_cell hx x1
  clear hC hJ hJx h0 hY hl hx
  by_cases h1 : n < 0
  · have d1 : decide (n < 0) = true := by simp; omega
    clear h1 hn
    go_enter Tryd.func52, Tryd.ntmps52
    go_wp2_with fail
    refine Calls.mono HNN.out ?_
    rintro e w' ⟨rfl, hw'⟩
    have hw' := hw'.symm
    subst hw'
    go_wp2
    refine bodyPost_ret (results_none rfl _ _ _) rfl ?_
    exact ⟨⟨_, rfl⟩, .inl ⟨_, Nat.le_refl _, HJ0.out⟩⟩
  · have d1 : decide (n < 0) = false := by simp; omega
    have d2 : decide (8 ≤ n) = true := by simp; omega
    clear h1 hn
    go_enter Tryd.func52, Tryd.ntmps52
    go_wp2_with fail
    refine Calls.mono HNN.out ?_
    rintro e w' ⟨rfl, hw'⟩
    have hw' := hw'.symm
    subst hw'
    go_wp2
    refine bodyPost_ret (results_none rfl _ _ _) rfl ?_
    exact ⟨⟨_, rfl⟩, .inl ⟨_, Nat.le_refl _, HJ0.out⟩⟩
/-- A list that is none. -/
def NoList (w : World) (d : Option Addr) : Prop := d = none ∨ ∃ lb, d = some ⟨lb, 0, none⟩ ∧ w.cell? ⟨lb, 0, none⟩ = some (.pointer none)
theorem NoList.ext {w w' : World} {d : Option Addr} (h : NoList w d) (hx : Ext w w') : NoList w' d := by
  rcases h with h | ⟨lb, h1, h2⟩
  · exact .inl h
  · exact .inr ⟨lb, h1, ext_cell hx h2⟩
theorem none_yes {w : World} {d : Option Addr} (h : NoList w d) : Calls Tryd.prog 29 #[.pointer d] w fun e w' => e = .returned (.bool true) ∧ w = w' := by
  rcases h with rfl | ⟨lb, rfl, h2⟩
  · exact (none_nil w).mono fun e w' ⟨h1, h2⟩ => ⟨h1, h2.symm⟩
  · exact (none_zero h2).mono fun e w' ⟨h1, h2⟩ => ⟨h1, h2.symm⟩
theorem row_nolist {w : World} {b0 b1 b2 : Nat} {d : Option Addr} {Ok : Nat → Nat → (Ent × Hd) → World → Prop} {C : World → Prop} (hd : NoList w d) (x0 : w.cell? ⟨b0, 0, none⟩ = some (.pointer d)) :
    Iter Tryd.prog 52 #[.pointer (some ⟨b0, 0, none⟩), .pointer (some ⟨b1, 0, none⟩), .pointer (some ⟨b2, 0, none⟩)] 0 rowV Ok C w := by
  intro mm l J Jx W hx hC hJ hJx h0 hY
  have HJ0 := Lib.hid (h0 W (Ext.refl _))
  have HNN := Lib.hid (none_yes (hd.ext hx))
  have x0 := ext_cell hx x0
  clear hC hJ hJx h0 hY hd hx
  go_enter Tryd.func52, Tryd.ntmps52
  go_wp2_with fail
  refine Calls.mono HNN.out ?_
  rintro e w' ⟨rfl, rfl⟩
  go_wp2
  refine bodyPost_ret (results_none rfl _ _ _) rfl ?_
  exact ⟨⟨_, rfl⟩, .inl ⟨_, Nat.le_refl _, HJ0.out⟩⟩

/-- The three boxes of a row. -/
theorem row_boxes (w : World) (a b c : Value) (t1 t2 t3 : TypeId) : (((w.alloc (.cells #[a] t1)).alloc (.cells #[b] t2)).alloc (.cells #[c] t3)).cell? ⟨w.heap.size, 0, none⟩ = some a ∧ (((w.alloc (.cells #[a] t1)).alloc (.cells #[b] t2)).alloc (.cells #[c] t3)).cell? ⟨w.heap.size + 1, 0, none⟩ = some b ∧
    (((w.alloc (.cells #[a] t1)).alloc (.cells #[b] t2)).alloc (.cells #[c] t3)).cell? ⟨w.heap.size + 2, 0, none⟩ = some c :=
  ⟨cell_of (ext_heap (Ext.trans (ext_alloc _ _) (ext_alloc _ _)) (heap_at _ _ rfl)) rfl, cell_of (ext_heap (ext_alloc _ _) (heap_at _ _ (by simp))) rfl, cell_of (heap_at _ _ (by simp)) rfl⟩
theorem row3 (w : World) (a b c : Value) (t1 t2 t3 : TypeId) : Ext w (((w.alloc (.cells #[a] t1)).alloc (.cells #[b] t2)).alloc (.cells #[c] t3)) := Ext.trans (Ext.trans (ext_alloc _ _) (ext_alloc _ _)) (ext_alloc _ _)

set_option maxHeartbeats 2000000 in
theorem sfrom_any {w : World} {D : Nat → Prop} {lb hb lo hi : Nat} {v : Value} {T : List Tw} {key : List Nat} (h : Sk w D lb hb T) (hk : Bs w lo hi v key) (hhi : hi ≤ w.heap.size) (bk : ∀ x ∈ key, x < 256) (hl : key.length ≤ 1099511627776) :
    Calls Tryd.prog 23 #[.pointer (some ⟨lb, 0, none⟩), v] w (GoAns w (rowOf T (belowK key) 0)) := by
  have H := Lib.hid h
  have HBK := Lib.hid bk
  have HCL := Lib.hid (clone_any v lo hi key w hk hhi hl)
  clear h hk hhi bk hl
  go_enter Tryd.func23, Tryd.ntmps23
  go_wp2_with fail
  refine Calls.mono HCL.out ?_
  rintro e w1 ⟨v1, rfl, hown, hb1⟩
  obtain ⟨kA, kc, rfl⟩ := Own.slice (B := w.heap.size) (l := key) hown
  have HX1 : Hid (Ext w w1) := hb1
  have HB1 := Lib.hid (Own.bs (B := w.heap.size) (l := key) hown)
  clear hown hb1
  go_wp2_with fail
  obtain ⟨w2, hw2⟩ : ∃ w2, w2 = w1.alloc (.cells #[.slice kA key.length kc] 25) := ⟨_, rfl⟩
  rw [← hw2]
  have HX2 : Hid (Ext w1 w2) := by rw [hw2]; exact ext_alloc _ _
  have HAF := Lib.hid (from1_fn (w := w2) (p := w1.heap.size) (HB1.out.below HX2.out (Nat.le_refl _)) HX2.out.size HBK.out (by rw [hw2]; exact heap_at _ _ rfl))
  clear hw2
  refine Calls.mono (srow_any _ _ _ _ _) ?_
  rintro e w5 ⟨rfl, hw5⟩
  have hb := row_boxes w2 (.pointer (some ⟨lb, 0, none⟩)) (.int .i64 0) (.func (.func 45) #[] #[.pointer (some ⟨w1.heap.size, 0, none⟩)]) 29 3 64
  have hx := row3 w2 (.pointer (some ⟨lb, 0, none⟩)) (.int .i64 0) (.func (.func 45) #[] #[.pointer (some ⟨w1.heap.size, 0, none⟩)]) 29 3 64
  rw [← hw5] at hb hx
  have hx5 := Ext.trans (Ext.trans HX1.out HX2.out) hx
  have hit := row_iter (n := 0) (H.out.ext hx5) (HAF.out.ext hx) (H.out.asc.belowK key) (by decide) hb.1 hb.2.1 hb.2.2
  have HGO := Lib.hid (go_ans hx5 hit (Nat.le_refl _) (rowOf_ins H.out.ins _ _) (fun A hA k _ hlt => hA.block k hlt))
  clear hw5 hb hx hx5 hit
  go_wp2_with fail
  refine Calls.mono (scopies_any _ _ _) ?_
  rintro e w6 ⟨rfl, hw6⟩
  rw [← hw6] at HGO
  clear hw6
  go_wp2_with fail
  go_ret
  exact HGO.out

set_option maxHeartbeats 2000000 in
theorem slevel_any {w : World} {D : Nat → Prop} {lb hb n : Nat} {T : List Tw} (h : Sk w D lb hb T) (hn : n < 8) :
    Calls Tryd.prog 18 #[.pointer (some ⟨lb, 0, none⟩), .int .i64 (n : Int)] w (GoAns w (rowOf T nobodyE n)) := by
  have H := Lib.hid h
  have HN := Lib.hid hn
  clear h hn
  go_enter Tryd.func18, Tryd.ntmps18
  go_wp2_with fail
  refine Calls.mono (srow_any _ _ _ _ _) ?_
  rintro e w5 ⟨rfl, hw5⟩
  have hb := row_boxes w (.pointer (some ⟨lb, 0, none⟩)) (.int .i64 (n : Int)) (.func (.func 41) #[] #[]) 29 3 64
  have hx := row3 w (.pointer (some ⟨lb, 0, none⟩)) (.int .i64 (n : Int)) (.func (.func 41) #[] #[]) 29 3 64
  rw [← hw5] at hb hx
  have hit := row_iter (n := n) (H.out.ext hx) (nobody_fn w5) (nobody_pair _) HN.out hb.1 hb.2.1 hb.2.2
  have HGO := Lib.hid (go_ans hx hit (Nat.le_refl _) (rowOf_ins H.out.ins _ _) (fun A hA k _ hlt => hA.block k hlt))
  clear hw5 hb hx hit
  go_wp2_with fail
  refine Calls.mono (scopies_any _ _ _) ?_
  rintro e w6 ⟨rfl, hw6⟩
  rw [← hw6] at HGO
  clear hw6
  go_wp2_with fail
  go_ret
  exact HGO.out
set_option maxHeartbeats 2000000 in
theorem slevel_far {w : World} {D : Nat → Prop} {lb hb : Nat} {n : Int} {T : List Tw} (h : Sk w D lb hb T) (hn : n < 0 ∨ 8 ≤ n) :
    Calls Tryd.prog 18 #[.pointer (some ⟨lb, 0, none⟩), .int .i64 n] w (GoAns w []) := by
  have H := Lib.hid h
  have HN := Lib.hid hn
  clear h hn
  go_enter Tryd.func18, Tryd.ntmps18
  go_wp2_with fail
  refine Calls.mono (srow_any _ _ _ _ _) ?_
  rintro e w5 ⟨rfl, hw5⟩
  have hb := row_boxes w (.pointer (some ⟨lb, 0, none⟩)) (.int .i64 n) (.func (.func 41) #[] #[]) 29 3 64
  have hx := row3 w (.pointer (some ⟨lb, 0, none⟩)) (.int .i64 n) (.func (.func 41) #[] #[]) 29 3 64
  rw [← hw5] at hb hx
  have hit := row_far (Ok := RowOk [] 0) (C := fun _ => True) (H.out.ext hx).list HN.out hb.1 hb.2.1 hb.2.2
  have HGO := Lib.hid (go_ans (L := []) hx hit (Nat.zero_le _) (fun t ht => by cases ht) (fun A hA => trivial))
  clear hw5 hb hx hit
  go_wp2_with fail
  refine Calls.mono (scopies_any _ _ _) ?_
  rintro e w6 ⟨rfl, hw6⟩
  rw [← hw6] at HGO
  clear hw6
  go_wp2_with fail
  go_ret
  exact HGO.out
set_option maxHeartbeats 2000000 in
theorem slevel_no {w : World} {d : Option Addr} {n : Int} (h : NoList w d) :
    Calls Tryd.prog 18 #[.pointer d, .int .i64 n] w (GoAns w []) := by
  have H := Lib.hid h
  clear h
  go_enter Tryd.func18, Tryd.ntmps18
  go_wp2_with fail
  refine Calls.mono (srow_any _ _ _ _ _) ?_
  rintro e w5 ⟨rfl, hw5⟩
  have hb := row_boxes w (.pointer d) (.int .i64 n) (.func (.func 41) #[] #[]) 29 3 64
  have hx := row3 w (.pointer d) (.int .i64 n) (.func (.func 41) #[] #[]) 29 3 64
  rw [← hw5] at hb hx
  have hit := row_nolist (Ok := RowOk [] 0) (C := fun _ => True) (b1 := w.heap.size + 1) (b2 := w.heap.size + 2) (H.out.ext hx) hb.1
  have HGO := Lib.hid (go_ans (L := []) hx hit (Nat.zero_le _) (fun t ht => by cases ht) (fun A hA => trivial))
  clear hw5 hb hx hit
  go_wp2_with fail
  refine Calls.mono (scopies_any _ _ _) ?_
  rintro e w6 ⟨rfl, hw6⟩
  rw [← hw6] at HGO
  clear hw6
  go_wp2_with fail
  go_ret
  exact HGO.out
set_option maxHeartbeats 2000000 in
theorem sfrom_no {w : World} {d : Option Addr} (h : NoList w d) :
    Calls Tryd.prog 23 #[.pointer d, .slice none 0 0] w (GoAns w []) := by
  have H := Lib.hid h
  have HCL := Lib.hid (clone_any (.slice none 0 0) 0 0 [] w (Bs.nil _ _ _) (Nat.zero_le _) (by simp))
  clear h
  go_enter Tryd.func23, Tryd.ntmps23
  go_wp2_with fail
  refine Calls.mono HCL.out ?_
  rintro e w1 ⟨v1, rfl, hown, hb1⟩
  obtain ⟨kA, kc, rfl⟩ := Own.slice (B := w.heap.size) (l := []) hown
  have HX1 : Hid (Ext w w1) := hb1
  clear hown hb1
  go_wp2_with fail
  obtain ⟨w2, hw2⟩ : ∃ w2, w2 = w1.alloc (.cells #[.slice kA ([] : List Nat).length kc] 25) := ⟨_, rfl⟩
  have HX2 : Hid (Ext w1 w2) := by rw [hw2]; exact ext_alloc _ _
  refine Calls.mono (srow_any _ _ _ _ _) ?_
  rintro e w5 ⟨rfl, hw5⟩
  have hw5' : w5 = ((w2.alloc (.cells #[.pointer d] 29)).alloc (.cells #[.int .i64 0] 3)).alloc (.cells #[.func (.func 45) #[] #[.pointer (some ⟨w1.heap.size, 0, none⟩)]] 64) := by rw [hw5, hw2]; rfl
  have hsz : w2.heap.size = w1.heap.size + 1 := by rw [hw2]; simp
  have hb := row_boxes w2 (.pointer d) (.int .i64 0) (.func (.func 45) #[] #[.pointer (some ⟨w1.heap.size, 0, none⟩)]) 29 3 64
  have hx := row3 w2 (.pointer d) (.int .i64 0) (.func (.func 45) #[] #[.pointer (some ⟨w1.heap.size, 0, none⟩)]) 29 3 64
  rw [← hw5'] at hb hx
  have hx5 := Ext.trans (Ext.trans HX1.out HX2.out) hx
  have hit := row_nolist (Ok := RowOk [] 0) (C := fun _ => True) (b1 := w2.heap.size + 1) (b2 := w2.heap.size + 2) (H.out.ext hx5) hb.1
  have HGO := Lib.hid (go_ans (L := []) hx5 hit (Nat.zero_le _) (fun t ht => by cases ht) (fun A hA => trivial))
  rw [hsz] at HGO
  clear hw5 hw5' hb hx hx5 hit hw2 HX2 hsz
  go_wp2_with fail
  refine Calls.mono (scopies_any _ _ _) ?_
  rintro e w6 ⟨rfl, hw6⟩
  rw [← hw6] at HGO
  clear hw6
  go_wp2_with fail
  go_ret
  exact HGO.out
end Go.Proofs.YtepaaffebhinlaaDoor

/- The law's put and num; the reference's Height. -/
namespace Go.Proofs.YtepaaffebhinlaaDoor
open Go.ChangeShapes Go.WideShapes Go.ChangeAt Go.RowKit Go.Shelf

theorem snum (n : Int) (w : World) : Calls Tryd.prog 19 #[.int .i64 n] w fun e w' => e = .returned (.int .i64 n) ∧ w = w' := by
  go_enter Tryd.func19, Tryd.ntmps19
  go_wp2
  go_ret
  exact ⟨rfl, rfl⟩
set_option maxHeartbeats 2000000 in
theorem lput_any (k : List Nat) (s : Int) (hk : ∀ x ∈ k, x < 256) (hkl : k.length ≤ 1000) (h1 : -9223372036854775808 ≤ s) (h2 : s ≤ 9223372036854775807) (w : World) :
    Calls Tryd.prog 15 #[.string (tx k), .int .i64 s] w (LitAns w ⟨k, s, 1, []⟩) := by
  obtain ⟨w1, hw1⟩ : ∃ w1, w1 = w.alloc (.cells #[.slice none 0 0, .int .i64 0, .int .i64 0, .slice none 0 0] 28) := ⟨_, rfl⟩
  have HX : Hid (Ext w w1) := by rw [hw1]; exact ext_alloc _ _
  have HBX : Hid (w1.heap[w.heap.size]? = some (.cells #[.slice none 0 0, .int .i64 0, .int .i64 0, .slice none 0 0] 28 (0, 0))) := by rw [hw1]; exact heap_at _ _ rfl
  have HZ : Hid (w1.heap.size = w.heap.size + 1) := by rw [hw1]; simp [Hid]
  obtain ⟨A2, c2, w2, e2, x2, b2⟩ := conv_new w1 k hk hkl
  have hb := ext_heap x2 HBX.out
  have q0 := cell_of hb (k := 0) rfl
  have q1 := cell_of hb (k := 1) rfl
  have q2 := cell_of hb (k := 2) rfl
  have q3 := cell_of hb (k := 3) rfl
  have z0 := frozen_four hb (j := 0)
  have z1 := frozen_four hb (j := 1)
  have z2 := frozen_four hb (j := 2)
  have z3 := frozen_four hb (j := 3)
  have HB := Lib.hid hb
  have HK := Lib.hid b2
  have HX3 : Hid (Ext w w2) := Ext.trans HX.out x2
  have HBY := Lib.hid hk
  have HS := Lib.hid (And.intro h1 h2)
  clear x2 b2 hb hk hkl h1 h2
  go_enter Tryd.func15, Tryd.ntmps15
  rw [hw1] at e2
  go_wp2_with fail
  refine entry_ret1 (p := 4) (by kernel_rfl) rfl rfl (set_four HB.out) ?_
  have far : ∀ {l : List Nat} {v : Value} {u : World} {p : Addr} {x : Value}, p.block < w1.heap.size → Bs u w1.heap.size w2.heap.size v l → Bs (u.setCell p x) w1.heap.size w2.heap.size v l := fun hp h => h.setCell (.inl hp) _
  have hlt : w.heap.size < w1.heap.size := by rw [HZ.out]; omega
  refine ⟨Below.setCell (Below.setCell (Below.setCell (Below.setCell HX3.out (Nat.le_refl _) _) (Nat.le_refl _) _) (Nat.le_refl _) _) (Nat.le_refl _) _, ⟨A2, c2, none, 0⟩, rfl, ⟨?_, Bs.nil _ _ _, HBY.out, by simp, HS.out.1, HS.out.2, (by show (-9223372036854775808 : Int) ≤ _; dsimp only; omega), (by dsimp only; omega)⟩⟩
  exact (far hlt (far hlt (far hlt (far hlt HK.out)))).wide HX.out.size (by simp [World.setCell])

theorem ctzFrom_more : ∀ (f x : Nat), 0 < x → x < 2 ^ f → Lib.ctzFrom (f + 1) x = Lib.ctzFrom f x
  | 0, x, h0, h => by simp at h; omega
  | f + 1, x, h0, h => by
    show (if x % 2 = 1 then 0 else 1 + Lib.ctzFrom (f + 1) (x / 2)) = (if x % 2 = 1 then 0 else 1 + Lib.ctzFrom f (x / 2))
    split
    · rfl
    · rw [ctzFrom_more f (x / 2) (by omega) (by rw [Nat.pow_succ] at h; omega)]
theorem zz_step {h : Nat} (h0 : h ≠ 0) (hl : h < 4294967296) (h4 : h % 4 = 0) : Lib.ctz 32 h = 2 + Lib.ctz 32 (h / 4) := by
  unfold Lib.ctz
  rw [if_neg h0, if_neg (by omega)]
  have e1 : Lib.ctzFrom 32 h = 1 + Lib.ctzFrom 31 (h / 2) := by rw [Lib.ctzFrom, if_neg (by omega)]
  have e2 : Lib.ctzFrom 31 (h / 2) = 1 + Lib.ctzFrom 30 (h / 4) := by rw [Lib.ctzFrom, if_neg (by omega)]; congr 2; omega
  rw [e1, e2, ctzFrom_more 31 (h / 4) (by omega) (by omega), ctzFrom_more 30 (h / 4) (by omega) (by omega)]
  omega
theorem zz_stop {h : Nat} (h4 : h % 4 ≠ 0) : Lib.ctz 32 h ≤ 1 := by
  unfold Lib.ctz
  rw [if_neg (by omega)]
  by_cases h2 : h % 2 = 1
  · rw [Lib.ctzFrom, if_pos h2]; omega
  · rw [Lib.ctzFrom, if_neg h2, Lib.ctzFrom, if_pos (by omega)]; omega
/-- What the loop leaves as it is. -/
theorem hgt_step {n h : Nat} (hn : n < 8) (hl : h < 4294967296) (h4 : h % 4 = 0) : min (n + 1 + Lib.ctz 32 (h / 4) / 2) 8 = min (n + Lib.ctz 32 h / 2) 8 := by
  by_cases h0 : h = 0
  · subst h0
    show min (n + 1 + 32 / 2) 8 = min (n + 32 / 2) 8
    omega
  · rw [zz_step h0 hl h4]; omega

end Go.Proofs.YtepaaffebhinlaaDoor
