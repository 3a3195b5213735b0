/- Grise Gpass Gjoin Gjoin1 Gpairs, joined. -/
import Derived.Test.YtlnihaeeoolkhaaMa6
import Derived.Test.YtlnihaeeoolkhaaMa5
import Derived.Test.YtlnihaeeoolkhaaMa7
import Derived.Deep.LoopGhost
import Derived.Sort.LoopGhostIn

/- The program's Rising (merge). -/
namespace Go.Proofs.Ytlnihaeeoolkhaa
open Go.ChangeShapes Go.WideShapes Go.ChangeAt Go.RowKit Go.Shelf
attribute [local go_sem] Oper.semAt_some

/-- Between two rounds. -/
structure RisI (w : World) (s3 B0 : Nat) (L : List Ent) (D K : Nat → Prop) (k : Nat) (A : World) : Prop where
  below : Below w.heap.size w A
  z : s3 ≤ A.heap.size
  dz : ∀ i, D i → s3 ≤ i
  kz : ∀ i, K i → s3 ≤ i
  res : Boxed A w.heap.size 4 (.bool false)
  fst : Boxed A (w.heap.size + 2) 4 (.bool (decide (k = 0)))
  last : ∃ p : Ent × Hd, A.heap[w.heap.size + 1]? = some (.cells #[.slice p.2.kA p.1.key.length p.2.kc, .int .i64 p.1.seq, .int .i64 p.1.kind, .slice p.2.vA p.1.val.length p.2.vc] 46 (0, 0)) ∧ (0 < k → L[k - 1]? = some p.1 ∧ Live B0 D p A)
  ris : RiseTo L k
theorem RisI.chg {w : World} {s3 B0 : Nat} {L : List Ent} {D K D' K' : Nat → Prop} {k : Nat} {A A' : World} (h : RisI w s3 B0 L D K k A) (hs : w.heap.size + 3 ≤ s3) (hc : Chg D A A') (hD : ∀ i, D' i → D i ∨ A.heap.size ≤ i) (hK : ∀ i, K' i → K i ∨ A.heap.size ≤ i) : RisI w s3 B0 L D' K' k A' := by
  obtain ⟨p, h1, h2⟩ := h.last
  exact ⟨h.below.trans (hc.below (fun i hi => by have := h.dz i hi; omega) h.below.size), Nat.le_trans h.z hc.size,
    fun i hi => (hD i hi).elim (h.dz i) (fun h2 => Nat.le_trans h.z h2), fun i hi => (hK i hi).elim (h.kz i) (fun h2 => Nat.le_trans h.z h2),
    boxed_chg h.res hc (fun hd => by have := h.dz _ hd; omega), boxed_chg h.fst hc (fun hd => by have := h.dz _ hd; omega),
    ⟨p, (hc.block _ (Array.getElem?_eq_some_iff.1 h1).1 (fun hd => by have := h.dz _ hd; omega)).trans h1, fun hk => ⟨(h2 hk).1, (h2 hk).2.go hc (fun b hb => .inl hb) hD⟩⟩, h.ris⟩

theorem heap_setG {w : World} {b k : Nat} {c : Array Value} {t : TypeId} {f : Nat × Nat} (v : Value) (h : w.heap[b]? = some (.cells c t f)) : (w.setCell ⟨b, k, none⟩ v).heap[b]? = some (.cells (c.setIfInBounds k v) t f) := by
  obtain ⟨hlt, hk⟩ := Array.getElem?_eq_some_iff.1 h
  show (w.heap.modify b _)[b]? = _
  rw [Array.getElem?_eq_getElem (by rw [Array.size_modify]; exact hlt), Array.getElem_modify_self, hk]
  rfl
/-- An entry that is put into a box. -/
theorem put_four {u : World} {b : Nat} {x0 x1 x2 x3 y0 y1 y2 y3 : Value} {t : TypeId} (h : u.heap[b]? = some (.cells #[x0, x1, x2, x3] t (0, 0))) :
    ((((u.setCell ⟨b, 0, none⟩ y0).setCell ⟨b, 1, none⟩ y1).setCell ⟨b, 2, none⟩ y2).setCell ⟨b, 3, none⟩ y3).heap[b]? = some (.cells #[y0, y1, y2, y3] t (0, 0)) := by
  have h4 := heap_setG (k := 3) y3 (heap_setG (k := 2) y2 (heap_setG (k := 1) y1 (heap_setG (k := 0) y0 h)))
  rw [h4]; rfl
theorem chg_four {u : World} {g : Nat} {y0 y1 y2 y3 : Value} : Chg (fun i => i = g) u ((((u.setCell ⟨g, 0, none⟩ y0).setCell ⟨g, 1, none⟩ y1).setCell ⟨g, 2, none⟩ y2).setCell ⟨g, 3, none⟩ y3) :=
  ((Chg.trans (S := fun i => i = g) (Chg.setCell u ⟨g, 0, none⟩ y0 rfl) (Chg.setCell _ ⟨g, 1, none⟩ y1 rfl)).trans (Chg.setCell _ ⟨g, 2, none⟩ y2 rfl)).trans (Chg.setCell _ ⟨g, 3, none⟩ y3 rfl)
/-- The two stores behind a round. -/
theorem rise_put {A W6 : World} {b1 b2 : Nat} {p : Ent × Hd} {x0 x1 x2 x3 v : Value} (h1 : A.heap[b1]? = some (.cells #[x0, x1, x2, x3] 46 (0, 0))) (h2 : Boxed A b2 4 v) (hne : b1 ≠ b2)
    (hW : W6 = ((((A.setCell ⟨b1, 0, none⟩ (.slice p.2.kA p.1.key.length p.2.kc)).setCell ⟨b1, 1, none⟩ (.int .i64 p.1.seq)).setCell ⟨b1, 2, none⟩ (.int .i64 p.1.kind)).setCell ⟨b1, 3, none⟩ (.slice p.2.vA p.1.val.length p.2.vc)).setCell ⟨b2, 0, none⟩ (.bool false)) :
    Chg (fun i => i = b1 ∨ i = b2) A W6 ∧ Boxed W6 b2 4 (.bool false) ∧ W6.heap[b1]? = some (.cells #[.slice p.2.kA p.1.key.length p.2.kc, .int .i64 p.1.seq, .int .i64 p.1.kind, .slice p.2.vA p.1.val.length p.2.vc] 46 (0, 0)) := by
  have h3 := boxed_chg h2 (chg_four (u := A) (g := b1) (y0 := .slice p.2.kA p.1.key.length p.2.kc) (y1 := .int .i64 p.1.seq) (y2 := .int .i64 p.1.kind) (y3 := .slice p.2.vA p.1.val.length p.2.vc)) (fun e => hne e.symm)
  rw [hW]
  exact ⟨(chg_four.mono fun _ _ h => .inl h).trans (Chg.setCell _ _ _ (.inr rfl)), h3.set _, (Below.heap_setCell _ _ _ _ hne).trans (put_four h1)⟩

set_option maxRecDepth 100000 in
set_option maxHeartbeats 8000000 in
theorem mrising_any {w : World} {gf B0 : Nat} {lb : Array Value} {L : List Ent} {C0 : World → Prop} (hall : ∀ u, Ext w u → MIter gf lb B0 L C0 (fun _ => False) u) (eg : ∀ args w, (callFunc gf args).run Try.prog w = .ok (.enter gf args) w) (hC : ∀ A, Below w.heap.size w A → C0 A) (hB0 : B0 ≤ w.heap.size) (hl : L.length ≤ 1000000)
    (hkl : ∀ e ∈ L, e.key.length ≤ 140737488351232 ∧ e.val.length ≤ 140737488351232) :
    Calls Try.prog 17 #[.func (.func gf) #[] lb] w fun x w' => ∃ z : Bool, (z = true ↔ Rise L) ∧ x = .returned (.bool z) ∧ Below w.heap.size w w' := by
  obtain ⟨w1, hw1⟩ : ∃ w1, w1 = ((w.alloc (.cells #[.bool false] 4)).alloc (.cells #[.slice none 0 0, .int .i64 0, .int .i64 0, .slice none 0 0] 46)).alloc (.cells #[.bool true] 4) := ⟨_, rfl⟩
  have HX1 : Hid (Ext w w1) := by rw [hw1]; exact Ext.trans (Ext.trans (ext_alloc _ _) (ext_alloc _ _)) (ext_alloc _ _)
  have HZ1 : Hid (w1.heap.size = w.heap.size + 3) := by rw [hw1]; simp [Hid]
  have HB0' : Hid (Boxed w1 w.heap.size 4 (.bool false)) := by rw [hw1]; exact ext_heap (Ext.trans (ext_alloc _ _) (ext_alloc _ _)) (heap_at _ _ rfl)
  have HB1 : Hid (w1.heap[w.heap.size + 1]? = some (.cells #[.slice none 0 0, .int .i64 0, .int .i64 0, .slice none 0 0] 46 (0, 0))) := by rw [hw1]; exact ext_heap (ext_alloc _ _) (heap_at _ _ (by simp))
  have HB2 : Hid (Boxed w1 (w.heap.size + 2) 4 (.bool true)) := by rw [hw1]; exact heap_at _ _ (by simp)
  have HALL := Lib.hid hall
  have HC := Lib.hid hC
  have HB := Lib.hid hB0
  have HL := Lib.hid hl
  have HKL := Lib.hid hkl
  have HEG := Lib.hid eg
  clear hall hC hB0 hl hkl eg
  refine (callsIn_wide (n := 6)).1 ?_
  refine callsIn_of_wp_marks Try.func17 rfl trivial ?_
  simp only [Try.ntmps17, List.size_toArray, List.length_cons, List.length_nil, Nat.reduceAdd, Nat.reduceSub, Array.replicate_succ, Array.replicate_zero, List.push_toArray, List.append_toArray, List.nil_append, List.cons_append]
  refine wpIn_wide.2 ?_
  go_wp2_with fail
  rw [← hw1]
  clear hw1
  refine only_any.mono ?_
  rintro x w2 ⟨b1, b2, rfl, hn12, hl1, hl2, hB1, hB2, hx2⟩
  have HX2 : Hid (Ext w1 w2) := hx2
  have HBB := Lib.hid (And.intro hB1 hB2)
  have HLB := Lib.hid (And.intro hl1 hl2)
  clear hn12 hl1 hl2 hB1 hB2 hx2
  go_wp2_with fail
  rename_i ak
  refine (wpIn_wide (n := 6)).1 ?_
  have hit := eachfn_iter (L := L) (b1 := b1) (b2 := b2) (C0 := C0) (w := w2) (fun u hu => HALL.out u ((HX1.out.trans HX2.out).trans hu)) HEG.out (Nat.le_trans HB.out (HX1.out.trans HX2.out).size) HKL.out
  rw [wantL_all] at hit
  have HIT := Lib.hid hit
  clear hit
  have HSZ : Hid (w.heap.size + 3 ≤ w2.heap.size) := by have h1 := HZ1.out; have h2 := HX2.out.size; unfold Hid; omega
  refine wpIn_overX rfl enters_only1 (fun _ h => h.elim) HIT.out (fun _ => rfl) (fun D K k A => RisI w w2.heap.size B0 L D K k A ∧ Boxed A b1 27 (.func (.func gf) #[] lb) ∧ Boxed A b2 55 (.func (.func 36) #[] #[]))
    (fun D c A => c = .ret ∧ ¬ Rise L ∧ Below w.heap.size w A ∧ Boxed A w.heap.size 4 (.bool false) ∧ ∀ i, D i → w2.heap.size ≤ i) (fun _ _ _ _ h => ⟨HC.out _ h.1.below, h.2.1, h.2.2, trivial⟩) ?hI ?hIx ?h0 ?rnd ?hok ?done ?stop
  case hI =>
    rintro D K k A D' K' A' ⟨h, h1, h2⟩ hc hD hK
    have m1 := HBB.out.1.lt
    have m2 := HBB.out.2.lt
    exact ⟨h.chg HSZ.out hc hD hK, boxed_chg h1 hc (fun hd => by have := h.dz _ hd; omega), boxed_chg h2 hc (fun hd => by have := h.dz _ hd; omega)⟩
  case hIx =>
    rintro D c A A' ⟨rfl, h1, h2, h3, h4⟩ hc
    exact ⟨rfl, h1, h2.trans (hc.below (fun i hi => by have := h4 i hi; have := HSZ.out; omega) h2.size), boxed_chg h3 hc (fun hd => by have := h4 _ hd; have := HSZ.out; omega), h4⟩
  case h0 =>
    intro A D K hx hD hK
    have hs := hx.size
    exact ⟨⟨Ext.trans (Ext.trans HX1.out HX2.out) hx, hs, fun i h => (hD i h).elim False.elim id, fun i h => (hK i h).elim False.elim id, boxed_ext (boxed_ext HB0'.out HX2.out) hx, boxed_ext (boxed_ext HB2.out HX2.out) hx, ⟨(⟨[], 0, 0, []⟩, ⟨none, 0, none, 0⟩), ext_heap hx (ext_heap HX2.out HB1.out), fun h => absurd h (Nat.lt_irrefl 0)⟩, fun j a b hj => by omega⟩, boxed_ext HBB.out.1 hx, boxed_ext HBB.out.2 hx⟩
  case hok =>
    rintro D K D' K' k x A ⟨h1, h2⟩ ⟨od, hd⟩ ⟨ol, hl⟩ hD' _ _ _
    refine ⟨h1, h2.1, fun A' T hc hT => h2.2 A' T hc fun b hb => ?_⟩
    have hBW : B0 ≤ w2.heap.size := by have := HB.out; have := HSZ.out; omega
    rcases hT b hb with h | h
    · rcases hD' b h with h | h | h
      · exact .inl h
      · exact .inr (.inr ⟨by omega, fun c fz e => by rw [h, hd] at e; cases e⟩)
      · exact .inr (.inr ⟨by omega, fun c fz e => by rw [h, hl] at e; cases e⟩)
    · exact .inr h
  case rnd =>
    rintro l2 D K k ⟨e, g⟩ A rfl hDl hKl hDm hKm hDb hKb ⟨hi, hi1, hi2⟩ ⟨hek, hlv⟩
    have hek' : L[k]? = some e := hek
    have HI1 := Lib.hid hi
    have HLV := Lib.hid hlv
    have HEK := Lib.hid hek'
    have HI12 := Lib.hid (And.intro hi1 hi2)
    have HDK := Lib.hid (And.intro hDl (And.intro hKl (And.intro hDb hKb)))
    clear hDl hKl hDm hKm hDb hKb hi hi1 hi2 hek hek' hlv ak
    dsimp only [entV, Ent.at_]
    gi_wp2
    obtain ⟨A2, hA2⟩ : ∃ A2, A2 = A.alloc (.cells #[.slice g.kA e.key.length g.kc, .int .i64 e.seq, .int .i64 e.kind, .slice g.vA e.val.length g.vc] 46) := ⟨_, rfl⟩
    rw [← hA2]
    have HX2' : Hid (Ext A A2) := by rw [hA2]; exact ext_alloc _ _
    have HBE2 : Hid (A2.heap[A.heap.size]? = some (.cells #[.slice g.kA e.key.length g.kc, .int .i64 e.seq, .int .i64 e.kind, .slice g.vA e.val.length g.vc] 46 (0, 0))) := by rw [hA2]; exact heap_at _ _ rfl
    clear hA2
    refine ⟨StepK.of_chg (S := fun _ => False) (Chg.of_ext HX2'.out) (fun _ _ _ h => h), fun A3 hc => ?_⟩
    have HCH : Hid (Chg D A A3) := ((Chg.of_ext (S := D) HX2'.out).trans (hc.mono fun i _ e => by rw [e]; exact HDK.out.1))
    have HI3 := Lib.hid (HI1.out.chg HSZ.out HCH.out (fun i h => .inl h) (fun i h => .inl h))
    have HL3 : Hid (Live B0 D (e, g) A3) := HLV.out.go HCH.out (fun b hb => .inl hb) (fun b hb => .inl hb)
    have HB3 : Hid (A3.heap[A.heap.size]? = some (.cells #[.slice g.kA e.key.length g.kc, .int .i64 e.seq, .int .i64 e.kind, .slice g.vA e.val.length g.vc] 46 (0, 0))) :=
      (hc.block _ (Array.getElem?_eq_some_iff.1 HBE2.out).1 (fun e => by have := HDK.out.2.2.2 _ HDK.out.2.1; omega)).trans HBE2.out
    have HAA : Hid (A.heap.size ≤ A3.heap.size) := HCH.out.size
    have HB12 : Hid (Boxed A3 b1 27 (.func (.func gf) #[] lb) ∧ Boxed A3 b2 55 (.func (.func 36) #[] #[])) :=
      ⟨boxed_chg HI12.out.1 HCH.out (fun hd => by have := HI1.out.dz _ hd; have := HBB.out.1.lt; omega), boxed_chg HI12.out.2 HCH.out (fun hd => by have := HI1.out.dz _ hd; have := HBB.out.2.lt; omega)⟩
    obtain ⟨p, hp, hpl⟩ := HI3.out.last
    have HP := Lib.hid hp
    have HPL := Lib.hid hpl
    have q9 := HI3.out.fst.cell
    have qf9 := HI3.out.fst.frozen
    have e0 := cell_of HB3.out (k := 0) rfl
    have e1 := cell_of HB3.out (k := 1) rfl
    have e2 := cell_of HB3.out (k := 2) rfl
    have e3 := cell_of HB3.out (k := 3) rfl
    have p0 := cell_of hp (k := 0) rfl
    have p1 := cell_of hp (k := 1) rfl
    have p2 := cell_of hp (k := 2) rfl
    have p3 := cell_of hp (k := 3) rfl
    clear hc hp hpl
    have hf2 : Fence.wide.fn 37 := trivial
    by_cases h0 : k = 0
    · have d0 : decide (k = 0) = true := decide_eq_true h0
      rw [d0] at q9
      obtain ⟨f0, f1, f2, f3⟩ : A3.frozen? ⟨w.heap.size + 1, 0, none⟩ = false ∧ A3.frozen? ⟨w.heap.size + 1, 1, none⟩ = false ∧ A3.frozen? ⟨w.heap.size + 1, 2, none⟩ = false ∧ A3.frozen? ⟨w.heap.size + 1, 3, none⟩ = false := by simp [World.frozen?, HP.out]
      have HNEXT : Hid (RiseTo L (k + 1)) := fun j a b hj => by omega
      clear h0 d0
      gi_wp2
      have HSTEP : Hid (StepK K A3 A3) := StepK.refl _ _
      have HIX := HI3
      have HLX := HP
      have HFX : Hid (Boxed A3 (w.heap.size + 2) 4 (.bool (decide (k = 0)))) := HI3.out.fst
      have HLX2 := HL3
      have HBX := HB12
      clear q9 qf9 e0 e1 e2 e3 p0 p1 p2 p3 f0 f1 f2 f3
      obtain ⟨W6, hW6⟩ : ∃ W6, W6 = ((((A3.setCell ⟨w.heap.size + 1, 0, none⟩ (.slice g.kA e.key.length g.kc)).setCell ⟨w.heap.size + 1, 1, none⟩ (.int .i64 e.seq)).setCell ⟨w.heap.size + 1, 2, none⟩ (.int .i64 e.kind)).setCell ⟨w.heap.size + 1, 3, none⟩ (.slice g.vA e.val.length g.vc)).setCell ⟨w.heap.size + 1 + 1, 0, none⟩ (.bool false) := ⟨_, rfl⟩
      rw [← hW6]
      obtain ⟨hch, hbf, hbe⟩ := rise_put (p := (e, g)) HLX.out HFX.out (by omega) hW6
      have hIX := HIX.out
      have hz := HSZ.out
      have m1 := HBB.out.1.lt
      have m2 := HBB.out.2.lt
      have hlow : ∀ i, (i = w.heap.size + 1 ∨ i = w.heap.size + 2) → w.heap.size ≤ i := fun i hi => by omega
      refine ⟨HSTEP.out.trans (StepK.of_chg hch (fun i _ hk hs => by have := hIX.kz i hk; omega)), ⟨hIX.below.trans (hch.below hlow hIX.below.size), Nat.le_trans hIX.z hch.size, hIX.dz, hIX.kz, boxed_chg hIX.res hch (fun hs => by omega), ?_, ⟨(e, g), hbe, fun _ => ⟨HEK.out, HLX2.out.go hch (fun b hb => .inr (.inr ?_)) (fun b hb => .inl hb)⟩⟩, HNEXT.out⟩, boxed_chg HBX.out.1 hch (fun hs => by have := HLB.out; have := HZ1.out; omega), boxed_chg HBX.out.2 hch (fun hs => by have := HLB.out; have := HZ1.out; omega)⟩
      · exact hbf
      · have hB := HB.out
        rcases hb with rfl | rfl
        · exact ⟨by omega, not_u8 HLX.out (by decide)⟩
        · exact ⟨by omega, not_u8 HFX.out (by decide)⟩
    · have d0 : decide (k = 0) = false := decide_eq_false h0
      rw [d0] at q9
      have HK0 : Hid (0 < k) := Nat.pos_of_ne_zero h0
      have HCMP := Lib.hid (compare_any (HPL.out HK0.out).2.1 HL3.out.1 (Nat.le_refl _) (Nat.le_refl _))
      obtain ⟨s, hs⟩ : ∃ s, s = cmpE p.1 e := ⟨_, rfl⟩
      unfold Ent.at_ at HCMP
      dsimp only at HCMP
      rw [← hs] at HCMP
      by_cases hneg : s < 0
      · have d1 : decide (0 ≤ s) = false := by simp; omega
        have HNEXT : Hid (RiseTo L (k + 1)) := by
          have h1 := (HPL.out HK0.out).1
          obtain ⟨m, hm⟩ : ∃ m, k = m + 1 := ⟨k - 1, by have := HK0.out; omega⟩
          have hr := HI3.out.ris
          have he := HEK.out
          rw [hm] at h1 hr he ⊢
          exact riseTo_next hr h1 he (by rw [← hs]; exact hneg)
        clear h0 d0 hs hneg
        gi_wp2_with (gi_at_call 37; refine (callsIn_wide.2 HCMP.out).mono ?_; rintro x A5 ⟨rfl, hx5⟩; have HX5 := Lib.hid hx5; have g0 := ext_cell hx5 e0; have g1 := ext_cell hx5 e1; have g2 := ext_cell hx5 e2; have g3 := ext_cell hx5 e3; have r0 := ext_cell hx5 p0; have r1 := ext_cell hx5 p1; have r2 := ext_cell hx5 p2; have r3 := ext_cell hx5 p3; have q8 := ext_cell hx5 q9; have q7 := (boxed_ext HI3.out.fst hx5).frozen; obtain ⟨f0, f1, f2, f3⟩ : A5.frozen? ⟨w.heap.size + 1, 0, none⟩ = false ∧ A5.frozen? ⟨w.heap.size + 1, 1, none⟩ = false ∧ A5.frozen? ⟨w.heap.size + 1, 2, none⟩ = false ∧ A5.frozen? ⟨w.heap.size + 1, 3, none⟩ = false := (by simp [World.frozen?, ext_heap HX5.out HP.out]); clear hx5 e0 e1 e2 e3 p0 p1 p2 p3 q9 qf9)
        have HSTEP : Hid (StepK K A3 A5) := StepK.of_chg (S := fun _ => False) (Chg.of_ext HX5.out) (fun _ _ _ h => h)
        have HIX : Hid (RisI w w2.heap.size B0 L D K k A5) := HI3.out.chg HSZ.out (Chg.of_ext HX5.out) (fun i h => .inl h) (fun i h => .inl h)
        have HLX := Lib.hid (ext_heap HX5.out HP.out)
        have HFX : Hid (Boxed A5 (w.heap.size + 2) 4 (.bool (decide (k = 0)))) := HIX.out.fst
        have HLX2 : Hid (Live B0 D (e, g) A5) := HL3.out.go (S := fun _ => False) (Chg.of_ext HX5.out) (fun b hb => hb.elim) (fun b hb => .inl hb)
        have HBX := Lib.hid (And.intro (boxed_ext HB12.out.1 HX5.out) (boxed_ext HB12.out.2 HX5.out))
        clear g0 g1 g2 g3 r0 r1 r2 r3 q8 q7 f0 f1 f2 f3
        obtain ⟨W6, hW6⟩ : ∃ W6, W6 = ((((A5.setCell ⟨w.heap.size + 1, 0, none⟩ (.slice g.kA e.key.length g.kc)).setCell ⟨w.heap.size + 1, 1, none⟩ (.int .i64 e.seq)).setCell ⟨w.heap.size + 1, 2, none⟩ (.int .i64 e.kind)).setCell ⟨w.heap.size + 1, 3, none⟩ (.slice g.vA e.val.length g.vc)).setCell ⟨w.heap.size + 1 + 1, 0, none⟩ (.bool false) := ⟨_, rfl⟩
        rw [← hW6]
        obtain ⟨hch, hbf, hbe⟩ := rise_put (p := (e, g)) HLX.out HFX.out (by omega) hW6
        have hIX := HIX.out
        have hz := HSZ.out
        have m1 := HBB.out.1.lt
        have m2 := HBB.out.2.lt
        have hlow : ∀ i, (i = w.heap.size + 1 ∨ i = w.heap.size + 2) → w.heap.size ≤ i := fun i hi => by omega
        refine ⟨HSTEP.out.trans (StepK.of_chg hch (fun i _ hk hs => by have := hIX.kz i hk; omega)), ⟨hIX.below.trans (hch.below hlow hIX.below.size), Nat.le_trans hIX.z hch.size, hIX.dz, hIX.kz, boxed_chg hIX.res hch (fun hs => by omega), ?_, ⟨(e, g), hbe, fun _ => ⟨HEK.out, HLX2.out.go hch (fun b hb => .inr (.inr ?_)) (fun b hb => .inl hb)⟩⟩, HNEXT.out⟩, boxed_chg HBX.out.1 hch (fun hs => by have := HLB.out; have := HZ1.out; omega), boxed_chg HBX.out.2 hch (fun hs => by have := HLB.out; have := HZ1.out; omega)⟩
        · exact hbf
        · have hB := HB.out
          rcases hb with rfl | rfl
          · exact ⟨by omega, not_u8 HLX.out (by decide)⟩
          · exact ⟨by omega, not_u8 HFX.out (by decide)⟩
      · have d1 : decide (0 ≤ s) = true := by simp; omega
        have HNOT : Hid (¬ Rise L) := fun hr => by
          have h1 := (HPL.out HK0.out).1
          obtain ⟨m, hm⟩ : ∃ m, k = m + 1 := ⟨k - 1, by have := HK0.out; omega⟩
          have he := HEK.out
          rw [hm] at h1 he
          have := hr m p.1 e h1 he
          omega
        clear h0 d0 hs hneg
        gi_wp2_with (gi_at_call 37; refine (callsIn_wide.2 HCMP.out).mono ?_; rintro x A5 ⟨rfl, hx5⟩; have HX5 := Lib.hid hx5; have g0 := ext_cell hx5 e0; have g1 := ext_cell hx5 e1; have g2 := ext_cell hx5 e2; have g3 := ext_cell hx5 e3; have r0 := ext_cell hx5 p0; have r1 := ext_cell hx5 p1; have r2 := ext_cell hx5 p2; have r3 := ext_cell hx5 p3; have q8 := ext_cell hx5 q9; have q7 := (boxed_ext HI3.out.fst hx5).frozen; have q6 := (boxed_ext HI3.out.res hx5).cell; have q5 := (boxed_ext HI3.out.res hx5).frozen; clear hx5 e0 e1 e2 e3 p0 p1 p2 p3 q9 qf9)
        obtain ⟨W6, hW6⟩ : ∃ W6, W6 = A5.setCell ⟨w.heap.size, 0, none⟩ (.bool false) := ⟨_, rfl⟩
        rw [← hW6]
        have hIX : RisI w w2.heap.size B0 L D K k A5 := HI3.out.chg HSZ.out (Chg.of_ext HX5.out) (fun i h => .inl h) (fun i h => .inl h)
        have hch : Chg (fun i => i = w.heap.size) A5 W6 := by rw [hW6]; exact Chg.setCell _ _ _ rfl
        have hb6 : Boxed W6 w.heap.size 4 (.bool false) := by rw [hW6]; exact hIX.res.set _
        have hz := HSZ.out
        exact ⟨(StepK.of_chg (S := fun _ => False) (Chg.of_ext HX5.out) (fun _ _ _ h => h)).trans (StepK.of_chg hch (fun i _ hk hs => by have := hIX.kz i hk; omega)), rfl, HNOT.out, hIX.below.trans (hch.below (fun i e => by omega) hIX.below.size), hb6, hIX.dz⟩
  case done =>
    rintro M k W2 D K rfl hDm hKm ⟨hi, hi1, hi2⟩ hk hd
    have hk' : k = L.length := hk
    have HI := Lib.hid hi
    have HDM := Lib.hid (And.intro hDm hd)
    have HRI : Hid (Rise L) := fun j a b ha hb => hi.ris j a b (by rw [hk']; exact (List.getElem?_eq_some_iff.1 hb).1) ha hb
    have q0 := hi.res.cell
    have q1 := hi.res.frozen
    clear hi hi1 hi2 hk hk' hDm hKm hd
    refine ak _ _ ?_
    clear ak
    go_wp2_with fail
    obtain ⟨W3, hW3⟩ : ∃ W3, W3 = W2.setCell ⟨w.heap.size, 0, none⟩ (.bool true) := ⟨_, rfl⟩
    have HS : Hid (Chg (fun i => i = w.heap.size) W2 W3) := by rw [hW3]; exact Chg.setCell _ _ _ rfl
    have HB3 : Hid (Boxed W3 w.heap.size 4 (.bool true)) := by rw [hW3]; exact HI.out.res.set _
    have HD3 : Hid (W3.heap[w2.heap.size]? = some (.deferred (some []))) := (HS.out.block _ (Array.getElem?_eq_some_iff.1 HDM.out.2).1 (by have := HSZ.out; omega)).trans HDM.out.2
    have HBL : Hid (Below w.heap.size w W3) := HI.out.below.trans (HS.out.below (fun i e => by omega) HI.out.below.size)
    rw [← hW3]
    clear hW3 q0 q1
    refine leaves_marks (u := .returning) (by simp) [w2.heap.size] W3 (by simp) (fun i hi => ?_) (fun W4 hc => ?_)
    · rw [List.mem_singleton] at hi; rw [hi]; exact HD3.out
    · have hb := boxed_chg HB3.out hc (fun hi => by rw [List.mem_singleton] at hi; have := HSZ.out; omega)
      refine ⟨_, results_cell_bool Try.results17 _ _ w.heap.size true rfl hb.cell, true, ⟨fun _ => HRI.out, fun _ => rfl⟩, rfl, ?_⟩
      exact HBL.out.trans (hc.below (fun i hi => by rw [List.mem_singleton] at hi; have := HSZ.out; omega) HBL.out.size)
  case stop =>
    rintro D M c W2 rfl hDm ⟨rfl, h1, h2, h3, h4⟩ hd
    have HI := Lib.hid (And.intro h1 (And.intro h2 (And.intro h3 h4)))
    have HDM := Lib.hid (And.intro hDm hd)
    clear h1 h2 h3 h4 hDm hd ak
    gi_wp2_with fail
    refine leaves_marks (u := .returning) (by simp) [w2.heap.size] W2 (by simp) (fun i hi => ?_) (fun W4 hc => ?_)
    · rw [List.mem_singleton] at hi; rw [hi]; exact HDM.out.2
    · have hb := boxed_chg HI.out.2.2.1 hc (fun hi => by rw [List.mem_singleton] at hi; have := HSZ.out; omega)
      refine ⟨_, results_cell_bool Try.results17 _ _ w.heap.size false rfl hb.cell, false, ⟨fun h => (by cases h), fun h => absurd h HI.out.1⟩, rfl, ?_⟩
      exact HI.out.2.1.trans (hc.below (fun i hi => by rw [List.mem_singleton] at hi; have := HSZ.out; omega) HI.out.2.1.size)
end Go.Proofs.Ytlnihaeeoolkhaa

/- pass: what stands first in any list, and in an entry's place, is taken away (merge). -/
namespace Go.Proofs.Ytlnihaeeoolkhaa
open Go.ChangeShapes Go.WideShapes Go.ChangeAt Go.RowKit Go.Shelf

theorem passL_at {e : Ent} {l : List Ent} {m : Nat} (h : ∀ (i : Nat) (a : Ent), i < m → l[i]? = some a → cmpE a e = 0) {x : Ent} (hx : l[m]? = some x) (hn : cmpE x e ≠ 0) : passL e l = l.drop m := by
  unfold passL
  induction m generalizing l with
  | zero =>
    cases l with
    | nil => simp at hx
    | cons a t =>
      simp only [List.getElem?_cons_zero, Option.some.injEq] at hx
      subst hx
      rw [List.dropWhile_cons_of_neg (by simpa using hn), List.drop_zero]
  | succ m ih =>
    cases l with
    | nil => simp at hx
    | cons a t =>
      rw [List.dropWhile_cons_of_pos (by simpa using h 0 a (by omega) rfl), List.drop_succ_cons]
      exact ih (fun i b hi hb => h (i + 1) b (by omega) (by simpa using hb)) (by simpa using hx)
theorem passL_all {e : Ent} {l : List Ent} (h : ∀ (i : Nat) (a : Ent), l[i]? = some a → cmpE a e = 0) : passL e l = [] := by
  unfold passL
  induction l with
  | nil => rfl
  | cons a t ih =>
    rw [List.dropWhile_cons_of_pos (by simpa using h 0 a rfl)]
    exact ih fun i b hb => h (i + 1) b (by simpa using hb)
/-- A list from a place on. -/
theorem RwOk.drop {base hi c b o k : Nat} {R : List (Ent × Hd)} {w : World} (h : RwOk base hi ⟨some ⟨b, o, Option.none⟩, c, R⟩ w) (_hk : k ≤ R.length) : RwOk base hi ⟨some ⟨b, o + k * 4, Option.none⟩, c - k, R.drop k⟩ w := by
  refine ⟨?_, ?_, ?_, fun p hp => h.mine p (List.mem_of_mem_drop hp)⟩
  · rcases h.row with h1 | ⟨b', o', cur, h1, h2, h3, h4, h5⟩
    · have h1 : R = [] := h1
      exact .inl (by show R.drop k = []; rw [h1]; simp)
    · have h1 : some (⟨b, o, Option.none⟩ : Addr) = some ⟨b', o', Option.none⟩ := h1
      injection h1 with h1; injection h1 with e1 e2
      subst e1 e2
      refine .inr ⟨b, o + k * 4, cur, rfl, h2, h3, h4, fun j v hj => ?_⟩
      have hd : erow (R.drop k) = (erow R).drop (k * 4) := by
        have hs : erow R = erow (R.take k) ++ erow (R.drop k) := by rw [← erow_append, List.take_append_drop]
        rw [hs, List.drop_left' (by rw [erow_length, List.length_take]; omega)]
      rw [hd, List.getElem?_drop] at hj
      rw [Nat.add_assoc]
      exact h5 _ v hj
  · have h9 : R.length ≤ c := h.cap
    show (R.drop k).length ≤ c - k
    rw [List.length_drop]; omega
  · have h9 : R.length ≤ 1000000 := h.len
    show (R.drop k).length ≤ 1000000
    rw [List.length_drop]; omega
theorem RwOk.none {base hi : Nat} {w : World} : RwOk base hi ⟨Option.none, 0, []⟩ w := ⟨.inl rfl, Nat.le_refl _, Nat.zero_le _, fun p hp => (by cases hp)⟩
/-- One list put in another one's place. -/
theorem Rows.put {base hi k cap g : Nat} {n : Nat} {rs : List Rw} {r : Rw} {w : World} (h : Rows base hi (.slice (some ⟨g, 0, Option.none⟩) n cap) rs w) (hk : k < rs.length) (hr : RwOk base hi r w) :
    Rows base hi (.slice (some ⟨g, 0, Option.none⟩) n cap) (rs.set k r) (w.setCell ⟨g, k, Option.none⟩ r.v) := by
  obtain ⟨r0, hr0⟩ : ∃ r0, rs[k]? = some r0 := ⟨_, List.getElem?_eq_getElem hk⟩
  obtain ⟨hn, g', cur, hA, h2, h3, h4, h5, h6⟩ := h.cell hr0
  injection hA with hA
  injection hA with hA
  subst hA
  have keep : ∀ r1 : Rw, RwOk base hi r1 w → RwOk base hi r1 (w.setCell ⟨g, k, Option.none⟩ r.v) := fun r1 h1 => h1.keep (Nat.le_refl _) fun b c t _ _ hb ht => by
    refine Below.heap_setCell _ _ _ _ fun e => ?_
    have e : b = g := e
    rw [e, h4] at hb
    injection hb with hb
    injection hb with _ hb
    rcases ht with ht | ht <;> rw [ht] at hb <;> exact absurd hb (by decide)
  refine ⟨⟨some ⟨g, 0, Option.none⟩, cap, by rw [List.length_set, hn], ?_, .inr ⟨g, cur.setIfInBounds k r.v, rfl, h2, h3, heap_setG _ h4, fun i r1 hi => ?_⟩⟩, fun r1 h1 => ?_⟩
  · obtain ⟨_, cap', h7, h8, _⟩ := h.sl
    injection h7 with _ _ h7
    rw [List.length_set]; omega
  · rw [List.getElem?_set] at hi
    have hsz : k < cur.size := (Array.getElem?_eq_some_iff.1 h5).1
    rw [Array.getElem?_setIfInBounds]
    split at hi
    · rename_i e
      subst e
      injection hi with hi
      rw [if_pos rfl, if_pos hsz, hi]
    · rename_i e
      rw [if_neg e]
      exact h6 i r1 hi
  · rcases List.mem_or_eq_of_mem_set h1 with h1 | h1
    · exact keep r1 (h.each r1 h1)
    · rw [h1]; exact keep r hr
/-- What is done behind the k first lists. -/
structure PassI (base hi : Nat) (v : Value) (rs : List Rw) (e : Ent) (w1 : World) (k : Nat) (rs' : List Rw) (A : World) : Prop where
  rows : Rows base hi v rs' A
  len : rs'.length = rs.length
  rest : ∀ j, k ≤ j → rs'[j]? = rs[j]?
  done : ∀ j r r', j < k → rs[j]? = some r → rs'[j]? = some r' → r'.l = passL e r.l
  chg : Chg (fun b => v.ownBlock = some b) w1 A
theorem PassI.ext {base hi : Nat} {v : Value} {rs rs' : List Rw} {e : Ent} {w1 A A' : World} {k : Nat} (h : PassI base hi v rs e w1 k rs' A) (hx : Ext A A') : PassI base hi v rs e w1 k rs' A' :=
  ⟨h.rows.ext hx (Nat.le_refl _), h.len, h.rest, h.done, h.chg.trans (Chg.of_ext hx)⟩
theorem PassI.next {base hi k cap g n : Nat} {rs rs' : List Rw} {r r2 : Rw} {e : Ent} {w1 A : World} (h : PassI base hi (.slice (some ⟨g, 0, Option.none⟩) n cap) rs e w1 k rs' A) (hr : rs[k]? = some r) (hr2 : RwOk base hi r2 A) (hl : r2.l = passL e r.l) :
    PassI base hi (.slice (some ⟨g, 0, Option.none⟩) n cap) rs e w1 (k + 1) (rs'.set k r2) (A.setCell ⟨g, k, Option.none⟩ r2.v) := by
  have hk : k < rs.length := (List.getElem?_eq_some_iff.1 hr).1
  have hk' : k < rs'.length := by rw [h.len]; exact hk
  refine ⟨h.rows.put hk' hr2, by rw [List.length_set]; exact h.len, fun j hj => ?_, fun j a b hj ha hb => ?_, h.chg.trans (Chg.setCell _ _ _ rfl)⟩
  · rw [List.getElem?_set, if_neg (by omega)]; exact h.rest j (by omega)
  · rw [List.getElem?_set] at hb
    split at hb
    · rename_i e1
      subst e1
      injection hb with hb
      rw [hr] at ha
      injection ha with ha
      rw [← hb, ← ha]; exact hl
    · exact h.done j a b (by omega) ha hb

def PassAns (base hi : Nat) (v : Value) (rs : List Rw) (e : Ent) (w : World) (x : Ending) (w' : World) : Prop := (∃ y, x = .returned y) ∧ ∃ rs', Rows base hi v rs' w' ∧ rs'.map Rw.l = (rs.map Rw.l).map (passL e) ∧ Chg (fun b => v.ownBlock = some b) w w'
theorem PassI.all {base hi n : Nat} {v : Value} {rs rs' : List Rw} {e : Ent} {w1 A : World} (h : PassI base hi v rs e w1 n rs' A) (hn : n = rs.length) : rs'.map Rw.l = (rs.map Rw.l).map (passL e) := by
  apply List.ext_getElem?
  intro j
  rw [List.getElem?_map, List.getElem?_map, List.getElem?_map]
  by_cases hj : j < rs.length
  · obtain ⟨r, hr⟩ : ∃ r, rs[j]? = some r := ⟨_, List.getElem?_eq_getElem hj⟩
    obtain ⟨r', hr'⟩ : ∃ r, rs'[j]? = some r := ⟨_, List.getElem?_eq_getElem (by rw [h.len]; exact hj)⟩
    rw [hr, hr']
    exact congrArg some (h.done j r r' (by omega) hr hr')
  · have h1 := h.len; rw [List.getElem?_eq_none (show rs'.length ≤ j by omega), List.getElem?_eq_none (show rs.length ≤ j by omega)]; rfl

set_option maxRecDepth 100000 in
set_option maxHeartbeats 8000000 in
theorem pass_any {w : World} {base hi : Nat} {v : Value} {rs : List Rw} {p : Ent × Hd} (h : Rows base hi v rs w) (hhi : hi ≤ w.heap.size) (hlen : rs.length ≤ 1000) (hp : Mine base p w) :
    Calls Try.prog 44 #[v, p.1.at_ p.2] w (PassAns base hi v rs p.1 w) := by
  obtain ⟨w1, hw1⟩ : ∃ w1, w1 = w.alloc (.cells #[.slice p.2.kA p.1.key.length p.2.kc, .int .i64 p.1.seq, .int .i64 p.1.kind, .slice p.2.vA p.1.val.length p.2.vc] 46) := ⟨_, rfl⟩
  have HX1 : Hid (Ext w w1) := by rw [hw1]; exact ext_alloc _ _
  have HZ1 : Hid (w1.heap.size = w.heap.size + 1) := by rw [hw1]; simp [Hid]
  have HB1 : Hid (w1.heap[w.heap.size]? = some (.cells #[.slice p.2.kA p.1.key.length p.2.kc, .int .i64 p.1.seq, .int .i64 p.1.kind, .slice p.2.vA p.1.val.length p.2.vc] 46 (0, 0))) := by rw [hw1]; exact heap_at _ _ rfl
  have HE := Lib.hid (h.ext HX1.out (Nat.le_refl _))
  have HP := Lib.hid (hp.below HX1.out)
  have HHI := Lib.hid hhi
  have HL := Lib.hid hlen
  obtain ⟨A, cap, rfl, hcap, hcase⟩ := h.sl
  obtain ⟨n, hn⟩ : ∃ n, n = rs.length := ⟨_, rfl⟩
  rw [← hn] at HE ⊢
  have HN := Lib.hid hn
  have hnI : (n : Int) ≤ 1000 := by omega
  have hn0 : (0 : Int) ≤ (n : Int) := by omega
  have HG0 : Hid (∀ g, (Value.slice A n cap).ownBlock = some g → g < hi ∧ ∃ cur, w1.heap[g]? = some (.cells cur 22 (0, 0))) := fun g hg => by
    rcases hcase with hc | ⟨g', cur, hA, _, h2, h3, _⟩
    · rw [hc.1] at hg; cases hg
    · rw [hA] at hg
      injection hg with hg
      have hg : g' = g := hg
      subst hg
      exact ⟨h2, cur, ext_heap HX1.out h3⟩
  unfold Ent.at_
  clear h hlen hcap hcase hn hp hhi
  go_enter Try.func44, Try.ntmps44
  go_wp2_with fail
  rw [← hw1]
  clear hw1
  go_step3
  go_wp2
  go_step3
  go_wp2
  go_loopg [4, 5, 6, 7, 10, 17] (n + 1) (fun gh _ _ _ _ a _ wr => ∃ (k : Nat) (rs' : List Rw), gh + k = n + 1 ∧ k ≤ n ∧ a = .int .i64 (k : Int) ∧ Hid (PassI base hi (.slice A n cap) rs p.1 w1 k rs' wr))
  case atStart => exact ⟨0, rs, rfl, Nat.zero_le _, rfl, ⟨HE.out, rfl, fun _ _ => rfl, fun j _ _ hj => by omega, Chg.refl _ _⟩⟩
  case round =>
    obtain ⟨k, rs', hgk, hk, rfl, HI⟩ := hrel
    have HGK := Lib.hid hgk
    clear hgk
    by_cases hlt : k < n
    rotate_left
    · have d : decide ((k : Int) < (n : Int)) = false := by simp; omega
      have dn : decide (k < n) = false := by simp; omega
      have hkn : k = n := by omega
      subst hkn
      clear hlt hk
      go_wp2_with fail
      refine bodyPost_end (results_none rfl _ _ _) rfl ?_
      refine ⟨⟨_, rfl⟩, rs', HI.out.rows, HI.out.all HN.out, (Chg.of_ext HX1.out).trans HI.out.chg⟩
    have d : decide ((k : Int) < (n : Int)) = true := by simp; omega
    have dn : decide (k < n) = true := by simp; omega
    have hlt2 : k < rs.length := by have := HN.out; omega
    obtain ⟨r, hr⟩ : ∃ r, rs[k]? = some r := ⟨_, List.getElem?_eq_getElem hlt2⟩
    have hr' : rs'[k]? = some r := (HI.out.rest k (Nat.le_refl _)).trans hr
    have HRr := Lib.hid (HI.out.rows.each r (List.mem_of_getElem? hr'))
    obtain ⟨hnn, g0, cur, rfl, hgb, hgh, hg, hcur, hall⟩ := HI.out.rows.cell hr'
    clear hnn hgb hall
    have HGH := Lib.hid hgh
    have HG := Lib.hid hg
    have HR1 := Lib.hid hr
    have q0 := cell_of hg hcur
    have n1 : (0 : Int) ≤ (k : Int) := by omega
    have n2 : (k : Int) < (n : Int) := by omega
    have HLT := Lib.hid hlt
    have HBE : Hid (wr.heap[w.heap.size]? = some (.cells #[.slice p.2.kA p.1.key.length p.2.kc, .int .i64 p.1.seq, .int .i64 p.1.kind, .slice p.2.vA p.1.val.length p.2.vc] 46 (0, 0))) := (HI.out.chg.block _ (Array.getElem?_eq_some_iff.1 HB1.out).1 (fun e => by
      injection e with e
      have e : g0 = w.heap.size := e
      have := HHI.out; omega)).trans HB1.out
    have HPM : Hid (Mine base p wr) := by
      have hkeep : ∀ {l : List Nat} {v : Value}, Own base l v w1 → Own base l v wr := fun ho => row_kept ho fun g hgg => HI.out.chg.block g (row_lt ho g hgg).2 fun e => by
        injection e with e
        have e : g0 = g := e
        obtain ⟨_, hg2, c1, hc1⟩ := rowN_lt ho g hgg
        obtain ⟨_, c2, hc2⟩ := HG0.out g0 rfl
        rw [← e, hc2] at hc1
        injection hc1 with hc1
        injection hc1 with _ hc1
        exact absurd hc1 (by decide)
      exact ⟨hkeep HP.out.k, hkeep HP.out.v, HP.out.good⟩
    obtain ⟨rA, rc, R⟩ := r
    obtain ⟨N, hN⟩ : ∃ N, N = R.length := ⟨_, rfl⟩
    unfold Rw.v at q0
    dsimp only at q0
    rw [← hN] at q0
    have HNR := Lib.hid hN
    have hNI : (N : Int) ≤ 1000000 := by have := HRr.out.len; have : R.length ≤ 1000000 := this; omega
    have hN0 : (0 : Int) ≤ (N : Int) := by omega
    clear hr hr' hg hgh hcur hlt hlt2 hk hN
    obtain ⟨wo, rfl⟩ : ∃ u, u = wr := ⟨_, rfl⟩
    go_wp2_with fail
    go_loopg [6, 7, 17] (N + 1) (fun gh2 _ _ a wi => ∃ m : Nat, gh2 + m = N + 1 ∧ m ≤ N ∧ a = .int .i64 (m : Int) ∧ Hid (∀ (i : Nat) (x : Ent), i < m → (R.map Prod.fst)[i]? = some x → cmpE x p.1 = 0) ∧ Hid (Ext wo wi))
    case atStart => exact ⟨0, rfl, Nat.zero_le _, rfl, fun i x hi => by omega, Ext.refl _⟩
    case round =>
      obtain ⟨m, hgm, hm, rfl, HS, HX⟩ := hrel
      have HGM := Lib.hid hgm
      clear hgm
      by_cases hml : m < N
      rotate_left
      · have e : decide ((m : Int) < (N : Int)) = false := by simp; omega
        have en : decide (m < N) = false := by simp; omega
        have hmN : m = N := by omega
        have HALL : Hid (passL p.1 (Rw.l ⟨rA, rc, R⟩) = []) := passL_all fun i x hx => HS.out i x (by
          have := (List.getElem?_eq_some_iff.1 hx).1
          have h9 : i < (R.map Prod.fst).length := this
          rw [List.length_map] at h9
          have := HNR.out; omega) hx
        have hg := ext_heap HX.out HG.out
        have qf : wr.frozen? ⟨g0, k, none⟩ = false := by simp [World.frozen?, hg]
        have q1 := ext_cell HX.out q0
        clear hml hm hmN hg q0
        go_wp2_with fail
        have hnx := (HI.out.ext HX.out).next HR1.out (RwOk.none (base := base) (hi := hi)) HALL.out.symm
        have HNX := Lib.hid hnx
        unfold Rw.v at HNX
        dsimp only at HNX
        clear hnx
        go_roundg (n + 1 - (k + 1))
        case rel => exact ⟨k + 1, _, by have := HLT.out; omega, HLT.out, rfl, HNX⟩
        case measure => have := HGK.out; have := HLT.out; omega
      have e : decide ((m : Int) < (N : Int)) = true := by simp; omega
      have en : decide (m < N) = true := by simp; omega
      obtain ⟨q, hq⟩ : ∃ q, R[m]? = some q := ⟨_, List.getElem?_eq_getElem (by have := HNR.out; omega)⟩
      obtain ⟨b, o, hrA⟩ := HRr.out.base (by show 0 < R.length; have := HNR.out; omega)
      have hrA : rA = some ⟨b, o, none⟩ := hrA
      subst hrA
      obtain ⟨c0, c1, c2, c3⟩ := (HRr.out.ext HX.out (Nat.le_refl _)).get hq
      have HQ := Lib.hid hq
      have n3 : (0 : Int) ≤ (m : Int) := by omega
      have n4 : (m : Int) < (N : Int) := by omega
      have HML := Lib.hid hml
      obtain ⟨w5, hw5⟩ : ∃ w5, w5 = wr.alloc (.cells #[.slice q.2.kA q.1.key.length q.2.kc, .int .i64 q.1.seq, .int .i64 q.1.kind, .slice q.2.vA q.1.val.length q.2.vc] 46) := ⟨_, rfl⟩
      have HX5 : Hid (Ext wr w5) := by rw [hw5]; exact ext_alloc _ _
      have HB5 : Hid (w5.heap[wr.heap.size]? = some (.cells #[.slice q.2.kA q.1.key.length q.2.kc, .int .i64 q.1.seq, .int .i64 q.1.kind, .slice q.2.vA q.1.val.length q.2.vc] 46 (0, 0))) := by rw [hw5]; exact heap_at _ _ rfl
      have HXX : Hid (Ext wo w5) := HX.out.trans HX5.out
      clear hq hml hm
      go_upto_region 7 with (fail)
      rw [← hw5]
      clear hw5 c0 c1 c2 c3
      have hbe := ext_heap HXX.out HBE.out
      have e0 := cell_of HB5.out (k := 0) rfl
      have e1 := cell_of HB5.out (k := 1) rfl
      have e2 := cell_of HB5.out (k := 2) rfl
      have e3 := cell_of HB5.out (k := 3) rfl
      have a0 := cell_of hbe (k := 0) rfl
      have a1 := cell_of hbe (k := 1) rfl
      have a2 := cell_of hbe (k := 2) rfl
      have a3 := cell_of hbe (k := 3) rfl
      obtain ⟨s, hs⟩ : ∃ s, s = cmpE q.1 p.1 := ⟨_, rfl⟩
      have HCMP := Lib.hid (compare_any ((HRr.out.mine q (List.mem_of_getElem? HQ.out)).1.below HXX.out).em (HPM.out.below HXX.out).em (Nat.le_refl _) (Nat.le_refl _))
      unfold Ent.at_ at HCMP
      rw [← hs] at HCMP
      have hx1 : (R.map Prod.fst)[m]? = some q.1 := by rw [List.getElem?_map, HQ.out]; rfl
      by_cases hs0 : s = 0
      · have d5 : (s != 0) = false := by simp [hs0]
        have HNX : Hid (∀ (i : Nat) (x : Ent), i < m + 1 → (R.map Prod.fst)[i]? = some x → cmpE x p.1 = 0) := fun i x hi hx => by
          by_cases him : i = m
          · rw [him, hx1] at hx
            injection hx with hx
            rw [← hx, ← hs]; exact hs0
          · exact HS.out i x (by omega) hx
        clear hs hs0 hx1 hbe
        go_wp2_with (refine HCMP.out.mono ?_; rintro x w6 ⟨rfl, hx6⟩; have HX6 := Lib.hid hx6; clear hx6)
        go_roundg (N + 1 - (m + 1))
        case rel => exact ⟨m + 1, by have := HML.out; omega, HML.out, rfl, HNX, HXX.out.trans HX6.out⟩
        case measure => have := HGM.out; have := HML.out; omega
      · have d5 : (s != 0) = true := by simp [hs0]
        have HDR : Hid (passL p.1 (Rw.l ⟨some ⟨b, o, none⟩, rc, R⟩) = (R.map Prod.fst).drop m) := passL_at HS.out hx1 (by rw [← hs]; exact hs0)
        have HCCP : Hid (N ≤ rc) := by have : R.length ≤ rc := HRr.out.cap; have := HNR.out; unfold Hid; omega
        have n5 : (m : Int) ≤ (N : Int) := by omega
        have n6 : (N : Int) ≤ (rc : Int) := by have := HCCP.out; omega
        have n7 : ¬ rc = m := by have := HCCP.out; have := HML.out; omega
        clear hs hs0 hx1 hbe
        go_wp2_with (refine HCMP.out.mono ?_; rintro x w6 ⟨rfl, hx6⟩; have HX6 := Lib.hid hx6; have hg := ext_heap (HXX.out.trans hx6) HG.out; have qf : w6.frozen? ⟨g0, k, none⟩ = false := (by simp [World.frozen?, hg]); have q1 := ext_cell (HXX.out.trans hx6) q0; clear hx6 hg)
        have hnx := (HI.out.ext (HXX.out.trans HX6.out)).next HR1.out (((HRr.out.ext (HXX.out.trans HX6.out) (Nat.le_refl _)).drop (k := m) (by have := HML.out; have := HNR.out; omega))) (by rw [HDR.out]; unfold Rw.l; rw [List.map_drop])
        have HNX := Lib.hid hnx
        unfold Rw.v at HNX
        dsimp only at HNX
        rw [List.length_drop, ← HNR.out] at HNX
        clear hnx qf q1
        go_roundg (n + 1 - (k + 1))
        case rel => exact ⟨k + 1, _, by have := HLT.out; omega, HLT.out, rfl, HNX⟩
        case measure => have := HGK.out; have := HLT.out; omega
end Go.Proofs.Ytlnihaeeoolkhaa

/- Join: its orders' copy, and the function that goes over them run together (merge). -/
namespace Go.Proofs.Ytlnihaeeoolkhaa
open Go.ChangeShapes Go.WideShapes Go.ChangeAt Go.RowKit Go.Shelf
attribute [local go_sem] Oper.semAt_some

theorem finfo : (Try.prog.info? 27).map (fun i => (i.zero, i.size, i.bytes)) = some (some .nilFunc, 1, 8) := by kernel_rfl
theorem nilqf (A : Option Addr) (n c : Nat) (w : World) : (binOp .eql 62 (.slice A n c) (.slice none 0 0)).run Try.prog w = .ok (.bool A.isNone) w := Lib.run_eql_slice_nil w _ _ A n c 0 0 Try.underlying62
theorem fv_one (fs : List (Nat × Array Value)) : ∀ u ∈ fs.map fv, u.oneCell' = true := by
  intro u hu
  obtain ⟨f, _, rfl⟩ := List.mem_map.1 hu
  rfl
/-- The call's own new row of func values. -/
def NewF (w : World) (fs : List (Nat × Array Value)) (e : Ending) (w' : World) : Prop := ∃ v, e = .returned v ∧ w'.ownsRow w.heap.size 27 1 v fs.length (fs.map fv) ∧ Ext w w'

set_option maxHeartbeats 1000000 in
theorem clonef_any {A : Option Addr} {c lo hi : Nat} {fs : List (Nat × Array Value)} {w : World} (h : Sl w lo hi A (fs.map fv)) (hhi : hi ≤ w.heap.size) (hl : fs.length ≤ 1000) :
    Calls Try.prog 40 #[.slice A fs.length c] w (NewF w fs) := by
  obtain ⟨i0, hi0, hz0, hz1, hz2⟩ := info_parts finfo
  have HI := Lib.hid hi0
  clear hi0
  rcases A with _ | a
  · have hl0 : fs = [] := by
      rcases h with h | ⟨b, o, he, _⟩
      · simpa using h
      · cases he
    subst hl0
    have hq := nilqf none 0 c
    clear h hl
    go_enter Try.func40, Try.ntmps40
    go_wp2_with fail
    go_ret
    exact ⟨_, rfl, World.ownsRow_nil _ _ _ _, Ext.refl _⟩
  · have hq := fun n => nilqf (some a) n c
    have HL := Lib.hid hl
    have HH := Lib.hid h
    clear h hl
    go_enter Try.func40, Try.ntmps40
    go_wp2_with (at_builtin; refine wpList_addall rfl (.tmp 5) (.tmp 6) 62 rfl w.heap.size 27 i0 .nilFunc 8 Try.underlying62 HI.out hz0 hz1 hz2 rfl _ _ _ rfl (own_empty w _) lo hi (some a) fs.length c (fs.map fv) rfl ?c1 ?c2 ?c3 (fv_one fs) ?c4 ?c5 ?c6 ?_)
    case c1 => intro h; cases h
    case c2 => exact List.length_map _
    case c3 => exact Sl.alloc HH.out hhi _
    case c4 => have := HL.out; unfold maxLen; omega
    case c5 => have := HL.out; omega
    case c6 => simp
    intro v1 w1 hown1 hb1
    go_wp2
    go_ret
    exact ⟨v1, rfl, by simpa using hown1, hb1 _ ((Below.refl _ _).alloc (Nat.le_refl _) _)⟩

set_option maxRecDepth 100000 in
set_option maxHeartbeats 8000000 in
theorem mjoin_any {A : Option Addr} {c lo hi : Nat} {fs : List (Nat × Array Value)} {w : World} (h : Sl w lo hi A (fs.map fv)) (hhi : hi ≤ w.heap.size) (hl : fs.length ≤ 1000) :
    Calls Try.prog 20 #[.slice A fs.length c] w fun x w' => ∃ bo A' c', x = .returned (.func (.func 41) #[] #[.pointer (some ⟨bo, 0, none⟩)]) ∧ Boxed w' bo 62 (.slice A' fs.length c') ∧ Sl w' 0 w'.heap.size A' (fs.map fv) ∧ Ext w w' := by
  have HC := Lib.hid (clonef_any (c := c) h hhi hl)
  clear h hhi hl
  go_enter Try.func20, Try.ntmps20
  go_wp2_with fail
  refine HC.out.mono ?_
  rintro x w1 ⟨v, rfl, ho, hx⟩
  obtain ⟨A', c', rfl, _, _, _, hsl⟩ := Sl.of_own ho
  have HS := Lib.hid hsl
  have HX := Lib.hid hx
  clear ho hsl hx
  go_wp2_with fail
  go_ret
  exact ⟨w1.heap.size, A', c', rfl, boxed_alloc, (HS.out.alloc (Nat.le_refl _) _).wide (Nat.zero_le _) (by simp), HX.out.trans (ext_alloc _ _)⟩

theorem joinF_mem : ∀ {n : Nat} {ls : List (List Ent)} {e : Ent}, e ∈ joinF n ls → ∃ l ∈ ls, e ∈ l
  | 0, _, _, h => by simp [joinF] at h
  | n + 1, ls, e, h => by
    unfold joinF at h
    split at h
    · cases h
    · rename_i y hy
      rcases List.mem_cons.1 h with h | h
      · obtain ⟨_, t, ht⟩ := bestTo_at hy
        exact ⟨_, List.mem_of_getElem? ht, by rw [h]; exact List.mem_cons_self⟩
      · obtain ⟨l, hl, he⟩ := joinF_mem h
        obtain ⟨l0, hl0, rfl⟩ := List.mem_map.1 hl
        exact ⟨l0, hl0, (List.dropWhile_suffix _).subset he⟩
theorem joinF_len : ∀ (n : Nat) (ls : List (List Ent)), (joinF n ls).length ≤ n
  | 0, _ => by simp [joinF]
  | n + 1, ls => by
    unfold joinF
    split
    · simp
    · have := joinF_len n
      simp only [List.length_cons]
      exact Nat.succ_le_succ (this _)
theorem Rows.keepK {base hi : Nat} {v : Value} {rs : List Rw} {w w' : World} (h : Rows base hi v rs w) (hk : ∀ b, base ≤ b → b < hi → w'.heap[b]? = w.heap[b]?) : Rows base hi v rs w' := by
  refine ⟨?_, fun r hr => (h.each r hr).keep (Nat.le_refl _) fun b _ _ h1 h2 _ _ => hk b h1 h2⟩
  obtain ⟨A, cap, h1, h2, h3⟩ := h.sl
  refine ⟨A, cap, h1, h2, ?_⟩
  rcases h3 with h3 | ⟨g, cur, h4, h5, h6, h7, h8⟩
  · exact .inl h3
  · exact .inr ⟨g, cur, h4, h5, h6, (hk g h5 h6).trans h7, h8⟩
theorem Rows.own {base hi : Nat} {v : Value} {rs : List Rw} {w : World} (h : Rows base hi v rs w) : ∀ b, v.ownBlock = some b → base ≤ b ∧ b < hi ∧ NotU8 w b := by
  intro b hb
  obtain ⟨A, cap, rfl, h2, h3⟩ := h.sl
  rcases h3 with h3 | ⟨g, cur, h4, h5, h6, h7, h8⟩
  · rw [h3.1] at hb; cases hb
  · rw [h4] at hb
    injection hb with hb
    have hb : g = b := hb
    subst hb
    exact ⟨h5, h6, not_u8 h7 (by decide)⟩
theorem live_mine {B0 base : Nat} {D : Nat → Prop} {x : Ent × Hd} {A : World} (h : Mine base x A) (hD : ∀ b, D b → NotU8 A b) : Live B0 D x A := by
  refine ⟨h.em, fun A' T hc hT => ?_⟩
  have kp : ∀ {l : List Nat} {v : Value}, Own base l v A → Own base l v A' := fun ho => row_kept ho fun g hg => by
    obtain ⟨_, hlt, cc, hcc⟩ := rowN_lt ho g hg
    refine hc.block g hlt fun ht => ?_
    rcases hT g ht with h1 | h1 | h1
    · exact hD g h1 _ _ hcc
    · omega
    · exact h1.2 _ _ hcc
  exact (Mine.mk (kp h.k) (kp h.v) h.good).em
end Go.Proofs.Ytlnihaeeoolkhaa

/- The function that Join answers goes over its orders' entries run together (merge). -/
namespace Go.Proofs.Ytlnihaeeoolkhaa
open Go.ChangeShapes Go.WideShapes Go.ChangeAt Go.RowKit Go.Shelf
attribute [local go_sem] Oper.semAt_some

theorem enters_join1 : ∀ args w, (callFunc 41 args).run Try.prog w = .ok (.enter 41 args) w := enters_of Try.func41 (by kernel_rfl) rfl
set_option maxRecDepth 100000 in
set_option maxHeartbeats 8000000 in
theorem joinfn_iter {w : World} {bo c lo hi B0 : Nat} {A : Option Addr} {fs : List (Nat × Array Value)} {Ls : List (List Ent)} (h : Sl w lo hi A (fs.map fv)) (hhi : hi ≤ w.heap.size) (hb : Boxed w bo 62 (.slice A fs.length c)) (hn : fs.length = Ls.length) (hlen : Ls.length ≤ 1000)
    (hg : ∀ (i : Nat) (f : Nat × Array Value) (L : List Ent), fs[i]? = some f → Ls[i]? = some L → Goes f.1 f.2 B0 L w) (hB0 : B0 ≤ w.heap.size) :
    ∀ u, Ext w u → MIter 41 #[.pointer (some ⟨bo, 0, none⟩)] B0 (joinF (totL Ls) Ls) (fun A => Below w.heap.size w A) (fun _ => False) u := by
  intro u hu mm lab J Jx W hx hC hJ hJx h0 hY
  have hw := Ext.trans hu hx
  have c0 := Boxed.cell (boxed_ext hb hw)
  have HGA := Lib.hid (gathered_any (c := c) (h.below hw hhi) (Nat.le_trans hhi hw.size) hn hlen (fun i f L h1 h2 => (hg i f L h1 h2).ext hw))
  have HL := Lib.hid (show Ls.length ≤ 1000 from hlen)
  have HC := Lib.hid hC
  have HJ := Lib.hid hJ
  have HJ0 := Lib.hid h0
  have HY := Lib.hid hY
  obtain ⟨LL, hLL⟩ : ∃ LL, LL = joinF (totL Ls) Ls := ⟨_, rfl⟩
  rw [← hLL] at HY ⊢
  have HLL := Lib.hid hLL
  have HB := Lib.hid (Nat.le_trans hB0 hw.size)
  clear h hhi hb hn hlen hg hC hJ hJx h0 hY hu hx hw hLL hB0
  have hf1 : Fence.wide.fn 42 := trivial
  have hf2 : Fence.wide.fn 43 := trivial
  have hf3 : Fence.wide.fn 44 := trivial
  refine (callsIn_wide (n := 6)).1 ?_
  refine callsIn_of_wp Try.func41 rfl trivial ?_ rfl
  simp only [Try.ntmps41, List.size_toArray, List.length_cons, List.length_nil, Nat.reduceAdd, Nat.reduceSub, Array.replicate_succ, Array.replicate_zero, List.push_toArray, List.append_toArray, List.nil_append, List.cons_append]
  gi_wp2_with (gi_at_call 42; refine (callsIn_wide.2 HGA.out).mono ?_; rintro x w1 ⟨v, rs, rfl, hrows, hls, hx1⟩; have HR1 := Lib.hid hrows; have HLS := Lib.hid hls; have HX1 := Lib.hid hx1; have HN1 : Hid (rs.length ≤ 1000) := (by have h9 := congrArg List.length hls; rw [List.length_map] at h9; have := HL.out; unfold Hid; omega); have HLE := Lib.hid (least_any hrows HN1.out); clear hrows hls hx1)
  refine (callsIn_wide.2 HLE.out).mono ?_
  obtain ⟨a1, ha1⟩ : ∃ a, a = atV (bestTo (rs.map Rw.l) (rs.map Rw.l).length) := ⟨_, rfl⟩
  have HA1 := Lib.hid ha1
  unfold LeastAns
  rw [← ha1]
  clear ha1
  rintro x w2 ⟨rfl, hx2⟩
  have HX2 := Lib.hid hx2
  obtain ⟨D, hD⟩ : ∃ D : Nat → Prop, D = fun b => v.ownBlock = some b := ⟨_, rfl⟩
  obtain ⟨K, hK⟩ : ∃ K : Nat → Prop, K = fun b => W.heap.size ≤ b ∧ b < w1.heap.size := ⟨_, rfl⟩
  have HD := Lib.hid hD
  have HK := Lib.hid hK
  have HXW : Hid (Ext W w2) := HX1.out.trans HX2.out
  have HR2 : Hid (Rows W.heap.size w1.heap.size v rs w2) := HR1.out.ext HX2.out (Nat.le_refl _)
  have HJS : Hid (J D K 0 w2) := HJ0.out w2 D K HXW.out (fun i hi => .inr (by rw [hD] at hi; exact (HR1.out.own i hi).1)) (fun i hi => .inr (by rw [hK] at hi; exact hi.1))
  have HSEQ : Hid (∃ m, totL (rs.map Rw.l) ≤ m ∧ LL.drop 0 = joinF m (rs.map Rw.l)) := ⟨totL Ls, by rw [HLS.out]; exact Nat.le_refl _, by rw [HLS.out, HLL.out]; rfl⟩
  have HSZ : Hid (w1.heap.size ≤ w2.heap.size) := HX2.out.size
  clear hx2 hD hK
  gi_wp2
  gi_loopg [4, 5] (LL.length + 1) (fun gh a _ wr => ∃ (k : Nat) (rs' : List Rw), gh + k = LL.length + 1 ∧ k ≤ LL.length ∧ (∃ a0, a = .int .i64 a0 ∧ Hid (a0 = atV (bestTo (rs'.map Rw.l) (rs'.map Rw.l).length))) ∧ Hid (∃ m, totL (rs'.map Rw.l) ≤ m ∧ LL.drop k = joinF m (rs'.map Rw.l)) ∧ Hid (Rows W.heap.size w1.heap.size v rs' wr) ∧ Hid (rs'.length ≤ 1000) ∧ Hid (w1.heap.size ≤ wr.heap.size) ∧ Hid (J D K k wr))
  case atStart => exact ⟨0, rs, rfl, Nat.zero_le _, ⟨a1, rfl, HA1⟩, HSEQ, HR2, HN1, HSZ, HJS⟩
  case round =>
    obtain ⟨k, rs', hgk, hk, ⟨a0, rfl, HA0⟩, HSQ, HR, HN, HW1, HJK⟩ := hrel
    have HGK := Lib.hid hgk
    clear hgk
    cases hb : bestTo (rs'.map Rw.l) (rs'.map Rw.l).length with
    | none =>
      have HE : Hid (k = LL.length) := by
        obtain ⟨m, _, hm⟩ := HSQ.out
        have h1 : joinF m (rs'.map Rw.l) = [] := by
          cases m with
          | zero => rfl
          | succ m => unfold joinF; rw [hb]
        rw [h1] at hm
        have := List.drop_eq_nil_iff.1 hm
        unfold Hid; omega
      obtain rfl : a0 = -1 := by rw [HA0.out, hb]; rfl
      clear hb hk
      gi_wp2
      refine bodyPost_end (results_none rfl _ _ _) rfl ?_
      exact ⟨⟨_, rfl⟩, .inl ⟨_, _, _, HJK.out, HE.out⟩⟩
    | some y =>
      obtain ⟨b, e⟩ := y
      obtain ⟨hbl, t, ht⟩ := bestTo_at hb
      rw [List.length_map] at hbl
      obtain ⟨r, hr⟩ : ∃ r, rs'[b]? = some r := ⟨_, List.getElem?_eq_getElem hbl⟩
      have hrl : r.l = e :: t := by
        have h9 : (rs'.map Rw.l)[b]? = some (e :: t) := ht
        rw [List.getElem?_map, hr] at h9
        injection h9
      obtain ⟨rA, rc, R⟩ := r
      obtain ⟨p, R', hRR⟩ : ∃ p R', R = p :: R' := by
        cases hR : R with
        | nil => unfold Rw.l at hrl; rw [hR] at hrl; cases hrl
        | cons p t => exact ⟨p, t, rfl⟩
      have hpe : p.1 = e := by unfold Rw.l at hrl; rw [hRR] at hrl; injection hrl
      have hp0 : R[0]? = some p := by rw [hRR]; rfl
      have hrow := HR.out.each _ (List.mem_of_getElem? hr)
      obtain ⟨rb, ro, hrA⟩ := hrow.base (by show 0 < R.length; rw [hRR]; simp)
      have hrA : rA = some ⟨rb, ro, none⟩ := hrA
      subst hrA
      obtain ⟨N, hN⟩ : ∃ N, N = R.length := ⟨_, rfl⟩
      have hN1 : 0 < N := by rw [hN, hRR]; simp
      have hN0 : (0 : Int) < (N : Int) := by omega
      obtain ⟨n, cap, A0, hv⟩ : ∃ n cap A0, v = .slice A0 n cap ∧ n = rs'.length := by
        obtain ⟨A0, cap, h1, _⟩ := HR.out.sl
        exact ⟨rs'.length, cap, A0, h1, rfl⟩
      obtain ⟨hv, hn⟩ := hv
      have HRv := HR.out
      rw [hv] at HRv
      obtain ⟨hnn, g0, cur, hA0, hx1', hx2', hg0, hcur, hx3'⟩ := HRv.cell hr
      clear hnn hx1' hx2' hx3'
      have q0 := cell_of hg0 hcur
      unfold Rw.v at q0
      dsimp only at q0
      rw [← hN] at q0
      obtain ⟨c0, c1, c2, c3⟩ := hrow.get hp0
      rw [Nat.zero_mul, Nat.add_zero] at c0 c1 c2 c3
      have n1 : (0 : Int) ≤ (b : Int) := by omega
      have n2 : (b : Int) < (n : Int) := by omega
      have HP : Hid (Mine W.heap.size p wr) := (hrow.mine p (List.mem_of_getElem? hp0)).1
      have HLk : Hid (LL[k]? = some p.1 ∧ ∃ m, totL ((rs'.map Rw.l).map (passL p.1)) ≤ m ∧ LL.drop (k + 1) = joinF m ((rs'.map Rw.l).map (passL p.1))) := by
        obtain ⟨m, hm1, hm2⟩ := HSQ.out
        have ht' : (rs'.map Rw.l)[b]? = some (e :: t) := ht
        have hless := totL_less ht'
        obtain ⟨m, rfl⟩ : ∃ m', m = m' + 1 := ⟨m - 1, by omega⟩
        unfold joinF at hm2
        rw [hb] at hm2
        rw [hpe]
        have hkl : k < LL.length := by
          have h1 := congrArg List.length hm2
          simp only [List.length_drop, List.length_cons] at h1
          omega
        rw [List.drop_eq_getElem_cons hkl] at hm2
        injection hm2 with h1 h2
        exact ⟨by rw [List.getElem?_eq_getElem hkl, h1], m, by omega, h2⟩
      have HKL : Hid (k < LL.length) := (List.getElem?_eq_some_iff.1 HLk.out.1).1
      obtain rfl : a0 = (b : Int) := by rw [HA0.out, hb]; rfl
      subst hv hA0
      obtain ⟨w5, hw5⟩ : ∃ w5, w5 = wr.alloc (.cells #[.slice p.2.kA p.1.key.length p.2.kc, .int .i64 p.1.seq, .int .i64 p.1.kind, .slice p.2.vA p.1.val.length p.2.vc] 46) := ⟨_, rfl⟩
      have HX5 : Hid (Ext wr w5) := by rw [hw5]; exact ext_alloc _ _
      have HB5 : Hid (w5.heap[wr.heap.size]? = some (.cells #[.slice p.2.kA p.1.key.length p.2.kc, .int .i64 p.1.seq, .int .i64 p.1.kind, .slice p.2.vA p.1.val.length p.2.vc] 46 (0, 0))) := by rw [hw5]; exact heap_at _ _ rfl
      have HPA := Lib.hid (pass_any (HR.out.ext HX5.out (Nat.le_refl _)) (Nat.le_trans HW1.out HX5.out.size) HN.out (HP.out.below HX5.out))
      unfold Ent.at_ at HPA
      clear hb hbl ht hr hrl hRR hpe hp0 hrow hN hn HRv hg0 hcur hk
      gi_wp2
      rw [← hw5]
      clear hw5 q0 c0 c1 c2 c3
      refine (callsIn_wide.2 HPA.out).mono ?_
      rintro x w6 ⟨⟨y, rfl⟩, rs2, hr2, hl2, hc2⟩
      have HR2 := Lib.hid hr2
      have HL2 := Lib.hid hl2
      have HC2 := Lib.hid hc2
      have HCD : Hid (Chg D wr w6) := by
        refine (Chg.of_ext HX5.out).trans (hc2.mono fun i _ hi => ?_)
        rw [HD.out]; exact hi
      have HB6 : Hid (w6.heap[wr.heap.size]? = some (.cells #[.slice p.2.kA p.1.key.length p.2.kc, .int .i64 p.1.seq, .int .i64 p.1.kind, .slice p.2.vA p.1.val.length p.2.vc] 46 (0, 0))) := by
        refine (hc2.block _ (Array.getElem?_eq_some_iff.1 HB5.out).1 (fun e => ?_)).trans HB5.out
        have h9 := (HR.out.own _ e).2.1
        have := HW1.out; omega
      have HP6 : Hid (Mine W.heap.size p w6) := by
        have h9 := HP.out.below HX5.out
        have kp : ∀ {l : List Nat} {v : Value}, Own W.heap.size l v w5 → Own W.heap.size l v w6 := fun ho => row_kept ho fun g hg => by
          obtain ⟨_, hlt, cc, hcc⟩ := rowN_lt ho g hg
          exact hc2.block g hlt fun e => ((HR.out.ext HX5.out (Nat.le_refl _)).own g e).2.2 _ _ hcc
        exact ⟨kp h9.k, kp h9.v, h9.good⟩
      have HJ6 : Hid (J D K k w6) := HJ.out _ _ _ _ _ _ _ HJK.out HCD.out (fun i h => .inl h) (fun i h => .inl h)
      have HS6 : Hid (w1.heap.size ≤ w6.heap.size) := by have := HW1.out; have := HCD.out.size; unfold Hid; omega
      have e0 := cell_of HB6.out (k := 0) rfl
      have e1 := cell_of HB6.out (k := 1) rfl
      have e2 := cell_of HB6.out (k := 2) rfl
      have e3 := cell_of HB6.out (k := 3) rfl
      have HN2 : Hid (rs2.length ≤ 1000) := by
        have h9 := congrArg List.length hl2
        simp only [List.length_map] at h9
        have := HN.out; unfold Hid; omega
      obtain ⟨fn, tmps, assign, body, hy, hRr⟩ := HY.out D K k p w6 (fun i hi => by
          rw [HD.out] at hi
          obtain ⟨h1, h2, _⟩ := HR.out.own i hi
          have := HS6.out
          exact ⟨.inr h1, by omega⟩) (fun i hi => by
          rw [HK.out] at hi
          have := HS6.out
          exact ⟨.inr hi.1, by omega⟩) HJ6.out ⟨HLk.out.1, live_mine HP6.out fun i hi => by
          rw [HD.out] at hi
          exact (HR2.out.own i hi).2.2⟩
      dsimp only [entV, Ent.at_] at hy
      have HRI := Lib.hid (roundIn_any (m' := 5) hRr)
      clear hr2 hl2 hc2 hRr
      gi_wp2
      refine RoundIn.mono HRI.out ?_
      rintro e W3 ⟨hst, (⟨rfl, hj⟩ | ⟨rfl, hjx⟩)⟩
      · have HJ3 := Lib.hid hj
        have HR3 : Hid (Rows W.heap.size w1.heap.size (.slice (some ⟨g0, 0, none⟩) n cap) rs2 W3) := HR2.out.keepK fun b h1 h2 => hst.stay b (by rw [HK.out]; exact ⟨h1, h2⟩) (by have := HS6.out; omega)
        have HS3 : Hid (w1.heap.size ≤ W3.heap.size) := Nat.le_trans HS6.out hst.size
        have HLE3 := Lib.hid (least_any HR3.out HN2.out)
        obtain ⟨a2, ha2⟩ : ∃ a, a = atV (bestTo (rs2.map Rw.l) (rs2.map Rw.l).length) := ⟨_, rfl⟩
        have HA2 := Lib.hid ha2
        unfold LeastAns at HLE3
        rw [← ha2] at HLE3
        clear hst hj hy ha2 e0 e1 e2 e3
        gi_wp2
        refine (callsIn_wide.2 HLE3.out).mono ?_
        rintro x w7 ⟨rfl, hx7⟩
        have HX7 := Lib.hid hx7
        clear hx7
        gi_wp2
        gi_roundg (LL.length + 1 - (k + 1))
        case rel =>
          refine ⟨k + 1, rs2, by have := HKL.out; omega, HKL.out, ⟨a2, rfl, HA2⟩, by rw [HL2.out]; exact HLk.out.2, HR3.out.ext HX7.out (Nat.le_refl _), HN2, Nat.le_trans HS3.out HX7.out.size, HJ.out _ _ _ _ _ _ _ HJ3.out (Chg.of_ext HX7.out) (fun i h => .inl h) (fun i h => .inl h)⟩
        case measure => have := HGK.out; have := HKL.out; omega
      · have HX9 := Lib.hid hjx
        clear hst hjx hy e0 e1 e2 e3
        gi_wp2
        refine bodyPost_ret (results_none rfl _ _ _) rfl ?_
        exact ⟨⟨_, rfl⟩, .inr ⟨_, HX9.out⟩⟩
end Go.Proofs.Ytlnihaeeoolkhaa

/- Rows of pairs in memory, and one's own; the law's pairs (merge). A pair is an entry of which only the key and the value are there. -/
namespace Go.Proofs.Ytlnihaeeoolkhaa
open Go.ChangeShapes Go.WideShapes Go.ChangeAt Go.RowKit Go.Shelf
attribute [local go_sem] Oper.semAt_some

theorem pinfo : (Try.prog.info? 53).map (fun i => (i.zero, i.size, i.bytes)) = some (some (.agg #[.slice none 0 0, .slice none 0 0]), 2, 48) := by kernel_rfl
/-- A pair's cells. -/
def pcells (p : Ent × Hd) : List Value := [.slice p.2.kA p.1.key.length p.2.kc, .slice p.2.vA p.1.val.length p.2.vc]
theorem pcells_length (p : Ent × Hd) : (pcells p).length = 2 := rfl
def prow (L : List (Ent × Hd)) : List Value := L.flatMap pcells
theorem prow_length (L : List (Ent × Hd)) : (prow L).length = L.length * 2 := by
  unfold prow
  induction L with
  | nil => rfl
  | cons a l ih => rw [List.flatMap_cons, List.length_append, ih, pcells_length, List.length_cons]; omega
theorem prow_append (L R : List (Ent × Hd)) : prow (L ++ R) = prow L ++ prow R := by simp [prow]
theorem prow_at (L : List (Ent × Hd)) {k j : Nat} (hk : k < L.length) (hj : j < 2) : (prow L)[k * 2 + j]? = (pcells L[k])[j]? := by
  unfold prow
  induction L generalizing k with
  | nil => simp at hk
  | cons a l ih =>
    rw [List.flatMap_cons]
    cases k with
    | zero => rw [List.getElem?_append_left (by rw [pcells_length]; omega)]; simp
    | succ k =>
      rw [List.getElem?_append_right (by rw [pcells_length]; omega), pcells_length, show (k + 1) * 2 + j - 2 = k * 2 + j by omega]
      simpa using ih (k := k) (by simpa using hk)
theorem prow_one (L : List (Ent × Hd)) : ∀ u ∈ prow L, u.oneCell' = true := by
  intro u hu
  unfold prow at hu
  obtain ⟨p, _, h⟩ := List.mem_flatMap.1 hu
  simp only [pcells, List.mem_cons, List.not_mem_nil, or_false] at h
  rcases h with rfl | rfl <;> rfl
/-- Pairs in a row. -/
structure Ps (w : World) (lo hi : Nat) (A : Option Addr) (L : List (Ent × Hd)) : Prop where
  outer : Sl w lo hi A (prow L)
  each : ∀ p ∈ L, Em w lo hi p.1 p.2
theorem Ps.below {w w' : World} {lo hi B : Nat} {A : Option Addr} {L : List (Ent × Hd)} (h : Ps w lo hi A L) (hb : Below B w w') (hB : hi ≤ B) : Ps w' lo hi A L := ⟨h.outer.below hb hB, fun p hp => (h.each p hp).below hb hB⟩
theorem Ps.wide {w : World} {lo hi lo' hi' : Nat} {A : Option Addr} {L : List (Ent × Hd)} (h : Ps w lo hi A L) (h1 : lo' ≤ lo) (h2 : hi ≤ hi') : Ps w lo' hi' A L := ⟨h.outer.wide h1 h2, fun p hp => (h.each p hp).wide h1 h2⟩
theorem Ps.get {w : World} {lo hi : Nat} {A : Option Addr} {L : List (Ent × Hd)} (h : Ps w lo hi A L) {k : Nat} {p : Ent × Hd} (hk : L[k]? = some p) :
    ∃ b o, A = some ⟨b, o, none⟩ ∧ w.cell? ⟨b, o + k * 2, none⟩ = some (.slice p.2.kA p.1.key.length p.2.kc) ∧ w.cell? ⟨b, o + k * 2 + 1, none⟩ = some (.slice p.2.vA p.1.val.length p.2.vc) := by
  obtain ⟨hlt, rfl⟩ := List.getElem?_eq_some_iff.1 hk
  obtain ⟨b, o, rfl, _, hb, _⟩ := Sl.at_ h.outer (i := k * 2) (by rw [prow_length]; omega)
  have hc : ∀ j u, (prow L)[j]? = some u → w.cell? ⟨b, o + j, none⟩ = some u := by
    rcases h.outer with h0 | ⟨b', o', he, _, _, hc⟩
    · have := congrArg List.length h0
      rw [prow_length] at this
      simp at this; omega
    · injection he with he
      injection he with e1 e2
      subst e1 e2
      exact hc
  have hj := fun (j : Nat) (hj : j < 2) (u : Value) (hu : (pcells L[k])[j]? = some u) => hc (k * 2 + j) u ((prow_at L hlt hj).trans hu)
  refine ⟨b, o, rfl, hj 0 (by decide) _ rfl, ?_⟩
  rw [Nat.add_assoc]; exact hj 1 (by decide) _ rfl

def OwnP (B : Nat) (R : List (Ent × Hd)) (v : Value) (u : World) : Prop := u.ownsRow B 53 2 v R.length (prow R)
theorem OwnP.base {B B' : Nat} {R : List (Ent × Hd)} {v : Value} {u : World} (h : OwnP B R v u) (hB : B' ≤ B) : OwnP B' R v u := by
  obtain ⟨h1, h2⟩ := h
  rcases h2 with h2 | ⟨g, cap, cur, h2, h3, h4⟩
  · exact ⟨h1, .inl h2⟩
  · exact ⟨h1, .inr ⟨g, cap, cur, h2, Nat.le_trans hB h3, h4⟩⟩
theorem OwnP.below {B : Nat} {R : List (Ent × Hd)} {v : Value} {u u' : World} (h : OwnP B R v u) (hu : Ext u u') : OwnP B R v u' := by
  obtain ⟨h1, h2⟩ := h
  rcases h2 with h2 | ⟨g, cap, cur, h2, h3, h4, h5⟩
  · exact ⟨h1, .inl h2⟩
  · exact ⟨h1, .inr ⟨g, cap, cur, h2, h3, (hu.block g (Array.getElem?_eq_some_iff.1 h4).1).trans h4, h5⟩⟩
theorem OwnP.sl {B : Nat} {R : List (Ent × Hd)} {v : Value} {u : World} (h : OwnP B R v u) : ∃ A c, v = .slice A R.length c ∧ Sl u B u.heap.size A (prow R) ∧ (A = none → c = 0) ∧ R.length ≤ c := by
  rcases h.2 with ⟨h1, h2⟩ | ⟨g, cap, cur, h1, h2, h3, h4, h5, h6, h7⟩
  · have : R = [] := List.eq_nil_of_length_eq_zero h2
    subst this
    exact ⟨none, 0, h1, .inl rfl, fun _ => rfl, Nat.le_refl _⟩
  · refine ⟨some ⟨g, 0, none⟩, cap, h1, .inr ⟨g, 0, rfl, h2, (Array.getElem?_eq_some_iff.1 h3).1, fun i u hu => ?_⟩, (by rintro ⟨⟩), h4⟩
    have hi : i < R.length * 2 := by have := (List.getElem?_eq_some_iff.1 hu).1; rw [prow_length] at this; exact this
    rw [Nat.zero_add]
    refine cell_of h3 ?_
    have h8 := congrArg (fun l => l[i]?) h7
    simp only [List.getElem?_take, if_pos hi, Array.getElem?_toList] at h8
    rw [h8]; exact hu

theorem OwnP.keep {B : Nat} {R : List (Ent × Hd)} {v : Value} {u u' : World} (h : OwnP B R v u) (hk : ∀ g, v.ownBlock = some g → u'.heap[g]? = u.heap[g]?) : OwnP B R v u' := by
  obtain ⟨h1, h2⟩ := h
  refine ⟨h1, ?_⟩
  rcases h2 with h2 | ⟨g, cap, cur, hv, hg, hh, r⟩
  · exact Or.inl h2
  · exact Or.inr ⟨g, cap, cur, hv, hg, (hk g (by rw [hv]; rfl)).trans hh, r⟩

/-- A pair's value; a function that goes over pairs. -/
def pairV (x : Ent × Hd) : Array Value := #[.agg #[.slice x.2.kA x.1.key.length x.2.kc, .slice x.2.vA x.1.val.length x.2.vc]]
def PIter (gf : Nat) (lb : Array Value) (B0 : Nat) (L : List Ent) (C : World → Prop) (X : Nat → Prop) (w : World) : Prop := IterX Try.prog gf lb pairV (MOk B0 L) (MEnd L) C X w
/-- What is collected between two rounds. -/
structure ColP (base lb s3 B0 : Nat) (w : World) (L : List Ent) (D K : Nat → Prop) (k : Nat) (A : World) (X : Option Addr) (c : Nat) (R : List (Ent × Hd)) : Prop where
  below : Below w.heap.size w A
  z : s3 ≤ A.heap.size
  dz : ∀ i, D i → s3 ≤ i
  kz : ∀ i, K i → s3 ≤ i
  box : Boxed A lb 39 (.slice X R.length c)
  row : OwnP base R (.slice X R.length c) A
  is : R.map Prod.fst = L.take k
  fd : FreeB D (.slice X R.length c)
  fk : FreeB K (.slice X R.length c)
  each : ∀ p ∈ R, Live B0 D p A
theorem ColP.chg {base lb s3 B0 : Nat} {w : World} {L : List Ent} {D K D' K' : Nat → Prop} {k c : Nat} {A A' : World} {X : Option Addr} {R : List (Ent × Hd)} (h : ColP base lb s3 B0 w L D K k A X c R) (hlb : lb < s3) (hs : w.heap.size ≤ s3) (hc : Chg D A A') (hD : ∀ i, D' i → D i ∨ A.heap.size ≤ i) (hK : ∀ i, K' i → K i ∨ A.heap.size ≤ i) : ColP base lb s3 B0 w L D' K' k A' X c R :=
  ⟨h.below.trans (hc.below (fun i hi => Nat.le_trans hs (h.dz i hi)) h.below.size), Nat.le_trans h.z hc.size,
    fun i hi => (hD i hi).elim (h.dz i) (fun h2 => Nat.le_trans h.z h2), fun i hi => (hK i hi).elim (h.kz i) (fun h2 => Nat.le_trans h.z h2),
    boxed_chg h.box hc (fun hd => by have := h.dz lb hd; omega), h.row.keep fun g hg => hc.block g (ownE_lt h.row g hg).2.1 (h.fd g hg), h.is,
    h.fd.grow (fun b hb => (ownE_lt h.row b hb).2.1) hD, h.fk.grow (fun b hb => (ownE_lt h.row b hb).2.1) hK, fun p hp => (h.each p hp).go hc (fun b hb => .inl hb) hD⟩

/-- 'append(l, e)', within a fence; where the row then lies. -/
theorem wpListIn_pushp {F : Fence} {nF : Nat} {ops : Array Oper} {rest : List Oper} {o : Oper} {a : Act} {Q : Exit → Act → World → Prop} {u : World} (hgd : o.guard = none) (s x : Operand)
    (ho : o.op = .call { callee := .builtin .append, args := #[s, x], argTypes := #[39, 39] }) (B : Nat) (v : Value) (R : List (Ent × Hd)) (hs : a.eval s = v) (hown : OwnP B R v u)
    (p : Ent × Hd) (gb : Nat) (hx : a.eval x = .slice (some ⟨gb, 0, none⟩) 1 1) (hblk : u.heap[gb]? = some (.cells (pcells p).toArray 53 (0, 0))) (hlen : R.length ≤ 1000000000000) (hB : B ≤ u.heap.size)
    (h : ∀ A' c' w', OwnP B (R ++ [p]) (.slice A' (R.length + 1) c') w' → u.grownBy w' v.ownBlock → (∀ g, (Value.slice A' (R.length + 1) c').ownBlock = some g → v.ownBlock = some g ∨ g = u.heap.size) → wpListIn F nF Try.prog ops Q rest (a.put o.dst (.slice A' (R.length + 1) c')) w') :
    wpListIn F nF Try.prog ops Q (o :: rest) a u := by
  obtain ⟨i0, hi0', ix0, ix1, ix2⟩ := info_parts pinfo
  refine wpListIn_plain hgd fun K hK => ?_
  obtain ⟨v', w5, hr, ho2, hgr, _, hat⟩ := run_append_own_at (P := Try.prog) u B 39 o.type 53 i0 _ 2 48 Try.underlying39 hi0' ix0 ix1 ix2 rfl (by decide) v R.length (prow R) hown ⟨gb, 0, none⟩ 1 1 (pcells p) rfl
    (fun j q hj => by rw [addr_add, Nat.zero_add]; exact cell_of hblk (by simpa using hj)) (fun q hq => prow_one [p] q (by simpa [prow] using hq)) (by unfold maxLen; omega) (by omega) hB
  have ho' : OwnP B (R ++ [p]) v' w5 := by
    unfold OwnP
    rw [List.length_append, prow_append]
    simpa [prow] using ho2
  obtain ⟨A', c', rfl, _⟩ := ho'.sl
  have hl1 : (R ++ [p]).length = R.length + 1 := by simp
  rw [hl1] at ho' hat hr
  have hfin := h A' c' w5 ho' hgr (fun g hg => by
    rcases hat with e | e
    · exact .inl (e ▸ hg)
    · rw [e] at hg; injection hg with hg; exact .inr hg.symm)
  unfold Oper.wpIn
  refine ⟨?_, ?_⟩
  · simp [Oper.about, ho, resolve, Target.leads, Sem.run_pure]
  · rw [Oper.semAt_plain F _ _ (by rw [ho]; intro c hc'; cases hc')]
    simp [execOp, ho, resolve, invoke, builtin, hs, hx, hr, Result.andThen]
    exact hK _ _ hfin

theorem colp_box {A3 w5 : World} {lb B : Nat} {o : Obj} {X : Option Addr} {c n : Nat} {R : List (Ent × Hd)} (hb : Boxed A3 lb 39 (.slice X n c)) (hg : OwnP B R (.slice X R.length c) A3) (hgr : (A3.alloc o).grownBy w5 (Value.slice X R.length c).ownBlock) : Boxed w5 lb 39 (.slice X n c) :=
  (hgr.block lb (by have := hb.lt; simp; omega) (fun e => by
    obtain ⟨_, _, cc, hcc⟩ := ownE_lt hg lb e.symm
    have h1 : A3.heap[lb]? = _ := hb
    rw [h1] at hcc
    injection hcc with hcc
    injection hcc with _ hcc
    exact absurd hcc (by decide))).trans (ext_heap (ext_alloc A3 o) hb)

/-- Behind a round. -/
theorem colp_next {base lb s3 B0 : Nat} {w A3 w5 w6 : World} {L : List Ent} {D K : Nat → Prop} {k cR N c5 : Nat} {X X5 : Option Addr} {R : List (Ent × Hd)} {p : Ent × Hd} {o : Obj} (hT : ColP base lb s3 B0 w L D K k A3 X cR R) (hlb : lb < s3) (hbase : w.heap.size ≤ base) (hbl : w.heap.size ≤ lb) (hB0 : B0 ≤ w.heap.size)
    (hD : ∀ i, D i → i < A3.heap.size) (hK : ∀ i, K i → i < A3.heap.size)
    (hp : L[k]? = some p.1) (hlive : Live B0 D p A3)
    (hN : N = R.length + 1) (hg5 : OwnP base (R ++ [p]) (.slice X5 N c5) w5) (hgr : (A3.alloc o).grownBy w5 (Value.slice X R.length cR).ownBlock)
    (hat : ∀ g, (Value.slice X5 N c5).ownBlock = some g → (Value.slice X R.length cR).ownBlock = some g ∨ g = (A3.alloc o).heap.size) (hw6 : w6 = w5.setCell ⟨lb, 0, none⟩ (.slice X5 N c5)) :
    StepK K A3 w6 ∧ ColP base lb s3 B0 w L D K (k + 1) w6 X5 c5 (R ++ [p]) := by
  have hlen : N = (R ++ [p]).length := by rw [hN]; simp
  subst hlen
  have hb5 := colp_box hT.box hT.row hgr
  have hb6 : Boxed w6 lb 39 (.slice X5 (R ++ [p]).length c5) := by rw [hw6]; exact hb5.set _
  have hc : Chg (fun i => (Value.slice X R.length cR).ownBlock = some i ∨ i = lb) A3 w6 := by
    rw [hw6]
    exact ((Chg.alloc (S := fun i => (Value.slice X R.length cR).ownBlock = some i ∨ i = lb) A3 o).trans (Chg.grown hgr fun g hg => .inl hg)).trans (Chg.setCell _ _ _ (.inr rfl))
  have hrow := fun g hg => ownE_lt hT.row g hg
  have hS : ∀ b, ((Value.slice X R.length cR).ownBlock = some b ∨ b = lb) → D b ∨ A3.heap.size ≤ b ∨ (B0 ≤ b ∧ NotU8 A3 b) := fun b hb => by
    rcases hb with hb | hb
    · obtain ⟨h1, _, cc, hcc⟩ := hrow b hb
      exact .inr (.inr ⟨by omega, not_u8 hcc (by decide)⟩)
    · rw [hb]
      exact .inr (.inr ⟨by omega, not_u8 hT.box (by decide)⟩)
  refine ⟨StepK.of_chg hc (fun i _ hk hs => ?_), hT.below.trans (hc.below (fun i hi => ?_) hT.below.size), Nat.le_trans hT.z hc.size, hT.dz, hT.kz, hb6, ?_, ?_, fun g hg hd => ?_, fun g hg hd => ?_, fun q hq => ?_⟩
  · rcases hs with hs | hs
    · exact hT.fk i hs hk
    · have := hT.kz i hk; omega
  · rcases hi with hi | hi
    · have := (hrow i hi).1; omega
    · omega
  · rw [hw6]
    refine hg5.keep fun g hg => Below.heap_setCell _ _ _ _ fun e => ?_
    obtain ⟨_, _, cc, hcc⟩ := ownE_lt hg5 g hg
    have h1 : w5.heap[lb]? = _ := hb5
    rw [e, h1] at hcc
    injection hcc with hcc
    injection hcc with _ hcc
    exact absurd hcc (by decide)
  · rw [List.map_append, hT.is, List.take_add_one, hp]; rfl
  · rcases hat g hg with h | h
    · exact hT.fd g h hd
    · have := hD g hd; rw [h] at this; simp at this; omega
  · rcases hat g hg with h | h
    · exact hT.fk g h hd
    · have := hK g hd; rw [h] at this; simp at this; omega
  · rcases List.mem_append.1 hq with hq | hq
    · exact (hT.each q hq).go hc hS (fun b hb => .inl hb)
    · rw [List.mem_singleton] at hq; subst hq
      exact hlive.go hc hS (fun b hb => .inl hb)

/-- What pairs answers. -/
def PairsAns (w : World) (L : List Ent) (x : Ending) (w' : World) : Prop := ∃ X c R, x = .returned (.slice X R.length c) ∧ OwnP w.heap.size R (.slice X R.length c) w' ∧ R.map Prod.fst = L ∧ (∀ p ∈ R, Em w' 0 w'.heap.size p.1 p.2) ∧ Below w.heap.size w w'

theorem seq_some11p (gf : Nat) (lb : Array Value) (w : World) : (binOp .eql 42 (.func (.func gf) #[] lb) .nilFunc).run Try.prog w = .ok (.bool false) w := by kernel_rfl

set_option maxRecDepth 100000 in
set_option maxHeartbeats 8000000 in
theorem pairs11_any {w : World} {gf B0 : Nat} {lb : Array Value} {L : List Ent} {C : World → Prop} {most : Int} (hit : ∀ u, Ext w u → PIter gf lb B0 L C (fun _ => False) u) (eg : ∀ args w, (callFunc gf args).run Try.prog w = .ok (.enter gf args) w) (hC : ∀ A, Below w.heap.size w A → C A) (hB0 : B0 ≤ w.heap.size) (hl : L.length ≤ 1000000) :
    Calls Try.prog 18 #[.func (.func gf) #[] lb, .int .i64 most] w (PairsAns w (takeM most L)) := by
  obtain ⟨w1, hw1⟩ : ∃ w1, w1 = (w.alloc (.cells #[.int .i64 most] 3)).alloc (.cells #[.slice none 0 0] 39) := ⟨_, rfl⟩
  have HX1 : Hid (Ext w w1) := by rw [hw1]; exact Ext.trans (ext_alloc _ _) (ext_alloc _ _)
  have HZ1 : Hid (w1.heap.size = w.heap.size + 2) := by rw [hw1]; simp [Hid]
  have HB0' : Hid (Boxed w1 w.heap.size 3 (.int .i64 most)) := by rw [hw1]; exact ext_heap (ext_alloc _ _) (heap_at _ _ rfl)
  have HB1 : Hid (Boxed w1 (w.heap.size + 1) 39 (.slice none 0 0)) := by rw [hw1]; exact heap_at _ _ (by simp)
  have HIT := Lib.hid (hit w1 HX1.out)
  have HC := Lib.hid hC
  have HB := Lib.hid hB0
  have HL := Lib.hid hl
  have hfn := seq_some11p gf lb
  clear hit hC hB0 hl
  refine (callsIn_wide (n := 6)).1 ?_
  refine callsIn_of_wp_marks Try.func18 rfl trivial ?_
  simp only [Try.ntmps18, List.size_toArray, List.length_cons, List.length_nil, Nat.reduceAdd, Nat.reduceSub, Array.replicate_succ, Array.replicate_zero, List.push_toArray, List.append_toArray, List.nil_append, List.cons_append]
  gi_wp2_with fail
  rw [← hw1]
  clear hw1 hfn
  refine wpIn_overX rfl eg (fun _ h => h.elim) HIT.out (fun _ => rfl) (fun D K k A => ∃ X c R, ColP w.heap.size (w.heap.size + 1) (w.heap.size + 2) B0 w L D K k A X c R ∧ Boxed A w.heap.size 3 (.int .i64 most) ∧ (0 < most → (k : Int) < most))
    (fun D c A => c = .exit 0 ∧ ∃ k X cc R, ColP w.heap.size (w.heap.size + 1) (w.heap.size + 2) B0 w L D (fun _ => False) k A X cc R ∧ L.take k = takeM most L) (fun _ _ _ _ h => by obtain ⟨_, _, _, h, _⟩ := h; exact HC.out _ h.below) ?hI ?hIx ?h0 ?rnd ?hok ?done ?stop
  case hI =>
    rintro D K k A D' K' A' ⟨X, c, R, h1, h2, h3⟩ hc hD hK
    exact ⟨X, c, R, h1.chg (by omega) (by omega) hc hD hK, boxed_chg h2 hc (fun hd => by have := h1.dz _ hd; omega), h3⟩
  case hIx =>
    rintro D c A A' ⟨rfl, k, X, cc, R, h1, h2⟩ hc
    exact ⟨rfl, k, X, cc, R, h1.chg (by omega) (by omega) hc (fun i h => .inl h) (fun i h => .inl h), h2⟩
  case h0 =>
    intro A D K hx hD hK
    have z1 := HZ1.out
    have hs := hx.size
    exact ⟨none, 0, [], ⟨Ext.trans HX1.out hx, by omega, fun i h => by have := (hD i h).elim False.elim id; omega, fun i h => by have := (hK i h).elim False.elim id; omega, ext_heap hx HB1.out, World.ownsRow_nil _ _ _ _, rfl, fun b hb => (by cases hb), fun b hb => (by cases hb), fun p hp => (by cases hp)⟩, ext_heap hx HB0'.out, fun h => by omega⟩
  case hok =>
    rintro D K D' K' k x A ⟨h1, h2⟩ ⟨od, hd⟩ ⟨ol, hl⟩ hD' _ _ _
    refine ⟨h1, h2.1, fun A' T hc hT => h2.2 A' T hc fun b hb => ?_⟩
    have hBW : B0 ≤ w1.heap.size := by have := HB.out; have := HZ1.out; omega
    rcases hT b hb with h | h
    · rcases hD' b h with h | h | h
      · exact .inl h
      · exact .inr (.inr ⟨by omega, fun c fz e => by rw [h, hd] at e; cases e⟩)
      · exact .inr (.inr ⟨by omega, fun c fz e => by rw [h, hl] at e; cases e⟩)
    · exact .inr h
  case rnd =>
    rintro l2 D K k ⟨e, g⟩ A rfl hDl hKl hDm hKm hDb hKb ⟨X0, c0, R0, hi, hbm, hmost⟩ ⟨hek, hlv⟩
    have hek' : L[k]? = some e := hek
    have HI1 := Lib.hid hi
    have HBM := Lib.hid hbm
    have HMO := Lib.hid hmost
    have HLV := Lib.hid hlv
    have HEK := Lib.hid hek'
    have HDK := Lib.hid (And.intro hDl (And.intro hKl (And.intro hDb hKb)))
    clear hDl hKl hDm hKm hDb hKb hi hbm hmost hek hek' hlv
    dsimp only [pairV]
    gi_wp2
    obtain ⟨A2, hA2⟩ : ∃ A2, A2 = A.alloc (.cells #[.slice g.kA e.key.length g.kc, .slice g.vA e.val.length g.vc] 53) := ⟨_, rfl⟩
    rw [← hA2]
    have HX2 : Hid (Ext A A2) := by rw [hA2]; exact ext_alloc _ _
    have HBE2 : Hid (A2.heap[A.heap.size]? = some (.cells #[.slice g.kA e.key.length g.kc, .slice g.vA e.val.length g.vc] 53 (0, 0))) := by rw [hA2]; exact heap_at _ _ rfl
    clear hA2
    refine ⟨StepK.of_chg (S := fun _ => False) (Chg.of_ext HX2.out) (fun _ _ _ h => h), fun A3 hc => ?_⟩
    have HCH : Hid (Chg D A A3) := ((Chg.of_ext (S := D) HX2.out).trans (hc.mono fun i _ e => by rw [e]; exact HDK.out.1))
    have HI3 := Lib.hid (HI1.out.chg (by omega) (by omega) HCH.out (fun i h => .inl h) (fun i h => .inl h))
    have HL3 : Hid (Live B0 D (e, g) A3) := HLV.out.go HCH.out (fun b hb => .inl hb) (fun b hb => .inl hb)
    have HBM3 := Lib.hid (boxed_chg HBM.out HCH.out (fun hd => by have := HI1.out.dz _ hd; omega))
    have HB3 : Hid (A3.heap[A.heap.size]? = some (.cells #[.slice g.kA e.key.length g.kc, .slice g.vA e.val.length g.vc] 53 (0, 0))) :=
      (hc.block _ (Array.getElem?_eq_some_iff.1 HBE2.out).1 (fun e => by have := HDK.out.2.2.2 _ HDK.out.2.1; omega)).trans HBE2.out
    have HRL : Hid (R0.length = k ∧ k < 1000000) := by
      have h1 := (List.getElem?_eq_some_iff.1 HEK.out).1
      have h2 := congrArg List.length HI3.out.is
      rw [List.length_map, List.length_take] at h2
      have := HL.out
      exact ⟨by omega, by omega⟩
    have q0 := HI3.out.box.cell
    have q9 := HBM3.out.cell
    have e0 := cell_of HB3.out (k := 0) rfl
    have e1 := cell_of HB3.out (k := 1) rfl
    have HZA : Hid (w.heap.size ≤ A3.heap.size) := HI3.out.below.size
    have HAA : Hid (A.heap.size ≤ A3.heap.size) := HCH.out.size
    clear hc
    obtain ⟨N, hN⟩ : ∃ N, N = R0.length + 1 := ⟨_, rfl⟩
    have HN := Lib.hid hN
    have HNB : Hid (¬ (Value.slice X0 R0.length c0).ownBlock = some w.heap.size) := fun e => by
      obtain ⟨_, _, cc, hcc⟩ := ownE_lt HI3.out.row _ e
      have h1 : A3.heap[w.heap.size]? = _ := HBM3.out
      rw [h1] at hcc
      injection hcc with hcc
      injection hcc with _ hcc
      exact absurd hcc (by decide)
    by_cases hbig : (N : Int) = most
    · have d : ((N : Int) == most) = true := by rw [beq_iff_eq]; exact hbig
      have HBIG := Lib.hid hbig
      clear hN hbig
      gi_wp2_with (gi_at_builtin; refine wpListIn_pushp rfl (.tmp 11) (.tmp 13) rfl w.heap.size _ R0 rfl (HI3.out.row.below (ext_alloc _ _)) (e, g) A3.heap.size rfl (heap_at _ _ rfl) (by have := HRL.out; omega) (Nat.le_trans HZA.out (by simp)) ?_; rw [← HN.out]; intro X5 c5 w5 hgot5 hgr5 hat5; have HG5 := Lib.hid hgot5; have HGR5 := Lib.hid hgr5; have HAT5 := Lib.hid hat5; have q1 := colp_box HI3.out.box HI3.out.row hgr5; have HQ1 := Lib.hid q1; have q2 := q1.cell; have q3 := q1.frozen; have q7 := boxed_chg (boxed_ext HBM3.out (ext_alloc _ _)) (Chg.grown (S := fun i => (Value.slice X0 R0.length c0).ownBlock = some i) hgr5 fun g hg => hg) HNB.out; have HQ7 := Lib.hid q7; have q8 := q7.cell; clear q7; clear hgot5 hgr5 hat5 q1)
      obtain ⟨w6, hw6⟩ : ∃ w6, w6 = w5.setCell ⟨w.heap.size + 1, 0, none⟩ (.slice X5 N c5) := ⟨_, rfl⟩
      rw [← hw6]
      obtain ⟨hst, hnx⟩ := colp_next HI3.out (by omega) (Nat.le_refl _) (by omega) HB.out (fun i h => by have := (HDK.out.2.2.1 i h).2; have := HAA.out; omega) (fun i h => by have := (HDK.out.2.2.2 i h).2; have := HAA.out; omega) HEK.out HL3.out HN.out HG5.out HGR5.out HAT5.out hw6
      clear hw6 q2 q3 q8
      refine ⟨hst, rfl, k + 1, X5, c5, R0 ++ [(e, g)], ⟨hnx.below, hnx.z, hnx.dz, fun i h => h.elim, hnx.box, hnx.row, hnx.is, hnx.fd, fun b _ h => h, hnx.each⟩, ?_⟩
      have h1 := HRL.out
      have h2 := HBIG.out
      have h3 := HN.out
      unfold takeM
      rw [if_pos (by omega)]
      congr 1
      omega
    · have d : ((N : Int) == most) = false := by rw [beq_eq_false_iff_ne]; exact hbig
      have HBIG := Lib.hid hbig
      clear hN hbig
      gi_wp2_with (gi_at_builtin; refine wpListIn_pushp rfl (.tmp 11) (.tmp 13) rfl w.heap.size _ R0 rfl (HI3.out.row.below (ext_alloc _ _)) (e, g) A3.heap.size rfl (heap_at _ _ rfl) (by have := HRL.out; omega) (Nat.le_trans HZA.out (by simp)) ?_; rw [← HN.out]; intro X5 c5 w5 hgot5 hgr5 hat5; have HG5 := Lib.hid hgot5; have HGR5 := Lib.hid hgr5; have HAT5 := Lib.hid hat5; have q1 := colp_box HI3.out.box HI3.out.row hgr5; have HQ1 := Lib.hid q1; have q2 := q1.cell; have q3 := q1.frozen; have q7 := boxed_chg (boxed_ext HBM3.out (ext_alloc _ _)) (Chg.grown (S := fun i => (Value.slice X0 R0.length c0).ownBlock = some i) hgr5 fun g hg => hg) HNB.out; have HQ7 := Lib.hid q7; have q8 := q7.cell; clear q7; clear hgot5 hgr5 hat5 q1)
      obtain ⟨w6, hw6⟩ : ∃ w6, w6 = w5.setCell ⟨w.heap.size + 1, 0, none⟩ (.slice X5 N c5) := ⟨_, rfl⟩
      rw [← hw6]
      obtain ⟨hst, hnx⟩ := colp_next HI3.out (by omega) (Nat.le_refl _) (by omega) HB.out (fun i h => by have := (HDK.out.2.2.1 i h).2; have := HAA.out; omega) (fun i h => by have := (HDK.out.2.2.2 i h).2; have := HAA.out; omega) HEK.out HL3.out HN.out HG5.out HGR5.out HAT5.out hw6
      clear q2 q3 q8
      have hb9 : Boxed w6 w.heap.size 3 (.int .i64 most) := by rw [hw6]; exact boxed_far HQ7.out (by omega)
      refine ⟨hst, X5, c5, R0 ++ [(e, g)], hnx, hb9, fun h => ?_⟩
      have h1 := HRL.out
      have h2 := HBIG.out
      have h3 := HN.out
      have h4 := HMO.out h
      omega
  case done =>
    rintro M k W2 D K rfl hDm hKm ⟨X, c, R, hi, hbm, hmo⟩ hk hd
    have hk' : k = L.length := hk
    have HI := Lib.hid hi
    have HDM := Lib.hid (And.intro hDm hd)
    have HTK : Hid (R.map Prod.fst = takeM most L) := by
      have h1 := hi.is
      rw [hk', List.take_of_length_le (Nat.le_refl _)] at h1
      unfold takeM
      split
      · rename_i hm
        have := hmo hm
        rw [List.take_of_length_le (by omega)]
        exact h1
      · exact h1
    have q0 := hi.box.cell
    clear hi hbm hmo hk hk' hDm hKm hd
    gi_wp2_with fail
    refine leaves_marks (u := .returning) (by simp) [w1.heap.size] W2 (by simp) (fun i hi => ?_) (fun W3 hc => ?_)
    · rw [List.mem_singleton] at hi; rw [hi]; exact HDM.out.2
    · have hc' : Chg D W2 W3 := hc.mono fun i _ hi => by rw [List.mem_singleton] at hi; rw [hi]; exact HDM.out.1
      have hfin := HI.out.chg (by omega) (by omega) hc' (fun i h => .inl h) (fun i h => .inl h)
      exact ⟨_, results_tmp rfl _ _ _, X, c, R, rfl, hfin.row, HTK.out, fun p hp => (hfin.each p hp).1, hfin.below⟩
  case stop =>
    rintro D M c W2 rfl hDm ⟨rfl, k, X, cc, R, hi, htk⟩ hd
    have HI := Lib.hid hi
    have HDM := Lib.hid (And.intro hDm hd)
    have HTK : Hid (R.map Prod.fst = takeM most L) := hi.is.trans htk
    have q0 := hi.box.cell
    clear hi htk hDm hd
    gi_wp2_with fail
    refine leaves_marks (u := .returning) (by simp) [w1.heap.size] W2 (by simp) (fun i hi => ?_) (fun W3 hc => ?_)
    · rw [List.mem_singleton] at hi; rw [hi]; exact HDM.out.2
    · have hc' : Chg D W2 W3 := hc.mono fun i _ hi => by rw [List.mem_singleton] at hi; rw [hi]; exact HDM.out.1
      have hfin := HI.out.chg (by omega) (by omega) hc' (fun i h => .inl h) (fun i h => .inl h)
      exact ⟨_, results_tmp rfl _ _ _, X, cc, R, rfl, hfin.row, HTK.out, fun p hp => (hfin.each p hp).1, hfin.below⟩
end Go.Proofs.Ytlnihaeeoolkhaa
