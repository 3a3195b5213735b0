/- How many whole frames, and how many bytes they have. -/
import Derived.Test.YtkaammdekalgnaaMeach
namespace Go.Proofs.Ytkaammdekalgnaa
open Go.RowKit Go.Shelf
attribute [local go_sem] Oper.semAt_some

/-- Between two rounds. -/
structure WholeI (w u : World) (lo hi bw bd : Nat) (b : List Nat) (n₁ k : Nat) (A : World) : Prop where
  ex : ∃ m, Upto b k m ∧ Boxed A w.heap.size 3 (.int .i64 (k : Int)) ∧ Boxed A (w.heap.size + 1) 3 (.int .i64 (m : Int))
  below : Below w.heap.size w A
  kept : Kept lo hi bw bd u A
  le : n₁ ≤ A.heap.size

theorem WholeI.chg {w u : World} {lo hi bw bd n₁ k : Nat} {b : List Nat} {A A' : World} (h : WholeI w u lo hi bw bd b n₁ k A) (hw : w.heap.size + 2 ≤ u.heap.size) (hu : u.heap.size ≤ A.heap.size) (hm : ∀ i, Mine lo hi bw bd i → i < u.heap.size) (hc : Chg (Btw u.heap.size n₁) A A') : WholeI w u lo hi bw bd b n₁ k A' := by
  obtain ⟨⟨m, h1, h2, h3⟩, h4, h5, h6⟩ := h
  refine ⟨⟨m, h1, boxed_chg h2 hc (fun hb => by have := hb.1; omega), boxed_chg h3 hc (fun hb => by have := hb.1; omega)⟩, h4.trans (hc.below (fun i hi => by have := hi.1; omega) h4.size), fun i hi hl => ?_, Nat.le_trans h6 hc.size⟩
  exact (hc.block i (by omega) (fun hb => by have := hb.1; omega)).trans (h5 i hi hl)

theorem boxed_far {w : World} {b : Nat} {t : TypeId} {v : Value} (h : Boxed w b t v) {p : Addr} (hp : b ≠ p.block) (u : Value) : Boxed (w.setCell p u) b t v := (heap_setCell_other w p b u hp).trans h

/-- What Whole answers. -/
def CountAns (w : World) (b : List Nat) (e : Ending) (w' : World) : Prop := e = .returned (.tuple #[.int .i64 ((frs b 0).length : Int), .int .i64 (fend b 0 : Int)]) ∧ Below w.heap.size w w'

set_option maxRecDepth 100000 in
set_option maxHeartbeats 4000000 in
theorem count_any {w : World} {lo hi : Nat} {v : Value} {b : List Nat} (hv : Bs w lo hi v b) (hhi : hi ≤ w.heap.size) (hb : ∀ x ∈ b, x < 256) : Calls Try.prog 16 #[v] w (CountAns w b) := by
  have HV := Lib.hid hv
  have HBB := Lib.hid hb
  obtain ⟨A, c, rfl, q1, q2, q3, _⟩ := hv
  have hlen : b.length ≤ 9223372036854775807 := by unfold maxLen at q2; omega
  clear q1 q2 q3 hb
  have hf1 : Fence.wide.fn 29 := trivial
  have hf2 : Fence.wide.fn 14 := trivial
  refine (callsIn_wide (n := 6)).1 ?_
  refine callsIn_of_wp_marks Try.func16 rfl trivial ?_
  simp only [Try.ntmps16, List.size_toArray, List.length_cons, List.length_nil, Nat.reduceAdd, Nat.reduceSub, Array.replicate_succ, Array.replicate_zero, List.push_toArray, List.append_toArray, List.nil_append, List.cons_append]
  gi_wp2_with (gi_at_call 29; refine (callsIn_wide.2 (each_any _ _ _ _)).mono ?_; rintro e w' ⟨rfl, rfl⟩)
  obtain ⟨w2, hw2⟩ : ∃ w2, w2 = (w.alloc (.cells #[.int .i64 0] 3)).alloc (.cells #[.int .i64 0] 3) := ⟨_, rfl⟩
  obtain ⟨w4, hw4⟩ : ∃ w4, w4 = (w2.alloc (.cells #[.slice A b.length c] 22)).alloc (.cells #[.func (.func 41) #[] #[.pointer (some ⟨w.heap.size + 1 + 1, 0, none⟩)]] 56) := ⟨_, rfl⟩
  have HZ2 : Hid (w2.heap.size = w.heap.size + 2) := by rw [hw2]; simp [Hid]
  have HX2 : Hid (Ext w w2) := by rw [hw2]; exact (ext_alloc _ _).trans (ext_alloc _ _)
  have HBA : Hid (Boxed w2 w.heap.size 3 (.int .i64 0)) := by rw [hw2]; exact ext_heap (ext_alloc _ _) (heap_at _ _ rfl)
  have HBC : Hid (Boxed w2 (w.heap.size + 1) 3 (.int .i64 0)) := by rw [hw2]; exact heap_at _ _ (by simp)
  have HZ4 : Hid (w4.heap.size = w.heap.size + 4) := by rw [hw4, hw2]; simp [Hid]
  have HX4 : Hid (Ext w2 w4) := by rw [hw4]; exact (ext_alloc _ _).trans (ext_alloc _ _)
  have HX : Hid (Ext w w4) := HX2.out.trans HX4.out
  have HLK : Hid (Looked w4 lo hi (w.heap.size + 3) (w.heap.size + 2) A b.length c b) := by
    refine ⟨HV.out.below HX.out hhi, Nat.le_trans hhi HX.out.size, HBB.out, ?_, ?_⟩
    · rw [hw4]; exact cell_of (heap_at _ _ (by simp [HZ2.out])) rfl
    · rw [hw4]; exact cell_new (cell_of (heap_at _ _ (by simp [HZ2.out])) rfl) _
  rw [← hw2, ← hw4]
  clear hw2 hw4
  have hmine : ∀ i, Mine lo hi (w.heap.size + 3) (w.heap.size + 2) i → i < w4.heap.size := fun i hi => by
    have := HZ4.out
    rcases hi with ⟨_, h⟩ | h | h <;> omega
  have HMINE := Lib.hid hmine
  clear hmine
  refine wpIn_over rfl enters_each (each_iter HLK.out) (fun _ => rfl) (fun n₁ k A => WholeI w w4 lo hi (w.heap.size + 3) (w.heap.size + 2) b n₁ k A ∧ w4.heap.size ≤ A.heap.size) (fun _ _ => False) (fun _ _ _ h => h.1.kept) ?hI (fun _ _ _ h _ => h) ?h0 ?round ?done (fun _ _ _ _ h _ => h.elim)
  case hI => intro n₁ k A A' _ hi hc; exact ⟨hi.1.chg (by have := HZ4.out; omega) hi.2 HMINE.out hc, Nat.le_trans hi.2 hc.size⟩
  case h0 =>
    intro A hx
    refine ⟨⟨⟨0, Upto.start b, ext_heap (HX4.out.trans hx) HBA.out, ext_heap (HX4.out.trans hx) HBC.out⟩, HX.out.trans hx, fun i hi hl => hx.block i hl, Nat.le_refl _⟩, hx.size⟩
  case round =>
    rintro l n₁ k ⟨m', A', n', c'⟩ A hl1 hl2 hn hnA ⟨hi, hsz⟩ hk ⟨p, hok, hpl, _⟩
    obtain ⟨m, hu, hb0, hb1⟩ := hi.ex
    obtain ⟨p', hw, hok', hu'⟩ := hu.here hk
    rw [hok'] at hok
    have hmp : m = m' ∧ p' = p := by injection hok with h; injection h with h1 h2; exact ⟨h1, h2⟩
    obtain ⟨rfl, rfl⟩ := hmp
    have hpl' : n' = p'.length := hpl
    subst hpl'
    have HI := Lib.hid hi
    have HU := Lib.hid hu'
    have HN := Lib.hid hn
    have HSZ := Lib.hid hsz
    have HL := Lib.hid (And.intro hl1 hl2)
    have HPS := Lib.hid (whole1_spec hw)
    have HB0 := Lib.hid hb0
    have HB1 := Lib.hid hb1
    have HK1 : Hid (wrap64 ((k : Int) + 1) = ((k + 1 : Nat) : Int)) := by have h := frs_len b; unfold Hid wrap64; omega
    have hfs : isize (p'.length : Int) = ((p'.length + 8 : Nat) : Int) := by
      have h1 := whole1_spec hw
      rw [isize_nat, show fsize p'.length = p'.length + 8 by unfold fsize; rw [if_pos ⟨h1.2.1, h1.2.2.1⟩]]
    have HSIZE : Hid (∀ w, Calls Try.prog 14 #[.int .i64 (p'.length : Int)] w fun e w' => e = .returned (.int .i64 ((p'.length + 8 : Nat) : Int)) ∧ w = w') := fun w => by
      have h := size_any (p'.length : Int) w
      rw [hfs] at h
      exact h
    have HM1 : Hid (wrap64 ((m : Int) + ((p'.length : Int) + 8)) = ((m + (p'.length + 8) : Nat) : Int)) := by have h := hu'.1; unfold Hid wrap64; omega
    clear hfs
    clear hok hok' hpl hi hn hl1 hl2 hk hsz hu hu' hw hb0 hb1 hnA
    dsimp only [eachV]
    gi_wp2
    refine ⟨Step.refl _ _ _, fun A2 hc => ?_⟩
    have hi2 := HI.out.chg (by have := HZ4.out; omega) HSZ.out HMINE.out (hc.mono fun i _ e => ⟨by have := HL.out.1; omega, by have := HL.out.2; omega⟩)
    have HB0' : Hid (Boxed A2 w.heap.size 3 (.int .i64 (k : Int))) := boxed_chg HB0.out hc (fun e => by have e : w.heap.size = l := e; have := HL.out.1; have := HZ4.out; omega)
    have HB1' : Hid (Boxed A2 (w.heap.size + 1) 3 (.int .i64 (m : Int))) := boxed_chg HB1.out hc (fun e => by have e : w.heap.size + 1 = l := e; have := HL.out.1; have := HZ4.out; omega)
    have q0 := HB0'.out.cell
    have f0 := HB0'.out.frozen
    have q1 := HB1'.out.cell
    have f1 := HB1'.out.frozen
    have HI2 := Lib.hid hi2
    have HC := Lib.hid hc
    clear hi2 hc
    gi_wp2_with (gi_at_call 14; refine (CallsIn.inRound l (callsIn_wide.2 (HSIZE.out _))).mono ?_; rintro e w9 ⟨rfl, rfl⟩)
    rw [HK1.out, HM1.out]
    have hz4 := HZ4.out
    have hle2 := HI2.out.le
    have hsz2 := HSZ.out
    have hcc : Chg (fun i => i = w.heap.size ∨ i = w.heap.size + 1) A2 ((A2.setCell ⟨w.heap.size, 0, none⟩ (.int .i64 ((k + 1 : Nat) : Int))).setCell ⟨w.heap.size + 1, 0, none⟩ (.int .i64 ((m + (p'.length + 8) : Nat) : Int))) :=
      (Chg.setCell _ _ _ (.inl rfl)).trans (Chg.setCell _ _ _ (.inr rfl))
    have hs24 : w4.heap.size ≤ A2.heap.size := Nat.le_trans hsz2 HC.out.size
    refine ⟨Step.of_chg hcc hle2 (fun i h1 h2 hs => by rcases hs with hs | hs <;> omega), ⟨⟨_, HU.out, boxed_far (HB0'.out.set _) (by simp) _, Boxed.set _ (boxed_far HB1'.out (by simp) _)⟩, HI2.out.below.trans (hcc.below (fun i hi => by rcases hi with hi | hi <;> omega) HI2.out.below.size), fun i hi hl => ?_, Nat.le_trans hle2 hcc.size⟩, Nat.le_trans hs24 hcc.size⟩
    refine (hcc.block i (by omega) (fun hs => ?_)).trans (HI2.out.kept i hi hl)
    rcases hi with ⟨_, h⟩ | h | h <;> rcases hs with hs | hs <;> omega
  case done =>
    rintro D' n₁ W hDl _ hn ⟨hi, hsz⟩ hD
    obtain ⟨m, hu, hb0, hb1⟩ := hi.ex
    have HU := Lib.hid hu.last
    have q0 := hb0.cell
    have q1 := hb1.cell
    have HBEL := Lib.hid hi.below
    have HDD := Lib.hid hD
    have HDL := Lib.hid hDl
    clear hi hu hb0 hb1 hn hsz hD hDl
    obtain ⟨N, hN⟩ : ∃ N, N = (frs b 0).length := ⟨_, rfl⟩
    rw [← hN] at q0
    gi_wp2
    refine wpIn_wide.2 ?_
    go_region
    clear q0 q1
    gi_wp2
    refine ⟨by simp, .inl ⟨_, _, rfl, run_takeDeferred (w := W.drew) HDD.out, ?_⟩⟩
    refine ⟨_, results_tmp2 rfl _ _ _, ⟨by rw [HU.out]; rfl, ?_⟩⟩
    exact (HBEL.out.drew).trans ((putObj_chg W.drew D' _).below (fun i e => by have := HDL.out; have := HX.out.size; omega) HBEL.out.size)
end Go.Proofs.Ytkaammdekalgnaa
