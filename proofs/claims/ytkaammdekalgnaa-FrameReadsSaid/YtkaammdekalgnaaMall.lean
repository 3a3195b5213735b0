/- All: going over the whole frames, each with a payload of its own. -/
import Derived.Test.YtkaammdekalgnaaMeach
import Derived.Test.YtkaammdekalgnaaMput
import Derived.Test.YtkaammdekalgnaaFlowin
import Derived.Shelf.RegionOpen
namespace Go.Proofs.Ytkaammdekalgnaa
open Go.RowKit Go.Shelf
attribute [local go_sem] Oper.semAt_some

/-- All makes a function over a copy of the bytes. -/
def AllAns (w : World) (b : List Nat) (e : Ending) (w' : World) : Prop := ∃ A c, e = .returned (.func (.func 39) #[] #[.pointer (some ⟨w.heap.size, 0, none⟩)]) ∧ w'.cell? ⟨w.heap.size, 0, none⟩ = some (.slice A b.length c) ∧
  Own (w.heap.size + 1) b (.slice A b.length c) w' ∧ Below w.heap.size w w'
set_option maxHeartbeats 1000000 in
theorem all_any {w : World} {lo hi : Nat} {v : Value} {b : List Nat} (hv : Bs w lo hi v b) (hhi : hi ≤ w.heap.size) (hlen : b.length ≤ 1099511627776) : Calls Try.prog 30 #[v] w (AllAns w b) := by
  have HV := Lib.hid hv
  have HLEN := Lib.hid hlen
  obtain ⟨A, c, rfl, q1, q2, q3, _⟩ := hv
  clear q1 q2 q3 hlen
  go_enter Try.func30, Try.ntmps30
  go_wp2_with fail
  obtain ⟨w1, hw1⟩ : ∃ w1, w1 = w.alloc (.cells #[.slice A b.length c] 22) := ⟨_, rfl⟩
  have HX1 : Hid (Ext w w1) := by rw [hw1]; exact ext_alloc _ _
  have HZ1 : Hid (w1.heap.size = w.heap.size + 1) := by rw [hw1]; simp [Hid]
  have HB1 : Hid (Boxed w1 w.heap.size 22 (.slice A b.length c)) := by rw [hw1]; exact heap_at _ _ rfl
  rw [← hw1]
  clear hw1
  refine (clone_any _ _ _ b w1 (HV.out.below HX1.out hhi) (Nat.le_trans hhi HX1.out.size) HLEN.out).mono ?_
  rintro e w2 ⟨v2, rfl, hown, hb⟩
  have HX2 : Hid (Ext w1 w2) := hb
  have hown2 := hown
  obtain ⟨A2, c2, rfl, _, _, _, _⟩ := Sl.of_own hown
  have HO2 : Hid (Own (w.heap.size + 1) b (.slice A2 b.length c2) w2) := by rw [← HZ1.out]; exact hown2
  have HB2 : Hid (Boxed w2 w.heap.size 22 (.slice A b.length c)) := ext_heap HX2.out HB1.out
  have q0 := HB2.out.cell
  have f0 := HB2.out.frozen
  clear hown hown2 hb
  go_wp2_with fail
  go_ret
  refine ⟨A2, c2, rfl, (HB2.out.set _).cell, ?_, Below.setCell (Ext.trans HX1.out HX2.out) (Nat.le_refl _) _⟩
  exact row_kept HO2.out (fun g hg => Below.heap_setCell _ _ _ _ (fun e => by have e : g = w.heap.size := e; have := (row_lt HO2.out g hg).1; omega))
theorem enters_all : ∀ args w, (callFunc 39 args).run Try.prog w = .ok (.enter 39 args) w := enters_of Try.func39 (by kernel_rfl) rfl

theorem frF_mem (b : List Nat) : ∀ (f k : Nat) (x : Nat × List Nat), x ∈ frF f b k → whole1 (b.drop x.1) = some x.2 := by
  intro f
  induction f with
  | zero => intro k x h; simp [frF] at h
  | succ f ih =>
    intro k x h
    simp only [frF] at h
    split at h
    · simp at h
    · rename_i p hp
      rcases List.mem_cons.1 h with rfl | h
      · exact hp
      · exact ih _ x h
theorem frs_pay {b p : List Nat} {k m : Nat} (h : (frs b 0)[k]? = some (m, p)) : p.length ≤ 1048576 := (whole1_spec (frF_mem b _ _ _ (List.mem_of_getElem? h))).2.2.1

/-- Of the k-th frame: where it begins, and a new row that reads as its payload. -/
def AllOk (b : List Nat) (n₁ k : Nat) (x : Nat × Option Addr × Nat × Nat) (A : World) : Prop :=
  ∃ p, (frs b 0)[k]? = some (x.1, p) ∧ x.2.2.1 = p.length ∧ Own n₁ p (.slice x.2.1 x.2.2.1 x.2.2.2) A
/-- Between two rounds. -/
structure AllI (J : Nat → Nat → World → Prop) (W w1 : World) (lo hi l : Nat) (n₁ k : Nat) (A : World) : Prop where
  j : J n₁ k A
  box : Boxed A W.heap.size 63 (.func (.yield l) #[] #[])
  kept : Kept lo hi (W.heap.size + 2) (W.heap.size + 1) w1 A
  le : n₁ ≤ A.heap.size
  size : w1.heap.size ≤ A.heap.size

set_option maxRecDepth 100000 in
set_option maxHeartbeats 8000000 in
theorem all_iter {w : World} {lo hi bd n c : Nat} {Ab : Option Addr} {b : List Nat} (hbs : Bs w lo hi (.slice Ab n c) b) (hhi : hi ≤ w.heap.size) (hb : ∀ x ∈ b, x < 256) (hbd : w.cell? ⟨bd, 0, none⟩ = some (.slice Ab n c)) :
    Iter Try.prog 39 #[.pointer (some ⟨bd, 0, none⟩)] (frs b 0).length eachV (AllOk b) (Kept lo hi bd bd w) w := by
  intro mm l J Jx W hx hC hJ hJx h0 hY
  have HBS := Lib.hid (hbs.below hx hhi)
  have HHI := Lib.hid hhi
  have HBB := Lib.hid hb
  have HC := Lib.hid hC
  have HJ := Lib.hid hJ
  have HJX := Lib.hid hJx
  have H0 := Lib.hid h0
  have HY := Lib.hid hY
  have HXW := Lib.hid hx
  have c1 := ext_cell hx hbd
  have c1a := cell_new c1 (.cells #[.func (.yield l) #[] #[]] 63)
  clear hbs hhi hb hC hJ hJx h0 hY hx hbd
  have hf1 : Fence.wide.fn 29 := trivial
  have hf2 : Fence.wide.fn 33 := trivial
  refine (callsIn_wide (n := 6)).1 ?_
  refine callsIn_of_wp_marks Try.func39 rfl trivial ?_
  simp only [Try.ntmps39, List.size_toArray, List.length_cons, List.length_nil, Nat.reduceAdd, Nat.reduceSub, Array.replicate_succ, Array.replicate_zero, List.push_toArray, List.append_toArray, List.nil_append, List.cons_append]
  gi_wp2_with (gi_at_call 29; refine (callsIn_wide.2 (each_any _ _ _ _)).mono ?_; rintro e w' ⟨rfl, rfl⟩)
  obtain ⟨w1, hw1⟩ : ∃ w1, w1 = ((W.alloc (.cells #[.func (.yield l) #[] #[]] 63)).alloc (.cells #[.slice Ab n c] 22)).alloc (.cells #[.func (.func 41) #[] #[.pointer (some ⟨W.heap.size + 1, 0, none⟩)]] 56) := ⟨_, rfl⟩
  rw [← hw1]
  have HX1 : Hid (Ext W w1) := by rw [hw1]; exact Ext.trans (Ext.trans (ext_alloc _ _) (ext_alloc _ _)) (ext_alloc _ _)
  have HZ1 : Hid (w1.heap.size = W.heap.size + 3) := by rw [hw1]; simp [Hid]
  have HB0 : Hid (Boxed w1 W.heap.size 63 (.func (.yield l) #[] #[])) := by rw [hw1]; exact ext_heap (Ext.trans (ext_alloc _ _) (ext_alloc _ _)) (heap_at _ _ rfl)
  have HHW : Hid (hi ≤ W.heap.size) := Nat.le_trans HHI.out HXW.out.size
  have HLK : Hid (Looked w1 lo hi (W.heap.size + 2) (W.heap.size + 1) Ab n c b) := by
    refine ⟨HBS.out.below HX1.out HHW.out, Nat.le_trans HHW.out HX1.out.size, HBB.out, ?_, ?_⟩
    · rw [hw1]; exact cell_of (heap_at _ _ (by simp)) rfl
    · rw [hw1]; exact cell_new (cell_of (heap_at _ _ (by simp)) rfl) _
  clear hw1
  have hmine : ∀ i, Mine lo hi (W.heap.size + 2) (W.heap.size + 1) i → i < w1.heap.size := fun i hi => by
    have := HZ1.out
    have := HHW.out
    rcases hi with ⟨_, h⟩ | h | h <;> omega
  have HMINE := Lib.hid hmine
  clear hmine
  have hchg : ∀ n₁ k A A', w1.heap.size ≤ n₁ → AllI J W w1 lo hi l n₁ k A → Chg (Btw w1.heap.size n₁) A A' → AllI J W w1 lo hi l n₁ k A' := fun n₁ k A A' hn hi hc =>
    ⟨HJ.out n₁ k A A' (Nat.le_trans HX1.out.size hn) hi.j (hc.mono fun i _ hb => ⟨Nat.le_trans HX1.out.size hb.1, hb.2⟩), boxed_chg hi.box hc (fun hb => by have := hb.1; have := HZ1.out; omega),
      fun i hm hl => (hc.block i (Nat.lt_of_lt_of_le hl hi.size) (fun hb => by have := hb.1; omega)).trans (hi.kept i hm hl), Nat.le_trans hi.le hc.size, Nat.le_trans hi.size hc.size⟩
  have HCHG := Lib.hid hchg
  clear hchg
  refine wpIn_over rfl enters_each (each_iter HLK.out) (fun _ => rfl) (AllI J W w1 lo hi l) (fun c A => c = .ret ∧ Jx A) (fun _ _ _ h => h.kept) ?hI ?hIx ?h0 ?round ?done ?stop
  case hI => intro n₁ k A A' hn hi hc; exact HCHG.out _ _ _ _ (by omega) hi hc
  case hIx => rintro c A A' ⟨rfl, hj⟩ hc; exact ⟨rfl, HJX.out A A' hj (hc.mono fun i _ (hb : w1.heap.size ≤ i) => Nat.le_trans HX1.out.size hb)⟩
  case h0 => intro A hxA; exact ⟨H0.out A (Ext.trans HX1.out hxA), ext_heap hxA HB0.out, fun i _ hl => hxA.block i hl, Nat.le_refl _, hxA.size⟩
  case round =>
    rintro l2 n₁ k ⟨m', A', n', c'⟩ A hl1 hl2 hn hnA hi hk ⟨p, hok, hpl, hps⟩
    have hpl' : n' = p.length := hpl
    subst hpl'
    have hok' : (frs b 0)[k]? = some (m', p) := hok
    have HAGAIN : Hid (∀ A2, J n₁ k A2 → A.heap.size ≤ A2.heap.size → Bs A2 0 A2.heap.size (.slice A' p.length c') p) := by
      intro A2 hj hs
      have hk1 := HC.out n₁ k A2 hj
      have hk2 := HC.out n₁ k A hi.j
      have h := hps.of (w' := A2) fun _ h => h.keep fun q h1 h2 => World.cell?_of_block ((hk1 q.block (.inl ⟨h1, h2⟩) (Nat.lt_of_lt_of_le h2 HHI.out)).trans (hk2 q.block (.inl ⟨h1, h2⟩) (Nat.lt_of_lt_of_le h2 HHI.out)).symm)
      exact h.wide (Nat.zero_le _) (Nat.le_trans HHW.out (Nat.le_trans HX1.out.size (Nat.le_trans hi.size hs)))
    have HI := Lib.hid hi
    have HN := Lib.hid hn
    have HL := Lib.hid (And.intro hl1 hl2)
    have HK := Lib.hid hk
    have HOK := Lib.hid hok'
    have HPAY := Lib.hid (frs_pay hok')
    clear hok hok' hpl hps hi hn hl1 hl2 hk hnA
    dsimp only [eachV]
    gi_wp2
    refine ⟨Step.refl _ _ _, fun A2 hc => ?_⟩
    have HI2 := Lib.hid (HCHG.out _ _ _ _ (by have := HN.out; omega) HI.out (hc.mono fun i _ e => ⟨by have := HL.out.1; omega, by have := HL.out.2; omega⟩))
    have q0 := HI2.out.box.cell
    have HBS2 : Hid (Bs A2 0 A2.heap.size (.slice A' p.length c') p) := HAGAIN.out A2 HI2.out.j hc.size
    have HL2 : Hid (n₁ ≤ A2.heap.size) := HI2.out.le
    have HLEN : Hid (p.length ≤ 1099511627776) := by have := HPAY.out; unfold Hid; omega
    clear hc
    gi_wp2_with fail
    have HMIX : Try.prog.follows .mixedOrders = true := by kernel_rfl
    gi_region_with_o (first
     | (gi_at_call 33
        go_loud (
         refine CallsIn.mono (CallsIn.inRound l2 (callsIn_wide.2 (clone_any _ 0 A2.heap.size _ A2.drew HBS2.out (Nat.le_refl _) HLEN.out))) ?_
         rintro e A3 ⟨v, rfl, hown, hb⟩
         have hown3 := hown
         obtain ⟨A4, c4, rfl, _, _, _, _⟩ := Sl.of_own hown
         have HI3 := Lib.hid (HCHG.out n₁ k A2 A3 (by have := HN.out; omega) HI2.out ((Chg.drew A2).trans (Chg.of_ext hb)))
         have HRD := HY.out n₁ k (m', A4, p.length, c4) A3 (by have := HN.out; have := HZ1.out; omega) (Nat.le_trans HL2.out hb.size) HI3.out.j HK.out ⟨p, HOK.out, rfl, ownsRow_base hown3 HL2.out⟩
         obtain ⟨fn, tmps, assign, body, hy, hR⟩ := HRD
         dsimp only [eachV] at hy
         have HR := Lib.hid (roundIn_any (m' := 3) hR)
         have HB3 := Lib.hid hb
         have q3 := HI3.out.box.cell
         clear hR hown hown3 hb))
     | (refine RoundIn.mono (F := Fence.wide.inRound l2) (n := 3) HR.out ?_
        go_loud (
         rintro e A5 ⟨hst, hh⟩
         obtain ⟨g, rfl, hj⟩ : ∃ g : Bool, e = .returned (.bool g) ∧ Hid (match g with | true => J n₁ (k + 1) A5 | false => Jx A5) := by rcases hh with ⟨rfl, hj⟩ | ⟨rfl, hj⟩ <;> exact ⟨_, rfl, hj⟩
         have HST := Lib.hid hst
         clear hst hh)))
    all_goals cases g
    all_goals gi_wp2_with fail
    all_goals first
      | (have hst := HST.out
         have hs1 := HX1.out.size
         have hn := HN.out
         have hz := HZ1.out
         have hs23 : Step w1.heap.size n₁ A2 A3 := Step.of_chg (S := fun _ => False) ((Chg.drew A2).trans (Chg.of_ext HB3.out)) HL2.out (fun _ _ _ h => h)
         have hs34 : Step w1.heap.size n₁ A3 A5 := ⟨fun i h1 h2 => hst.stay i (by omega) h2, hst.os, hst.tape, hst.output, hst.size⟩
         have hle : n₁ ≤ A3.heap.size := HI3.out.le
         have hsz3 := HI3.out.size
         first
           | (refine ⟨hs23.trans hs34, ⟨hj.out, (hst.stay W.heap.size (Nat.le_refl _) (by omega)).trans HI3.out.box, fun i hm hl => ?_, Nat.le_trans hle hst.size, Nat.le_trans hsz3 hst.size⟩⟩
              rcases hm with ⟨h1, h2⟩ | rfl | rfl
              · have e1 := HC.out n₁ (k + 1) A5 hj.out i (.inl ⟨h1, h2⟩) (Nat.lt_of_lt_of_le h2 HHI.out)
                have e2 := HXW.out.block i (Nat.lt_of_lt_of_le h2 HHI.out)
                have e3 := HX1.out.block i (Nat.lt_of_lt_of_le h2 HHW.out)
                rw [e1, e3, e2]
              · exact (hst.stay _ (by omega) (by omega)).trans (HI3.out.kept _ (.inr (.inl rfl)) hl)
              · exact (hst.stay _ (by omega) (by omega)).trans (HI3.out.kept _ (.inr (.inr rfl)) hl))
           | exact ⟨hs23.trans hs34, rfl, hj.out⟩)
  case done =>
    rintro D' n₁ W' hDl hDn hn hi hD
    have HDL := Lib.hid (And.intro hDl hDn)
    have HI := Lib.hid hi
    have HN := Lib.hid hn
    have HDD := Lib.hid hD
    clear hDl hDn hn hi hD
    gi_wp2
    refine ⟨by simp, .inl ⟨_, _, rfl, run_takeDeferred HDD.out, ?_⟩⟩
    refine ⟨_, results_none rfl _ _ _, ⟨⟨_, rfl⟩, .inl ⟨n₁, by have := HN.out; have := HZ1.out; omega, ?_⟩⟩⟩
    exact HJ.out n₁ _ _ _ (by have := HN.out; have := HZ1.out; omega) HI.out.j ((putObj_chg W' D' _).mono fun i _ e => ⟨by have := HDL.out.1; have := HZ1.out; omega, by have := HDL.out.2; omega⟩)
  case stop =>
    rintro D' c W' hDl ⟨rfl, hjx⟩ hD
    have HDL := Lib.hid hDl
    have HJX2 := Lib.hid hjx
    have HDD := Lib.hid hD
    clear hDl hjx hD
    gi_wp2
    refine ⟨by simp, .inl ⟨_, _, rfl, run_takeDeferred HDD.out, ?_⟩⟩
    refine ⟨_, results_none rfl _ _ _, ⟨⟨_, rfl⟩, .inr ?_⟩⟩
    exact HJX.out _ _ HJX2.out ((putObj_chg W' D' _).mono fun i _ e => by have := HDL.out; have := HZ1.out; show W.heap.size ≤ i; omega)
end Go.Proofs.Ytkaammdekalgnaa
