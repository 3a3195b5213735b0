/- Yeach Yafter Ysame JMcount, joined. -/
import Derived.Test.YtgflhbpmkcggnaaMa8
import Derived.Test.YtgflhbpmkcggnaaMa9
import Derived.Test.YtgflhbpmkcggnaaMa4
import Derived.Test.YtgflhbpmkcggnaaMa7
import Derived.Test.YtgflhbpmkcggnaaMa5
import Derived.Deep.DeepCutAuto

/- wal's each: going over the batches of a log's frames. -/
namespace Go.Proofs.Ytgflhbpmkcggnaa
open Go.ChangeShapes Go.WideShapes Go.ChangeAt Go.RowKit Go.Shelf
attribute [local go_sem] Oper.semAt_some

theorem each_new (gf : Nat) (lb : Array Value) (w : World) : Calls Try.prog 37 #[.func (.func gf) #[] lb] w fun e w' => e = .returned (.func (.func 58) #[] #[.pointer (some ⟨w.heap.size, 0, none⟩)]) ∧ w' = w.alloc (.cells #[.func (.func gf) #[] lb] 65) := by
  go_enter Try.func37, Try.ntmps37
  go_wp2_with fail
  go_ret
  exact ⟨rfl, rfl⟩
theorem enters_weach : ∀ args w, (callFunc 58 args).run Try.prog w = .ok (.enter 58 args) w := enters_of Try.func58 (by kernel_rfl) rfl

/-- What is handed over: where the batch's frame ends, and it. -/
def batchV (x : Nat × Bx) : Array Value := #[.int .i64 (x.1 : Int), x.2.val]
def BatchOk (R : List (Nat × Bat)) (n₁ k : Nat) (x : Nat × Bx) (A : World) : Prop := ∃ r, R[k]? = some r ∧ r.1 = x.1 ∧ r.2 = x.2.bat ∧ Gb n₁ x.2 A
/-- Between two rounds. -/
structure BatI (J : Nat → Nat → World → Prop) (W w1 : World) (R : List (Nat × Bat)) (l : Nat) (n₁ k : Nat) (A : World) : Prop where
  j : J n₁ k A
  kr : k ≤ R.length
  box : Boxed A W.heap.size 90 (.func (.yield l) #[] #[])
  last : Boxed A (W.heap.size + 1) 2 (.int .i64 (lastAt 0 R k))
  nxt : Boxed A (W.heap.size + 2) 74 (.func (.func 82) #[] #[.pointer (some ⟨W.heap.size + 1, 0, none⟩)])
  le : n₁ ≤ A.heap.size
  size : w1.heap.size ≤ A.heap.size

set_option maxRecDepth 100000 in
set_option maxHeartbeats 16000000 in
theorem weach_iter {w : World} {lo hi bd fb n c : Nat} {Ab : Option Addr} {b : List Nat} {R : List (Nat × Bat)} (hbs : Bs w lo hi (.slice Ab n c) b) (hhi : hi ≤ w.heap.size) (hb : ∀ x ∈ b, x < 256) (hlen : b.length ≤ 1000000000000) (hbd : w.cell? ⟨bd, 0, none⟩ = some (.slice Ab n c))
    (hfb : w.cell? ⟨fb, 0, none⟩ = some (.func (.func 62) #[] #[.pointer (some ⟨bd, 0, none⟩)])) (hR : Batl (Fm.frs b 0) 0 R) :
    IterB Try.prog 58 #[.pointer (some ⟨fb, 0, none⟩)] R.length batchV (BatchOk R) (Fm.Kept lo hi bd fb w) w := by
  intro mm l J Jx W hx hC hJ hJx h0 hY
  have HBS := Lib.hid (hbs.below hx hhi)
  have HHI := Lib.hid hhi
  have HBB := Lib.hid hb
  have HBL := Lib.hid hlen
  have HRR := Lib.hid hR
  have HC := Lib.hid hC
  have HJ := Lib.hid hJ
  have HJX := Lib.hid hJx
  have H0 := Lib.hid h0
  have HY := Lib.hid hY
  have HXW := Lib.hid hx
  have HBD := Lib.hid (And.intro hbd (World.block_lt_of_cell? w _ hbd))
  have HFB := Lib.hid (World.block_lt_of_cell? w _ hfb)
  have c1 := ext_cell hx hfb
  obtain ⟨w1, hw1⟩ : ∃ w1, w1 = ((W.alloc (.cells #[.func (.yield l) #[] #[]] 90)).alloc (.cells #[.int .i64 0] 2)).alloc (.cells #[.func (.func 82) #[] #[.pointer (some ⟨W.heap.size + 1, 0, none⟩)]] 74) := ⟨_, rfl⟩
  have HX1 : Hid (Ext W w1) := by rw [hw1]; exact Ext.trans (Ext.trans (ext_alloc _ _) (ext_alloc _ _)) (ext_alloc _ _)
  have HZ1 : Hid (w1.heap.size = W.heap.size + 3) := by rw [hw1]; simp [Hid]
  have HB0 : Hid (Boxed w1 W.heap.size 90 (.func (.yield l) #[] #[])) := by rw [hw1]; exact ext_heap (Ext.trans (ext_alloc _ _) (ext_alloc _ _)) (heap_at _ _ rfl)
  have HB1 : Hid (Boxed w1 (W.heap.size + 1) 2 (.int .i64 0)) := by rw [hw1]; exact ext_heap (ext_alloc _ _) (heap_at _ _ (by simp))
  have HB2 : Hid (Boxed w1 (W.heap.size + 2) 74 (.func (.func 82) #[] #[.pointer (some ⟨W.heap.size + 1, 0, none⟩)])) := by rw [hw1]; exact heap_at _ _ (by simp)
  have c1a := ext_cell HX1.out c1
  have HHW : Hid (hi ≤ W.heap.size) := Nat.le_trans HHI.out HXW.out.size
  clear hbs hhi hb hlen hR hC hJ hJx h0 hY hx hbd hfb c1
  have hf1 : Fence.wide.fn 59 := trivial
  have hf2 : Fence.wide.fn 82 := trivial
  have hf3 : Fence.wide.fn 60 := trivial
  refine (callsIn_wide (n := 6)).1 ?_
  refine callsIn_of_wp_marks Try.func58 rfl trivial ?_
  simp only [Try.ntmps58, List.size_toArray, List.length_cons, List.length_nil, Nat.reduceAdd, Nat.reduceSub, Array.replicate_succ, Array.replicate_zero, List.push_toArray, List.append_toArray, List.nil_append, List.cons_append]
  gi_wp2_with fail
  refine wpIn_wide.2 (wp_scope_straight (wpIn_wide (n := 6).1 ?_))
  gi_wp2_with (gi_at_call 59; refine (callsIn_wide.2 (rising_new _)).mono ?_; rintro e w' ⟨rfl, rfl⟩)
  rw [← hw1]
  clear hw1
  refine wpIn_label ?_
  gi_wp2_with fail
  have HKP : Hid (∀ n₁ k A, J n₁ k A → Fm.Kept lo hi bd bd w1 A) := fun n₁ k A hj i hm hlt => by
    have h1 := HC.out n₁ k A hj
    have hi2 : i < w.heap.size := by
      have h2 := HHI.out
      have h3 := HBD.out.2
      rcases hm with ⟨_, h⟩ | h | h <;> omega
    have hm' : Fm.Mine lo hi bd fb i := by
      rcases hm with h | h | h
      · exact .inl h
      · exact .inr (.inl h)
      · exact .inr (.inl h)
    rw [h1 i hm' hi2, HX1.out.block i (by have := HXW.out.size; omega), HXW.out.block i hi2]
  have hchg : ∀ n₁ k A A', w1.heap.size ≤ n₁ → BatI J W w1 R l n₁ k A → Chg (Btw w1.heap.size n₁) A A' → BatI J W w1 R l n₁ k A' := fun n₁ k A A' hn hi hc =>
    have hz := HZ1.out
    ⟨HJ.out n₁ k A A' (Nat.le_trans HX1.out.size hn) hi.j (hc.mono fun i _ hb => ⟨Nat.le_trans HX1.out.size hb.1, hb.2⟩), hi.kr, boxed_chg hi.box hc (fun hb => by have := hb.1; omega), boxed_chg hi.last hc (fun hb => by have := hb.1; omega),
      boxed_chg hi.nxt hc (fun hb => by have := hb.1; omega), Nat.le_trans hi.le hc.size, Nat.le_trans hi.size hc.size⟩
  have HCHG := Lib.hid hchg
  have HALL := Lib.hid (Fm.all_iter (HBS.out.below HX1.out HHW.out) (Nat.le_trans HHW.out HX1.out.size) HBB.out (ext_cell HX1.out (ext_cell HXW.out HBD.out.1)))
  clear hchg
  refine wpIn_overB rfl Fm.enters_all HALL.out (fun _ => rfl) (BatI J W w1 R l) (fun n₁ c A => c = .exit 0 ∧ (J n₁ R.length A ∨ Jx n₁ A)) (fun n₁ k A h => HKP.out n₁ k A h.j) ?hI ?hIx ?h0 ?round ?done ?stop
  case hI => intro n₁ k A A' hn hi hc; exact HCHG.out _ _ _ _ (by omega) hi hc
  case hIx =>
    rintro n₁ c A A' hn ⟨rfl, hj⟩ hc
    have hc2 : Chg (Btw W.heap.size n₁) A A' := hc.mono fun i _ hb => ⟨Nat.le_trans HX1.out.size hb.1, hb.2⟩
    have hn2 : W.heap.size ≤ n₁ := by have := HX1.out.size; omega
    exact ⟨rfl, hj.imp (fun h => HJ.out _ _ _ _ hn2 h hc2) (fun h => HJX.out _ _ _ hn2 h hc2)⟩
  case h0 => intro A hxA; exact ⟨H0.out A (Ext.trans HX1.out hxA), Nat.zero_le _, ext_heap hxA HB0.out, ext_heap hxA HB1.out, ext_heap hxA HB2.out, Nat.le_refl _, hxA.size⟩
  case round =>
    rintro l2 n₁ k ⟨m', A', n', c'⟩ A hl1 hl2 hn hnA hi hk ⟨p, hok, hpl, hown⟩
    have hpl' : n' = p.length := hpl
    subst hpl'
    have hok' : (Fm.frs b 0)[k]? = some (m', p) := hok
    have HMEM := Lib.hid (Fm.frF_mem b _ _ _ (List.mem_of_getElem? hok'))
    have HPB : Hid (∀ x ∈ p, x < 256) := Fm.whole1_lt HMEM.out fun x hx => HBB.out x (List.mem_of_mem_drop hx)
    have HSP := Lib.hid (Fm.whole1_spec HMEM.out)
    have HI := Lib.hid hi
    have HN := Lib.hid hn
    have HL := Lib.hid (And.intro hl1 hl2)
    have HK := Lib.hid hk
    have HOK := Lib.hid hok'
    have HOW : Hid (Own n₁ p (.slice A' p.length c') A) := hown
    clear hok hok' hpl hown hi hn hl1 hl2 hk hnA
    dsimp only [Fm.eachV]
    gi_wp2
    refine ⟨Step.refl _ _ _, fun A2 hc => ?_⟩
    have HI2 := Lib.hid (HCHG.out _ _ _ _ (by have := HN.out; omega) HI.out (hc.mono fun i _ e => ⟨by have := HL.out.1; omega, by have := HL.out.2; omega⟩))
    have HO2 : Hid (Own n₁ p (.slice A' p.length c') A2) := row_chg HOW.out hc fun k hk e => by have := HL.out.2; omega
    have q0 := HI2.out.nxt.cell
    have HNX := Lib.hid (next_any (HO2.out.bs) (Nat.le_refl _) HPB.out (by have := HSP.out.2.2.1; omega) HI2.out.last)
    have HL2 : Hid (n₁ ≤ A2.heap.size) := HI2.out.le
    clear hc
    gi_wp2_with fail
    refine CallsIn.mono (CallsIn.inRound l2 (callsIn_wide.2 HNX.out)) ?_
    rintro e A3 ⟨hch, (⟨⟨xi, eA, ec, lx⟩, his, hd, rfl, hg, hbx⟩ | ⟨hno, rfl, hbx⟩)⟩
    · have hkR : ∃ r, R[k]? = some r ∧ r.1 = m' + (p.length + 8) ∧ r.2 = (⟨xi, lx.map Prod.fst⟩ : Bat) := by
        rcases Nat.lt_or_ge k R.length with h | h
        · obtain ⟨r, hr⟩ : ∃ r, R[k]? = some r := ⟨_, List.getElem?_eq_getElem h⟩
          obtain ⟨h1, h2, _⟩ := HRR.out.at_ hr HOK.out
          exact ⟨r, hr, h1, h2.unique his⟩
        · have hk' : k = R.length := Nat.le_antisymm HI2.out.kr h
          have h3 := HRR.out.stop (by rw [← hk']; exact HOK.out) _ his
          rw [← hk'] at h3
          exact absurd hd h3
      have HKR := Lib.hid hkR
      have HCH := Lib.hid hch
      have HG3 := Lib.hid (hg.base HL2.out)
      have HBX := Lib.hid hbx
      clear his hd hg hbx hkR hch HNX
      dsimp only [Bx.val] at *
      gi_wp2_with fail
      obtain ⟨A4, hA4⟩ : ∃ A4, A4 = A3.alloc (.cells #[.int .i64 xi, .slice eA lx.length ec] 24) := ⟨_, rfl⟩
      rw [← hA4]
      have HX4 : Hid (Ext A3 A4) := by rw [hA4]; exact ext_alloc _ _
      have HY4 : Hid (A4.heap[A3.heap.size]? = some (.cells #[.int .i64 xi, .slice eA lx.length ec] 24 (0, 0))) := by rw [hA4]; exact heap_at _ _ rfl
      clear hA4 q0
      have hz1 := HZ1.out
      have hn := HN.out
      have hc24 : Chg (Btw W.heap.size n₁) A2 A4 := (HCH.out.mono (S' := Btw W.heap.size n₁) fun i _ e => ⟨by omega, by omega⟩).trans (Chg.of_ext HX4.out)
      have HC24 := Lib.hid hc24
      have HJ4 : Hid (J n₁ k A4.drew) := HJ.out _ _ _ _ (by omega) HI2.out.j (hc24.trans (Chg.drew A4))
      have HBX4 : Hid (Boxed A4 W.heap.size 90 (.func (.yield l) #[] #[])) := ext_heap HX4.out (boxed_chg HI2.out.box HCH.out (by omega))
      have HLA4 : Hid (Boxed A4 (W.heap.size + 1) 2 (.int .i64 xi)) := ext_heap HX4.out HBX.out
      have HNX4 : Hid (Boxed A4 (W.heap.size + 2) 74 (.func (.func 82) #[] #[.pointer (some ⟨W.heap.size + 1, 0, none⟩)])) := ext_heap HX4.out (boxed_chg HI2.out.nxt HCH.out (by omega))
      have HLE4 : Hid (n₁ ≤ A4.heap.size ∧ w1.heap.size ≤ A4.heap.size) := ⟨Nat.le_trans HI2.out.le hc24.size, Nat.le_trans HI2.out.size hc24.size⟩
      have hkl : k < R.length := by
        obtain ⟨r, hr, _⟩ := HKR.out
        exact (List.getElem?_eq_some_iff.1 hr).1
      have HKL := Lib.hid hkl
      have HRD := HY.out n₁ k (m' + (p.length + 8), ⟨xi, eA, ec, lx⟩) A4.drew (by omega) HLE4.out.1 HJ4.out hkl (by
        obtain ⟨r, hr, h1, h2⟩ := HKR.out
        exact ⟨r, hr, h1, h2, (HG3.out.ext (Ext.trans HX4.out (Ext.drew A4)))⟩)
      obtain ⟨fn, tmps, assign, body, hy, hR⟩ := HRD
      dsimp only [batchV, Bx.val] at hy
      have HR := Lib.hid (roundIn_any (m' := 3) hR)
      have hpm : m' + (p.length + 8) ≤ b.length := by
        have h1 := HSP.out.2.2.2.1
        rw [List.length_drop] at h1
        have h2 := HSP.out.2.1
        omega
      obtain ⟨sz, hsz0⟩ : ∃ sz : Nat, sz = p.length + 8 := ⟨_, rfl⟩
      obtain ⟨ee, hee⟩ : ∃ ee : Nat, ee = m' + (p.length + 8) := ⟨_, rfl⟩
      rw [← hee] at hy
      have hw : IntKind.i64.wrap ((m' : Int) + (sz : Int)) = (ee : Int) := by
        have h1 := HBL.out
        rw [IntKind.wrap_i64]
        omega
      have hw64 : wrap64 ((m' : Int) + (sz : Int)) = (ee : Int) := by
        have h1 := HBL.out
        unfold wrap64
        omega
      have hsz : ∀ u, Calls Try.prog 60 #[.int .i64 (p.length : Int)] u fun e u' => e = .returned (.int .i64 (sz : Int)) ∧ u = u' := fun u => (Fm.size_any _ u).mono fun e u' h => by
        have h1 : Fm.isize (p.length : Int) = (sz : Int) := by
          have h2 := HSP.out
          rw [Fm.isize_nat, show Fm.fsize p.length = p.length + 8 by unfold Fm.fsize; rw [if_pos ⟨h2.2.1, h2.2.2.1⟩], ← hsz0]
        rw [h1] at h; exact h
      have HSZ := Lib.hid hsz
      have q1 := HBX4.out.cell
      have y0 := cell_of HY4.out (k := 0) rfl
      have y1 := cell_of HY4.out (k := 1) rfl
      clear hR hc24 hz1 hn hkl hpm hsz hsz0 hee
      have HMIX : Try.prog.follows .mixedOrders = true := by kernel_rfl
      refine Fi.flowY HMIX (fun sn f u => Fi.VI (fun j => ([some (.func (.yield l) #[] #[]), some (.int .i64 (m' : Int)), some (.slice A' p.length c'), some (.int .i64 (p.length : Int)), some (.int .i64 (sz : Int)), some (.int .i64 (ee : Int)), some (.agg #[.int .i64 xi, .slice eA lx.length ec]), none, none, none] : List (Option Value)).getD j none) sn f ∧ Fi.PWY A4.drew (fun g A5 => Step W.heap.size n₁ A4.drew A5 ∧ (match g with | true => J n₁ (k + 1) A5 | false => Jx n₁ A5)) (sn 7) (f 7) u ∧ Fi.NY (sn 7) (sn 8) (f 7) (f 8) ∧ Fi.NY (sn 7) (sn 9) (f 7) (f 9)) (by kernel_rfl) (by kernel_rfl) (by kernel_rfl) (fun f => ⟨fun j v _ h => (by cases h), rfl, Fi.NY.no rfl, Fi.NY.no rfl⟩) (fun f1 => ?obl) ?fin
      case fin =>
        intro g1 sn u hall hI
        simp only [puts, Act.put, List.setIfInBounds_toArray, List.set_cons_zero, List.set_cons_succ]
        have hp := hI.2.1
        rw [hall 7 (by show 7 < 10; decide)] at hp
        obtain ⟨g, e7, hst, hj⟩ := hp
        obtain ⟨_, y, e72, h9⟩ := hI.2.2.2 (hall 9 (by show 9 < 10; decide))
        have hyy : y = g := by rw [e7] at e72; injection e72 with e72; exact e72.symm
        rw [h9, hyy]
        have HST := Lib.hid hst
        have HJG := Lib.hid hj
        clear hI hall hst hj e7 e72 h9 hyy
        have hs24 : Step w1.heap.size n₁ A2 A4 := Step.of_chg (S := fun i => i = W.heap.size + 1) (HCH.out.trans (Chg.of_ext HX4.out)) HL2.out (fun i h1 _ h3 => by have := HZ1.out; omega)
        have hs45 : Step w1.heap.size n₁ A4 u := ⟨fun i h1 h2 => HST.out.stay i (by have := HZ1.out; omega) h2, HST.out.os, HST.out.tape, HST.out.output, HST.out.size⟩
        have HSS := Lib.hid (hs24.trans hs45)
        clear hs24 hs45
        cases g with
        | true =>
          gi_wp2_with fail
          have hn := HN.out
          have hz1 := HZ1.out
          refine ⟨HSS.out, HJG.out, HKL.out, (HST.out.stay W.heap.size (Nat.le_refl _) (by omega)).trans HBX4.out, ?_, (HST.out.stay (W.heap.size + 2) (by omega) (by omega)).trans HNX4.out, Nat.le_trans HLE4.out.1 HST.out.size, Nat.le_trans HLE4.out.2 HST.out.size⟩
          obtain ⟨r, hr, _, h2⟩ := HKR.out
          rw [lastAt_succ hr, h2]
          exact (HST.out.stay (W.heap.size + 1) (by omega) (by omega)).trans HLA4.out
        | false =>
          gi_wp2_with fail
          exact ⟨HSS.out, rfl, .inr HJG.out⟩
      case obl =>
        refine ⟨fun sn u hI hn hd hcl => ?_, ?_⟩
        · have hy7 : sn 7 = false := by
            cases h : sn 7 with
            | false => rfl
            | true => have := hcl 7 _ rfl h 0 (by kernel_rfl); rw [hn] at this; cases this
          have hu0 := hI.2.1
          rw [hy7] at hu0
          have HU0 : Hid (u = A4.drew) := hu0
          clear hu0 hy7
          have q0 : u.cell? ⟨W.heap.size, 0, none⟩ = some (.func (.yield l) #[] #[]) := by rw [HU0.out]; exact HBX4.out.cell
          have HI := Lib.hid hI
          clear hI hn hd hcl
          go_simp
          exact ⟨HI.out.1.put 0 _ (.inr rfl), HI.out.2.1, HI.out.2.2.1, HI.out.2.2.2⟩
        refine ⟨fun sn u hI hn hd hcl => ?_, ?_⟩
        · simp only [Act.put, List.setIfInBounds_toArray, List.set_cons_zero, List.set_cons_succ]
          have HI := Lib.hid hI
          clear hI hn hd hcl
          go_simp
          exact ⟨HI.out.1.put 1 _ (.inr rfl), HI.out.2.1, HI.out.2.2.1, HI.out.2.2.2⟩
        refine ⟨fun sn u hI hn hd hcl => ?_, ?_⟩
        · simp only [Act.put, List.setIfInBounds_toArray, List.set_cons_zero, List.set_cons_succ]
          have HI := Lib.hid hI
          clear hI hn hd hcl
          go_simp
          exact ⟨HI.out.1.put 2 _ (.inr rfl), HI.out.2.1, HI.out.2.2.1, HI.out.2.2.2⟩
        refine ⟨fun sn u hI hn hd hcl => ?_, ?_⟩
        · simp only [Act.put, List.setIfInBounds_toArray, List.set_cons_zero, List.set_cons_succ]
          have e2 : f1 2 = .slice A' p.length c' := hI.1 2 _ rfl (hd 2 (by kernel_rfl))
          have HI := Lib.hid hI
          clear hI hn hd hcl
          go_simp
          exact ⟨HI.out.1.put 3 _ (.inr rfl), HI.out.2.1, HI.out.2.2.1, HI.out.2.2.2⟩
        refine ⟨fun sn u hI hn hd hcl => ?_, ?_⟩
        · simp only [Act.put, List.setIfInBounds_toArray, List.set_cons_zero, List.set_cons_succ]
          have hy7 : sn 7 = false := by
            cases h : sn 7 with
            | false => rfl
            | true => have := hcl 7 _ rfl h 4 (by kernel_rfl); rw [hn] at this; cases this
          have hu0 := hI.2.1
          rw [hy7] at hu0
          have HU0 : Hid (u = A4.drew) := hu0
          clear hu0 hy7
          have e3 : f1 3 = .int .i64 (p.length : Int) := hI.1 3 _ rfl (hd 3 (by kernel_rfl))
          have HI := Lib.hid hI
          clear hI hn hd hcl
          go_simp
          dsimp only [Fi.GivesY]
          refine (HSZ.out u).mono ?_
          rintro x w9 ⟨rfl, rfl⟩
          exact ⟨_, rfl, HI.out.1.put 4 _ (.inr rfl), HI.out.2.1, HI.out.2.2.1, HI.out.2.2.2⟩
        refine ⟨fun sn u hI hn hd hcl => ?_, ?_⟩
        · simp only [Act.put, List.setIfInBounds_toArray, List.set_cons_zero, List.set_cons_succ]
          have e1 : f1 1 = .int .i64 (m' : Int) := hI.1 1 _ rfl (hd 1 (by kernel_rfl))
          have e4 : f1 4 = .int .i64 (sz : Int) := hI.1 4 _ rfl (hd 4 (by kernel_rfl))
          have HI := Lib.hid hI
          clear hI hn hd hcl
          go_simp
          exact ⟨HI.out.1.put 5 _ (.inr rfl), HI.out.2.1, HI.out.2.2.1, HI.out.2.2.2⟩
        refine ⟨fun sn u hI hn hd hcl => ?_, ?_⟩
        · simp only [Act.put, List.setIfInBounds_toArray, List.set_cons_zero, List.set_cons_succ]
          have hy7 : sn 7 = false := by
            cases h : sn 7 with
            | false => rfl
            | true => have := hcl 7 _ rfl h 6 (by kernel_rfl); rw [hn] at this; cases this
          have hu0 := hI.2.1
          rw [hy7] at hu0
          have HU0 : Hid (u = A4.drew) := hu0
          clear hu0 hy7
          have y0 : u.cell? ⟨A3.heap.size, 0, none⟩ = some (.int .i64 xi) := by rw [HU0.out]; exact cell_of HY4.out (k := 0) rfl
          have y1 : u.cell? ⟨A3.heap.size, 1, none⟩ = some (.slice eA lx.length ec) := by rw [HU0.out]; exact cell_of HY4.out (k := 1) rfl
          have HI := Lib.hid hI
          clear hI hn hd hcl
          go_simp
          exact ⟨HI.out.1.put 6 _ (.inr rfl), HI.out.2.1, HI.out.2.2.1, HI.out.2.2.2⟩
        refine ⟨fun sn u hI hn hd hcl => ?_, ?_⟩
        · simp only [Act.put, List.setIfInBounds_toArray, List.set_cons_zero, List.set_cons_succ]
          have e0 : f1 0 = .func (.yield l) #[] #[] := hI.1 0 _ rfl (hd 0 (by kernel_rfl))
          have e5 : f1 5 = .int .i64 (ee : Int) := hI.1 5 _ rfl (hd 5 (by kernel_rfl))
          have e6 : f1 6 = .agg #[.int .i64 xi, .slice eA lx.length ec] := hI.1 6 _ rfl (hd 6 (by kernel_rfl))
          have hu0 := hI.2.1
          rw [hn] at hu0
          have HU0 : Hid (u = A4.drew) := hu0
          clear hu0
          have h8 : sn 8 = false := by
            cases h : sn 8 with
            | false => rfl
            | true => have := hcl 8 _ rfl h 7 (by kernel_rfl); rw [hn] at this; cases this
          have h9 : sn 9 = false := by
            cases h : sn 9 with
            | false => rfl
            | true => have := hcl 9 _ rfl h 8 (by kernel_rfl); rw [h8] at this; cases this
          have H8 := Lib.hid h8
          have H9 := Lib.hid h9
          have hyu := hy
          rw [← HU0.out] at hyu
          have HI := Lib.hid hI
          clear hI hn hd hcl h8 h9
          go_simp
          dsimp only [Fi.GivesY]
          rw [HU0.out]
          refine RoundIn.mono (F := Fence.wide.inRound l2) (n := 3) HR.out ?_
          rintro e A5 ⟨hst, hh⟩
          obtain ⟨g, rfl, HP⟩ : ∃ g : Bool, e = .returned (.bool g) ∧ (Step W.heap.size n₁ A4.drew A5 ∧ (match g with | true => J n₁ (k + 1) A5 | false => Jx n₁ A5)) := by
            rcases hh with ⟨rfl, hj⟩ | ⟨rfl, hj⟩ <;> exact ⟨_, rfl, hst, hj⟩
          exact ⟨_, rfl, HI.out.1.put 7 _ (.inl rfl), ⟨g, rfl, HP⟩, Fi.NY.no H8.out, Fi.NY.no H9.out⟩
        refine ⟨fun sn u hI hn hd hcl => ?_, ?_⟩
        · simp only [Act.put, List.setIfInBounds_toArray, List.set_cons_zero, List.set_cons_succ]
          have h7 : sn 7 = true := hd 7 (by kernel_rfl)
          have hp := hI.2.1
          rw [h7] at hp
          obtain ⟨g, e7, _⟩ := hp
          have H7 := Lib.hid (And.intro h7 e7)
          have HI := Lib.hid hI
          clear hI hn hd hcl h7
          go_simp
          exact ⟨HI.out.1.put 8 _ (.inl rfl), HI.out.2.1, fun _ => ⟨H7.out.1, g, H7.out.2, rfl⟩, HI.out.2.2.2⟩
        refine ⟨fun sn u hI hn hd hcl => ?_, ?_⟩
        · simp only [Act.put, List.setIfInBounds_toArray, List.set_cons_zero, List.set_cons_succ]
          obtain ⟨h7, g, e7, e8⟩ := hI.2.2.1 (hd 8 (by kernel_rfl))
          have H7 := Lib.hid (And.intro h7 e7)
          have HI := Lib.hid hI
          clear hI hn hd hcl h7
          go_simp
          exact ⟨HI.out.1.put 9 _ (.inl rfl), HI.out.2.1, HI.out.2.2.1, fun _ => ⟨H7.out.1, g, H7.out.2, rfl⟩⟩
        trivial
    · have hkR : k = R.length := by
        rcases Nat.lt_or_ge k R.length with h | h
        · obtain ⟨r, hr⟩ : ∃ r, R[k]? = some r := ⟨_, List.getElem?_eq_getElem h⟩
          obtain ⟨_, h2, h3⟩ := HRR.out.at_ hr HOK.out
          exact absurd h3 (hno _ h2)
        · exact Nat.le_antisymm HI2.out.kr h
      have HKR := Lib.hid hkR
      have HCH := Lib.hid hch
      clear hno hbx hkR hch HNX
      dsimp only [noB] at *
      gi_wp2_with fail
      have hc : Chg (Btw W.heap.size n₁) A2 A3 := HCH.out.mono (S' := Btw W.heap.size n₁) fun i _ e => ⟨by omega, by have := HN.out; have := HZ1.out; omega⟩
      refine ⟨Step.of_chg (S := fun i => i = W.heap.size + 1) (HCH.out.trans (Chg.alloc _ _)) HL2.out (fun i h1 _ h3 => by have := HZ1.out; omega), rfl, .inl ?_⟩
      rw [← HKR.out]
      exact HJ.out _ _ _ _ (by have := HN.out; have := HZ1.out; omega) HI2.out.j (hc.trans (Chg.alloc _ _))
  case done =>
    rintro D' n₁ W' hDl hDn hn hi hD
    have HDL := Lib.hid (And.intro hDl hDn)
    have HI := Lib.hid hi
    have HN := Lib.hid hn
    have HDD := Lib.hid hD
    clear hDl hDn hn hi hD
    gi_wp2
    refine ⟨by simp, .inl ⟨_, _, rfl, run_takeDeferred HDD.out, ?_⟩⟩
    refine ⟨_, results_none rfl _ _ _, ⟨⟨_, rfl⟩, .inl ⟨n₁, by have := HN.out; have := HZ1.out; omega, ?_⟩⟩⟩
    have hk : (Fm.frs b 0).length = R.length := Nat.le_antisymm HI.out.kr HRR.out.le
    rw [← hk]
    exact HJ.out n₁ _ _ _ (by have := HN.out; have := HZ1.out; omega) HI.out.j ((putObj_chg W' D' _).mono fun i _ e => ⟨by have := HDL.out.1; have := HZ1.out; omega, by have := HDL.out.2; omega⟩)
  case stop =>
    rintro D' n₁ c W' hDl hDn hn ⟨rfl, hjx⟩ hD
    have HDL := Lib.hid hDl
    have HN := Lib.hid (And.intro hDn hn)
    have HJX2 := Lib.hid hjx
    have HDD := Lib.hid hD
    clear hDl hjx hD hDn hn
    gi_wp2
    refine ⟨by simp, .inl ⟨_, _, rfl, run_takeDeferred HDD.out, ?_⟩⟩
    have hw : W.heap.size ≤ n₁ := by have := HN.out.2; have := HZ1.out; omega
    refine ⟨_, results_none rfl _ _ _, ⟨⟨_, rfl⟩, ?_⟩⟩
    rcases HJX2.out with h | h
    · exact .inl ⟨n₁, hw, HJ.out _ _ _ _ hw h ((putObj_chg W' D' _).mono fun i _ e => ⟨by have := HDL.out; have := HZ1.out; omega, by have := HN.out.1; omega⟩)⟩
    · exact .inr ⟨n₁, hw, HJX.out _ _ _ hw h ((putObj_chg W' D' _).mono fun i _ e => ⟨by have := HDL.out; have := HZ1.out; omega, by have := HN.out.1; omega⟩)⟩
end Go.Proofs.Ytgflhbpmkcggnaa

/- wal's After: going over the batches behind a place. -/
namespace Go.Proofs.Ytgflhbpmkcggnaa
open Go.ChangeShapes Go.WideShapes Go.ChangeAt Go.RowKit Go.Shelf
attribute [local go_sem] Oper.semAt_some

/-- Those behind a place. -/
def behindP (i : Int) (r : Nat × Bat) : Bool := decide (i < r.2.idx)
def behindR (i : Int) (R : List (Nat × Bat)) : List (Nat × Bat) := R.filter (behindP i)
def cntP (i : Int) (R : List (Nat × Bat)) (k : Nat) : Nat := (behindR i (R.take k)).length
theorem cntP_no {i : Int} {R : List (Nat × Bat)} {k : Nat} {r : Nat × Bat} (hr : R[k]? = some r) (h : ¬ i < r.2.idx) : cntP i R (k + 1) = cntP i R k := by
  unfold cntP behindR
  rw [List.take_add_one, hr, List.filter_append]
  simp [behindP, h]
theorem cntP_yes {i : Int} {R : List (Nat × Bat)} {k : Nat} {r : Nat × Bat} (hr : R[k]? = some r) (h : i < r.2.idx) : cntP i R (k + 1) = cntP i R k + 1 ∧ (behindR i R)[cntP i R k]? = some r := by
  constructor
  · unfold cntP behindR
    rw [List.take_add_one, hr, List.filter_append]
    simp [behindP, h]
  · obtain ⟨hk, rfl⟩ := List.getElem?_eq_some_iff.1 hr
    have hl : R = R.take k ++ (R[k] :: R.drop (k + 1)) := by rw [← List.drop_eq_getElem_cons hk, List.take_append_drop]
    have h2 : behindR i R = behindR i (R.take k) ++ (R[k] :: behindR i (R.drop (k + 1))) := by
      conv => lhs; rw [hl]
      unfold behindR
      rw [List.filter_append, List.filter_cons_of_pos (by simp [behindP, h])]
    rw [h2]
    unfold cntP
    rw [List.getElem?_append_right (Nat.le_refl _)]
    simp
theorem cntP_all (i : Int) (R : List (Nat × Bat)) : cntP i R R.length = (behindR i R).length := by unfold cntP; rw [List.take_of_length_le (Nat.le_refl _)]

/-- What After's function looks at: the log's bytes, the frames, the place. -/
structure AftS (w : World) (lo hi bd fb ib : Nat) (Ab : Option Addr) (n c : Nat) (b : List Nat) (i : Int) : Prop where
  bs : Bs w lo hi (.slice Ab n c) b
  top : hi ≤ w.heap.size
  cbd : w.cell? ⟨bd, 0, none⟩ = some (.slice Ab n c)
  cfb : w.cell? ⟨fb, 0, none⟩ = some (.func (.func 62) #[] #[.pointer (some ⟨bd, 0, none⟩)])
  cib : w.cell? ⟨ib, 0, none⟩ = some (.int .i64 i)
theorem AftS.ext {w w' : World} {lo hi bd fb ib : Nat} {Ab : Option Addr} {n c : Nat} {b : List Nat} {i : Int} (h : AftS w lo hi bd fb ib Ab n c b i) (hx : Ext w w') : AftS w' lo hi bd fb ib Ab n c b i :=
  ⟨h.bs.below hx h.top, Nat.le_trans h.top hx.size, ext_cell hx h.cbd, ext_cell hx h.cfb, ext_cell hx h.cib⟩
/-- What is to stay. -/
def KeptA (lo hi bd fb ib : Nat) (w A : World) : Prop := ∀ k, (lo ≤ k ∧ k < hi ∨ k = bd ∨ k = fb ∨ k = ib) → k < w.heap.size → A.heap[k]? = w.heap[k]?

/-- What After answers. -/
def AfterAns (w : World) (b : List Nat) (i : Int) (e : Ending) (w' : World) : Prop :=
  ∃ (lo hi bd fb ib : Nat) (Ab : Option Addr) (n c : Nat), e = .returned (.func (.func 71) #[] #[.pointer (some ⟨fb, 0, none⟩), .pointer (some ⟨ib, 0, none⟩)]) ∧ AftS w' lo hi bd fb ib Ab n c b i ∧ Ext w w' ∧
    w.heap.size ≤ lo ∧ w.heap.size ≤ bd ∧ w.heap.size ≤ fb ∧ w.heap.size ≤ ib
set_option maxRecDepth 100000 in
set_option maxHeartbeats 4000000 in
theorem after_any {w : World} {lo hi : Nat} {v : Value} {b : List Nat} (hv : Bs w lo hi v b) (hhi : hi ≤ w.heap.size) (hlen : b.length ≤ 1000000000000) (i : Int) :
    Calls Try.prog 44 #[v, .int .i64 i] w (AfterAns w b i) := by
  obtain ⟨w1, hw1⟩ : ∃ w1, w1 = w.alloc (.cells #[.int .i64 i] 2) := ⟨_, rfl⟩
  have HX1 : Hid (Ext w w1) := by rw [hw1]; exact ext_alloc _ _
  have HB1 : Hid (w1.cell? ⟨w.heap.size, 0, none⟩ = some (.int .i64 i)) := by rw [hw1]; exact cell_of (heap_at _ _ rfl) rfl
  have HALL := Lib.hid (Fm.all_any (hv.below HX1.out hhi) (Nat.le_trans hhi HX1.out.size) (by omega))
  obtain ⟨A, c, rfl, _, _, _, _⟩ := hv
  clear hhi hlen
  go_enter Try.func44, Try.ntmps44
  go_wp2_with fail
  rw [← hw1]
  clear hw1
  refine HALL.out.mono ?_
  rintro e w3 ⟨A3, c3, rfl, hc3, hown3, hx3⟩
  have HC3 := Lib.hid hc3
  have HO3 := Lib.hid hown3
  have HX3 : Hid (Ext w1 w3) := hx3
  clear hc3 hown3 hx3 HALL
  go_wp2_with fail
  obtain ⟨w4, hw4⟩ : ∃ w4, w4 = w3.alloc (.cells #[.func (.func 62) #[] #[.pointer (some ⟨w1.heap.size, 0, none⟩)]] 65) := ⟨_, rfl⟩
  rw [← hw4]
  have HX4 : Hid (Ext w3 w4) := by rw [hw4]; exact ext_alloc _ _
  have HFB : Hid (w4.cell? ⟨w3.heap.size, 0, none⟩ = some (.func (.func 62) #[] #[.pointer (some ⟨w1.heap.size, 0, none⟩)])) := by rw [hw4]; exact cell_of (heap_at _ _ rfl) rfl
  clear hw4
  go_ret
  have h1 := HX1.out.size
  have h3 := HX3.out.size
  exact ⟨w1.heap.size + 1, w3.heap.size, w1.heap.size, w3.heap.size, w.heap.size, A3, b.length, c3, rfl, ⟨(Bs.of_own HO3.out).below HX4.out (Nat.le_refl _), HX4.out.size, ext_cell HX4.out HC3.out, HFB.out, ext_cell HX4.out (ext_cell HX3.out HB1.out)⟩,
    Ext.trans HX1.out (Ext.trans HX3.out HX4.out), by omega, h1, by omega, Nat.le_refl _⟩
theorem enters_after : ∀ args w, (callFunc 71 args).run Try.prog w = .ok (.enter 71 args) w := enters_of Try.func71 (by kernel_rfl) rfl

def oneV (x : Bx) : Array Value := #[x.val]
def AfterOk (i : Int) (R : List (Nat × Bat)) (n₁ k : Nat) (x : Bx) (A : World) : Prop := ∃ r, (behindR i R)[k]? = some r ∧ r.2 = x.bat ∧ Gb n₁ x A
/-- Between two rounds. -/
structure AftI (J : Nat → Nat → World → Prop) (W w1 : World) (i : Int) (R : List (Nat × Bat)) (l bd : Nat) (n₁ k : Nat) (A : World) : Prop where
  j : J n₁ (cntP i R k) A
  box : Boxed A W.heap.size 33 (.func (.yield l) #[] #[])
  fr : Boxed A (W.heap.size + 1) 65 (.func (.func 62) #[] #[.pointer (some ⟨bd, 0, none⟩)])
  le : n₁ ≤ A.heap.size
  size : w1.heap.size ≤ A.heap.size

set_option maxRecDepth 100000 in
set_option maxHeartbeats 16000000 in
theorem after_iter {w : World} {lo hi bd fb ib n c : Nat} {Ab : Option Addr} {b : List Nat} {i : Int} {R : List (Nat × Bat)} (hs : AftS w lo hi bd fb ib Ab n c b i) (hb : ∀ x ∈ b, x < 256) (hlen : b.length ≤ 1000000000000) (hR : Batl (Fm.frs b 0) 0 R) :
    IterB Try.prog 71 #[.pointer (some ⟨fb, 0, none⟩), .pointer (some ⟨ib, 0, none⟩)] (behindR i R).length oneV (AfterOk i R) (KeptA lo hi bd fb ib w) w := by
  intro mm l J Jx W hx hC hJ hJx h0 hY
  have HS := Lib.hid hs
  have HSW := Lib.hid (hs.ext hx)
  have HBB := Lib.hid hb
  have HBL := Lib.hid hlen
  have HRR := Lib.hid hR
  have HC := Lib.hid hC
  have HJ := Lib.hid hJ
  have HJX := Lib.hid hJx
  have H0 := Lib.hid h0
  have HY := Lib.hid hY
  have HXW := Lib.hid hx
  obtain ⟨w1, hw1⟩ : ∃ w1, w1 = (W.alloc (.cells #[.func (.yield l) #[] #[]] 33)).alloc (.cells #[.func (.func 62) #[] #[.pointer (some ⟨bd, 0, none⟩)]] 65) := ⟨_, rfl⟩
  have HX1 : Hid (Ext W w1) := by rw [hw1]; exact Ext.trans (ext_alloc _ _) (ext_alloc _ _)
  have HZ1 : Hid (w1.heap.size = W.heap.size + 2) := by rw [hw1]; simp [Hid]
  have HB0 : Hid (Boxed w1 W.heap.size 33 (.func (.yield l) #[] #[])) := by rw [hw1]; exact ext_heap (ext_alloc _ _) (heap_at _ _ rfl)
  have HB1 : Hid (Boxed w1 (W.heap.size + 1) 65 (.func (.func 62) #[] #[.pointer (some ⟨bd, 0, none⟩)])) := by rw [hw1]; exact heap_at _ _ (by simp)
  have c1 := cell_new HSW.out.cfb (.cells #[.func (.yield l) #[] #[]] 33)
  clear hs hb hlen hR hC hJ hJx h0 hY hx
  have hf1 : Fence.wide.fn 37 := trivial
  refine (callsIn_wide (n := 6)).1 ?_
  refine callsIn_of_wp_marks Try.func71 rfl trivial ?_
  simp only [Try.ntmps71, List.size_toArray, List.length_cons, List.length_nil, Nat.reduceAdd, Nat.reduceSub, Array.replicate_succ, Array.replicate_zero, List.push_toArray, List.append_toArray, List.nil_append, List.cons_append]
  gi_wp2_with (gi_at_call 37; refine (callsIn_wide.2 (each_new _ _ _)).mono ?_; rintro e w' ⟨rfl, rfl⟩)
  rw [← hw1]
  clear hw1 c1
  have hlow : ∀ n₁ k A, J n₁ k A → ∀ j, (lo ≤ j ∧ j < hi ∨ j = bd ∨ j = fb ∨ j = ib) → j < w.heap.size → A.heap[j]? = w.heap[j]? := fun n₁ k A hj => HC.out n₁ k A hj
  have HLOW := Lib.hid hlow
  have HTOP : Hid (hi ≤ w.heap.size ∧ bd < w.heap.size ∧ fb < w.heap.size ∧ ib < w.heap.size) := ⟨HS.out.top, World.block_lt_of_cell? w _ HS.out.cbd, World.block_lt_of_cell? w _ HS.out.cfb, World.block_lt_of_cell? w _ HS.out.cib⟩
  have HKP : Hid (∀ n₁ k A, AftI J W w1 i R l bd n₁ k A → Fm.Kept lo hi bd (W.heap.size + 1) w1 A) := fun n₁ k A ha j hm hlt => by
    have ht := HTOP.out
    have key : ∀ j, (lo ≤ j ∧ j < hi ∨ j = bd) → A.heap[j]? = w1.heap[j]? := fun j hj => by
      have hj2 : j < w.heap.size := by rcases hj with ⟨_, h⟩ | h <;> omega
      rw [HLOW.out _ _ _ ha.j j (hj.imp id .inl) hj2, HX1.out.block j (by have := HXW.out.size; omega), HXW.out.block j hj2]
    rcases hm with h | h | h
    · exact key j (.inl h)
    · exact key j (.inr h)
    · rw [h]; exact (show A.heap[W.heap.size + 1]? = _ from ha.fr).trans (show w1.heap[W.heap.size + 1]? = _ from HB1.out).symm
  have hchg : ∀ n₁ k A A', w1.heap.size ≤ n₁ → AftI J W w1 i R l bd n₁ k A → Chg (Btw w1.heap.size n₁) A A' → AftI J W w1 i R l bd n₁ k A' := fun n₁ k A A' hn hi hc =>
    have hz := HZ1.out
    ⟨HJ.out n₁ _ A A' (Nat.le_trans HX1.out.size hn) hi.j (hc.mono fun i _ hb => ⟨Nat.le_trans HX1.out.size hb.1, hb.2⟩), boxed_chg hi.box hc (fun hb => by have := hb.1; omega), boxed_chg hi.fr hc (fun hb => by have := hb.1; omega),
      Nat.le_trans hi.le hc.size, Nat.le_trans hi.size hc.size⟩
  have HCHG := Lib.hid hchg
  have HIT := Lib.hid (weach_iter (fb := W.heap.size + 1) (HSW.out.bs.below HX1.out HSW.out.top) (Nat.le_trans HSW.out.top HX1.out.size) HBB.out HBL.out (ext_cell HX1.out HSW.out.cbd) HB1.out.cell HRR.out)
  clear hchg hlow
  refine wpIn_overB rfl enters_weach HIT.out (fun _ => rfl) (AftI J W w1 i R l bd) (fun n₁ c A => c = .ret ∧ Jx n₁ A) (fun n₁ k A h => HKP.out n₁ k A h) ?hI ?hIx ?h0 ?round ?done ?stop
  case hI => intro n₁ k A A' hn hi hc; exact HCHG.out _ _ _ _ (by omega) hi hc
  case hIx =>
    rintro n₁ c A A' hn ⟨rfl, hj⟩ hc
    exact ⟨rfl, HJX.out _ _ _ (by have := HX1.out.size; omega) hj (hc.mono fun i _ hb => ⟨Nat.le_trans HX1.out.size hb.1, hb.2⟩)⟩
  case h0 => intro A hxA; exact ⟨by rw [show cntP i R 0 = 0 by simp [cntP, behindR]]; exact H0.out A (Ext.trans HX1.out hxA), ext_heap hxA HB0.out, ext_heap hxA HB1.out, Nat.le_refl _, hxA.size⟩
  case round =>
    rintro l2 n₁ k ⟨ee, ⟨xi, eA, ec, lx⟩⟩ A hl1 hl2 hn hnA hi hk ⟨r, hr, hr1, hr2, hg⟩
    have HI := Lib.hid hi
    have HRK := Lib.hid (And.intro hr hr2)
    have HG := Lib.hid hg
    have HN := Lib.hid hn
    have HL := Lib.hid (And.intro hl1 hl2)
    have HNA := Lib.hid hnA
    clear hi hr hr1 hr2 hg hn hl1 hl2 hk hnA
    dsimp only [batchV, Bx.val]
    gi_wp2
    obtain ⟨A1, hA1⟩ : ∃ A1, A1 = A.alloc (.cells #[.int .i64 xi, .slice eA lx.length ec] 24) := ⟨_, rfl⟩
    rw [← hA1]
    have HXA : Hid (Ext A A1) := by rw [hA1]; exact ext_alloc _ _
    have HY1 : Hid (A1.heap[A.heap.size]? = some (.cells #[.int .i64 xi, .slice eA lx.length ec] 24 (0, 0))) := by rw [hA1]; exact heap_at _ _ rfl
    clear hA1
    refine ⟨Step.of_chg (S := fun _ => False) (Chg.of_ext HXA.out) HNA.out (fun _ _ _ h => h), fun A2 hc => ?_⟩
    have hc2 : Chg (Btw w1.heap.size n₁) A A2 := (Chg.of_ext HXA.out).trans (hc.mono fun i _ e => ⟨by have := HL.out.1; omega, by have := HL.out.2; omega⟩)
    have HI2 := Lib.hid (HCHG.out _ _ _ _ (by have := HN.out; omega) HI.out hc2)
    have HG2 : Hid (Gb n₁ ⟨xi, eA, ec, lx⟩ A2) := (HG.out.ext HXA.out).chg hc fun g hg => .inl (by have := HL.out.2; omega)
    have HY2 : Hid (A2.heap[A.heap.size]? = some (.cells #[.int .i64 xi, .slice eA lx.length ec] 24 (0, 0))) := (hc.block _ (Array.getElem?_eq_some_iff.1 HY1.out).1 (fun e => by have := HL.out.2; have := HNA.out; omega)).trans HY1.out
    have HL2 : Hid (n₁ ≤ A2.heap.size) := HI2.out.le
    clear hc hc2
    have y0 := cell_of HY2.out (k := 0) rfl
    have y1 := cell_of HY2.out (k := 1) rfl
    have q0 := HI2.out.box.cell
    have q1 : A2.cell? ⟨ib, 0, none⟩ = some (.int .i64 i) := by
      rw [World.cell?_of_block (HLOW.out _ _ _ HI2.out.j ib (.inr (.inr (.inr rfl))) HTOP.out.2.2.2)]
      exact HS.out.cib
    by_cases hlt : i < xi
    · have d1 : decide (i < xi) = true := decide_eq_true hlt
      have hyes := cntP_yes (i := i) HRK.out.1 (by rw [HRK.out.2]; exact hlt)
      have HYES := Lib.hid hyes
      have HRD := HY.out n₁ (cntP i R k) ⟨xi, eA, ec, lx⟩ A2 (by have := HN.out; have := HZ1.out; omega) HL2.out HI2.out.j (List.getElem?_eq_some_iff.1 hyes.2).1 ⟨r, hyes.2, HRK.out.2, HG2.out⟩
      obtain ⟨fn, tmps, assign, body, hy, hR⟩ := HRD
      dsimp only [oneV, Bx.val] at hy
      have HR := Lib.hid (roundIn_any (m' := 3) hR)
      clear hR hyes hlt
      gi_wp2_with fail
      refine RoundIn.mono (F := Fence.wide.inRound l2) (n := 3) HR.out ?_
      rintro e A5 ⟨hst, hh⟩
      obtain ⟨g, rfl, hj⟩ : ∃ g : Bool, e = .returned (.bool g) ∧ Hid (match g with | true => J n₁ (cntP i R k + 1) A5 | false => Jx n₁ A5) := by rcases hh with ⟨rfl, hj⟩ | ⟨rfl, hj⟩ <;> exact ⟨_, rfl, hj⟩
      have HST := Lib.hid hst
      clear hst hh y0 y1 q0 q1 hy
      have HSS : Hid (Step w1.heap.size n₁ A2 A5) := ⟨fun j h1 h2 => HST.out.stay j (by have := HX1.out.size; omega) h2, HST.out.os, HST.out.tape, HST.out.output, HST.out.size⟩
      cases g with
      | true =>
        gi_wp2_with fail
        have hn := HN.out
        have hz1 := HZ1.out
        exact ⟨HSS.out, by rw [HYES.out.1]; exact hj.out, (HST.out.stay W.heap.size (Nat.le_refl _) (by omega)).trans HI2.out.box, (HST.out.stay (W.heap.size + 1) (by omega) (by omega)).trans HI2.out.fr, Nat.le_trans HL2.out HST.out.size, Nat.le_trans HI2.out.size HST.out.size⟩
      | false =>
        gi_wp2_with fail
        exact ⟨HSS.out, rfl, hj.out⟩
    · have d1 : decide (i < xi) = false := decide_eq_false hlt
      have HNO := Lib.hid (cntP_no (i := i) HRK.out.1 (by rw [HRK.out.2]; exact hlt))
      clear hlt
      gi_wp2_with fail
      refine ⟨fun f h => (by cases h), ?_⟩
      gi_wp2_with fail
      exact ⟨Step.refl _ _ _, by rw [HNO.out]; exact HI2.out.j, HI2.out.box, HI2.out.fr, HI2.out.le, HI2.out.size⟩
  case done =>
    rintro D' n₁ W' hDl hDn hn hi hD
    have HDL := Lib.hid (And.intro hDl hDn)
    have HI := Lib.hid hi
    have HN := Lib.hid hn
    have HDD := Lib.hid hD
    clear hDl hDn hn hi hD
    gi_wp2
    refine ⟨by simp, .inl ⟨_, _, rfl, run_takeDeferred HDD.out, ?_⟩⟩
    refine ⟨_, results_none rfl _ _ _, ⟨⟨_, rfl⟩, .inl ⟨n₁, by have := HN.out; have := HZ1.out; omega, ?_⟩⟩⟩
    rw [← cntP_all]
    exact HJ.out n₁ _ _ _ (by have := HN.out; have := HZ1.out; omega) HI.out.j ((putObj_chg W' D' _).mono fun i _ e => ⟨by have := HDL.out.1; have := HZ1.out; omega, by have := HDL.out.2; omega⟩)
  case stop =>
    rintro D' n₁ c W' hDl hDn hn ⟨rfl, hjx⟩ hD
    have HDL := Lib.hid hDl
    have HN := Lib.hid (And.intro hDn hn)
    have HJX2 := Lib.hid hjx
    have HDD := Lib.hid hD
    clear hDl hjx hD hDn hn
    gi_wp2
    refine ⟨by simp, .inl ⟨_, _, rfl, run_takeDeferred HDD.out, ?_⟩⟩
    refine ⟨_, results_none rfl _ _ _, ⟨⟨_, rfl⟩, .inr ⟨n₁, by have := HN.out.2; have := HZ1.out; omega, ?_⟩⟩⟩
    exact HJX.out n₁ _ _ (by have := HN.out.2; have := HZ1.out; omega) HJX2.out ((putObj_chg W' D' _).mono fun i _ e => ⟨by have := HDL.out; have := HZ1.out; omega, by have := HN.out.1; omega⟩)
end Go.Proofs.Ytgflhbpmkcggnaa

/- wal's Same, and the reference's. -/
namespace Go.Proofs.Ytgflhbpmkcggnaa
open Go.ChangeShapes Go.WideShapes Go.ChangeAt Go.RowKit
attribute [local go_sem] Oper.semAt_some

theorem take_next {α : Type} {L M : List α} {i : Nat} {p q : α} (h : L.take i = M.take i) (hp : L[i]? = some p) (hq : M[i]? = some q) (e : p = q) : L.take (i + 1) = M.take (i + 1) := by
  rw [List.take_add_one, List.take_add_one, h, hp, hq, e]

set_option maxRecDepth 100000 in
set_option maxHeartbeats 8000000 in
theorem eqfunc_any {w : World} {lo hi lo2 hi2 : Nat} {A B : Option Addr} {c c2 : Nat} {L M : List (Ent × Hd)} (h : Es w lo hi A L) (k : Es w lo2 hi2 B M) (hhi : hi ≤ w.heap.size) (hhi2 : hi2 ≤ w.heap.size) (hlen : L.length ≤ 1000000000000) (hlen2 : M.length ≤ 1000000000000) :
    Calls Try.prog 45 #[.slice A L.length c, .slice B M.length c2, .func (.func 46) #[] #[]] w fun x w' => ∃ z : Bool, (z = true ↔ L.map Prod.fst = M.map Prod.fst) ∧ x = .returned (.bool z) ∧ Ext w w' := by
  have HE := Lib.hid h
  have HF := Lib.hid k
  have HHI := Lib.hid (And.intro hhi hhi2)
  have HL := Lib.hid (And.intro hlen hlen2)
  clear h k hhi hhi2 hlen hlen2
  by_cases hne : L.length = M.length
  · have e1 : ((L.length : Int) != (M.length : Int)) = false := by rw [hne]; simp
    have e1n : (L.length != M.length) = false := by rw [hne]; simp
    have HN := Lib.hid hne
    clear hne
    go_enter Try.func45, Try.ntmps45
    go_wp2_with fail
    go_loopw [17] (fun a wr => ∃ i : Nat, a = .int .i64 (i : Int) ∧ i ≤ L.length ∧ Hid ((L.map Prod.fst).take i = (M.map Prod.fst).take i) ∧ Hid (Ext w wr)) (fun a _ => L.length - (intOf a).toNat)
    case atStart => exact ⟨0, rfl, by omega, by simp [Hid], Lib.hid (Ext.refl _)⟩
    case round =>
      obtain ⟨i, rfl, hm, HR, HX⟩ := hrel
      by_cases hlt : i < L.length
      · have d : decide ((i : Int) < (L.length : Int)) = true := decide_eq_true (by omega)
        have dn : decide (i < L.length) = true := decide_eq_true hlt
        have hlt2 : i < M.length := by have := HN.out; omega
        obtain ⟨b, o, hA⟩ := HE.out.base (by omega)
        subst hA
        obtain ⟨b2, o2, hB⟩ := HF.out.base (by omega)
        subst hB
        obtain ⟨p, hp⟩ : ∃ p, L[i]? = some p := ⟨_, List.getElem?_eq_getElem hlt⟩
        obtain ⟨q, hq⟩ : ∃ q, M[i]? = some q := ⟨_, List.getElem?_eq_getElem hlt2⟩
        obtain ⟨c0, c1, c2', c3⟩ := (HE.out.below HX.out HHI.out.1).get hp
        have HP := Lib.hid (And.intro hp hq)
        have n1 : (0 : Int) ≤ (i : Int) := by omega
        have n2 : (i : Int) < (L.length : Int) := by omega
        have n3 : (i : Int) < (M.length : Int) := by omega
        have hw2 : wrap64 ((i : Int) + 1) = ((i + 1 : Nat) : Int) := by have := HL.out.1; unfold wrap64; omega
        clear hp hq
        go_upto_region 6 with (fail)
        obtain ⟨w4, hw4⟩ : ∃ w4, w4 = wr.alloc (.cells #[.slice p.2.kA p.1.key.length p.2.kc, .int .i64 p.1.seq, .int .i64 p.1.kind, .slice p.2.vA p.1.val.length p.2.vc] 48) := ⟨_, rfl⟩
        rw [← hw4]
        have HX4 : Hid (Ext w w4) := by rw [hw4]; exact Ext.trans HX.out (ext_alloc _ _)
        have HB4 : Hid (w4.heap[wr.heap.size]? = some (.cells #[.slice p.2.kA p.1.key.length p.2.kc, .int .i64 p.1.seq, .int .i64 p.1.kind, .slice p.2.vA p.1.val.length p.2.vc] 48 (0, 0))) := by rw [hw4]; exact heap_at _ _ rfl
        clear hw4 c0 c1 c2' c3
        obtain ⟨d0, d1, d2, d3⟩ := (HF.out.below HX4.out HHI.out.2).get HP.out.2
        go_upto_region 7 with (fail)
        obtain ⟨w5, hw5⟩ : ∃ w5, w5 = w4.alloc (.cells #[.slice q.2.kA q.1.key.length q.2.kc, .int .i64 q.1.seq, .int .i64 q.1.kind, .slice q.2.vA q.1.val.length q.2.vc] 48) := ⟨_, rfl⟩
        rw [← hw5]
        have HX45 : Hid (Ext w4 w5) := by rw [hw5]; exact ext_alloc _ _
        have HB5 : Hid (w5.heap[w4.heap.size]? = some (.cells #[.slice q.2.kA q.1.key.length q.2.kc, .int .i64 q.1.seq, .int .i64 q.1.kind, .slice q.2.vA q.1.val.length q.2.vc] 48 (0, 0))) := by rw [hw5]; exact heap_at _ _ rfl
        have HB45 := Lib.hid (ext_heap HX45.out HB4.out)
        have HX5 : Hid (Ext w w5) := Ext.trans HX4.out HX45.out
        clear hw5 d0 d1 d2 d3
        have c0 := cell_of HB45.out (k := 0) rfl
        have c1 := cell_of HB45.out (k := 1) rfl
        have c2' := cell_of HB45.out (k := 2) rfl
        have c3 := cell_of HB45.out (k := 3) rfl
        have d0 := cell_of HB5.out (k := 0) rfl
        have d1 := cell_of HB5.out (k := 1) rfl
        have d2 := cell_of HB5.out (k := 2) rfl
        have d3 := cell_of HB5.out (k := 3) rfl
        have HSM := Lib.hid (same_any ((HE.out.below HX5.out HHI.out.1).each p (List.mem_of_getElem? HP.out.1)) ((HF.out.below HX5.out HHI.out.2).each q (List.mem_of_getElem? HP.out.2)) (Nat.le_trans HHI.out.1 HX5.out.size) (Nat.le_trans HHI.out.2 HX5.out.size))
        unfold Ent.at_ at HSM
        go_wp2_with fail
        refine HSM.out.mono ?_
        rintro x w6 ⟨z, hz, rfl, hx6⟩
        have HZ := Lib.hid hz
        have HX6 : Hid (Ext w w6) := Ext.trans HX5.out hx6
        clear hz hx6 c0 c1 c2' c3 d0 d1 d2 d3 HSM
        cases z with
        | false =>
          go_wp2_with fail
          go_ret
          refine ⟨false, ⟨fun h => (by cases h), fun h => ?_⟩, rfl, HX6.out⟩
          have h1 := congrArg (fun l => l[i]?) h
          simp only [List.getElem?_map, HP.out.1, HP.out.2, Option.map_some, Option.some.injEq] at h1
          exact (HZ.out.2 h1)
        | true =>
          go_wp2_with fail
          go_roundw
          case rel => exact ⟨i + 1, by rw [hw2], by omega, Lib.hid (take_next HR.out (by rw [List.getElem?_map, HP.out.1]; rfl) (by rw [List.getElem?_map, HP.out.2]; rfl) (HZ.out.1 (by trivial))), HX6⟩
          case measure => rw [hw2]; simp [intOf]; omega
      · have d : decide ((i : Int) < (L.length : Int)) = false := decide_eq_false (by omega)
        have dn : decide (i < L.length) = false := decide_eq_false hlt
        have HEQ : Hid (L.map Prod.fst = M.map Prod.fst) := by
          have h1 := HR.out
          have h2 := HN.out
          rwa [List.take_of_length_le (by rw [List.length_map]; omega), List.take_of_length_le (by rw [List.length_map]; omega)] at h1
        clear hlt hm
        go_wp2_with fail
        go_ret
        exact ⟨true, ⟨fun _ => HEQ.out, fun _ => rfl⟩, rfl, HX.out⟩
  · have e1 : ((L.length : Int) != (M.length : Int)) = true := by simp; omega
    have e1n : (L.length != M.length) = true := by simp; exact hne
    have HN := Lib.hid hne
    clear hne
    go_enter Try.func45, Try.ntmps45
    go_wp2_with fail
    go_ret
    exact ⟨false, ⟨fun h => (by cases h), fun h => absurd (by have := congrArg List.length h; rwa [List.length_map, List.length_map] at this) HN.out⟩, rfl, Ext.refl _⟩

set_option maxRecDepth 100000 in
set_option maxHeartbeats 4000000 in
theorem wsame_any {w : World} {lo hi lo2 hi2 : Nat} {x y : Bx} (h : Bm w lo hi x) (k : Bm w lo2 hi2 y) (hhi : hi ≤ w.heap.size) (hhi2 : hi2 ≤ w.heap.size) :
    Calls Try.prog 22 #[x.val, y.val] w fun e w' => ∃ z : Bool, (z = true ↔ x.bat = y.bat) ∧ e = .returned (.bool z) ∧ Ext w w' := by
  obtain ⟨w0, hw0⟩ : ∃ w0, w0 = (w.alloc (.cells #[.int .i64 x.idx, .slice x.A x.L.length x.c] 24)).alloc (.cells #[.int .i64 y.idx, .slice y.A y.L.length y.c] 24) := ⟨_, rfl⟩
  have HX0 : Hid (Ext w w0) := by rw [hw0]; exact Ext.trans (ext_alloc _ _) (ext_alloc _ _)
  have HB0 : Hid (w0.heap[w.heap.size]? = some (.cells #[.int .i64 x.idx, .slice x.A x.L.length x.c] 24 (0, 0))) := by rw [hw0]; exact ext_heap (ext_alloc _ _) (heap_at _ _ rfl)
  have HB1 : Hid (w0.heap[w.heap.size + 1]? = some (.cells #[.int .i64 y.idx, .slice y.A y.L.length y.c] 24 (0, 0))) := by rw [hw0]; exact heap_at _ _ (by simp)
  have HEQ := Lib.hid (eqfunc_any (c := x.c) (c2 := y.c) (h.ext HX0.out hhi).es (k.ext HX0.out hhi2).es (Nat.le_trans hhi HX0.out.size) (Nat.le_trans hhi2 HX0.out.size) h.ln k.ln)
  clear h k hhi hhi2
  unfold Bx.val
  have k0 := cell_of HB0.out (k := 0) rfl
  have k1 := cell_of HB0.out (k := 1) rfl
  have m0 := cell_of HB1.out (k := 0) rfl
  have m1 := cell_of HB1.out (k := 1) rfl
  by_cases hi : x.idx = y.idx
  · have d : (x.idx == y.idx) = true := by simpa using hi
    have HI := Lib.hid hi
    clear hi
    go_enter Try.func22, Try.ntmps22
    go_upto_region 1 with (fail)
    rw [← hw0]
    clear hw0
    go_wp2_with fail
    refine HEQ.out.mono ?_
    rintro e w2 ⟨z, hz, rfl, hx2⟩
    have HZ := Lib.hid hz
    have HX2 : Hid (Ext w w2) := Ext.trans HX0.out hx2
    clear hz hx2 k0 k1 m0 m1
    go_wp2_with fail
    go_ret
    exact ⟨z, HZ.out.trans ⟨fun h => Bat.ext HI.out h, fun h => congrArg Bat.es h⟩, rfl, HX2.out⟩
  · have d : (x.idx == y.idx) = false := by simpa using hi
    have HI := Lib.hid hi
    clear hi
    go_enter Try.func22, Try.ntmps22
    go_upto_region 1 with (fail)
    rw [← hw0]
    clear hw0
    go_wp2_with fail
    go_ret
    exact ⟨false, ⟨fun h => (by cases h), fun h => absurd (congrArg Bat.idx h) HI.out⟩, rfl, HX0.out⟩

set_option maxRecDepth 100000 in
set_option maxHeartbeats 8000000 in
theorem same13_any {w : World} {lo hi lo2 hi2 : Nat} {A B : Option Addr} {c c2 : Nat} {L M : List Bx} (h : Bts w lo hi A L) (k : Bts w lo2 hi2 B M) (hhi : hi ≤ w.heap.size) (hhi2 : hi2 ≤ w.heap.size) (hlen : L.length ≤ 1000000000000) :
    Calls Try.prog 15 #[.slice A L.length c, .slice B M.length c2] w fun x w' => ∃ z : Bool, (z = true ↔ L.map Bx.bat = M.map Bx.bat) ∧ x = .returned (.bool z) ∧ Ext w w' := by
  have HE := Lib.hid h
  have HF := Lib.hid k
  have HHI := Lib.hid (And.intro hhi hhi2)
  have HL := Lib.hid hlen
  clear h k hhi hhi2 hlen
  by_cases hne : L.length = M.length
  rotate_left
  · have e1 : ((L.length : Int) != (M.length : Int)) = true := by simp; omega
    have e1n : (L.length != M.length) = true := by simp; exact hne
    have HN := Lib.hid hne
    clear hne
    go_enter Try.func15, Try.ntmps15
    go_wp2_with fail
    go_ret
    exact ⟨false, ⟨fun h => (by cases h), fun h => absurd (by have := congrArg List.length h; rwa [List.length_map, List.length_map] at this) HN.out⟩, rfl, Ext.refl _⟩
  have e1 : ((L.length : Int) != (M.length : Int)) = false := by rw [hne]; simp
  have e1n : (L.length != M.length) = false := by rw [hne]; simp
  have HN := Lib.hid hne
  clear hne
  go_enter Try.func15, Try.ntmps15
  go_wp2_with fail
  go_loopw [5] (fun a wr => ∃ i : Nat, a = .int .i64 (i : Int) ∧ i ≤ L.length ∧ Hid ((L.map Bx.bat).take i = (M.map Bx.bat).take i) ∧ Hid (Ext w wr)) (fun a _ => L.length - (intOf a).toNat)
  case atStart => exact ⟨0, rfl, by omega, by simp [Hid], Lib.hid (Ext.refl _)⟩
  case round =>
    obtain ⟨i, rfl, hm, HR, HX⟩ := hrel
    by_cases hlt : i < L.length
    rotate_left
    · have d : decide ((i : Int) < (L.length : Int)) = false := decide_eq_false (by omega)
      have dn : decide (i < L.length) = false := decide_eq_false hlt
      have HEQ : Hid (L.map Bx.bat = M.map Bx.bat) := by
        have h1 := HR.out
        have h2 := HN.out
        rwa [List.take_of_length_le (by rw [List.length_map]; omega), List.take_of_length_le (by rw [List.length_map]; omega)] at h1
      clear hlt hm
      go_wp2_with fail
      go_ret
      exact ⟨true, ⟨fun _ => HEQ.out, fun _ => rfl⟩, rfl, HX.out⟩
    have d : decide ((i : Int) < (L.length : Int)) = true := decide_eq_true (by omega)
    have dn : decide (i < L.length) = true := decide_eq_true hlt
    have hlt2 : i < M.length := by have := HN.out; omega
    obtain ⟨b, o, hA⟩ := HE.out.base (by omega)
    subst hA
    obtain ⟨b2, o2, hB⟩ := HF.out.base (by omega)
    subst hB
    obtain ⟨p, hp⟩ : ∃ p, L[i]? = some p := ⟨_, List.getElem?_eq_getElem hlt⟩
    obtain ⟨q, hq⟩ : ∃ q, M[i]? = some q := ⟨_, List.getElem?_eq_getElem hlt2⟩
    obtain ⟨c0, c1⟩ := (HE.out.below HX.out HHI.out.1).get hp
    obtain ⟨d0, d1⟩ := (HF.out.below HX.out HHI.out.2).get hq
    have HP := Lib.hid (And.intro hp hq)
    have HSL : Hid (∀ u, Ext wr u → Calls Try.prog 31 #[.slice p.A p.L.length p.c, .slice q.A q.L.length q.c] u fun x w' => ∃ z : Bool, (z = true ↔ p.L.map Prod.fst = q.L.map Prod.fst) ∧ x = .returned (.bool z) ∧ Ext u w') := fun u hu => by
      have hx := Ext.trans HX.out hu
      have h1 := (HE.out.below hx HHI.out.1).each p (List.mem_of_getElem? hp)
      have h2 := (HF.out.below hx HHI.out.2).each q (List.mem_of_getElem? hq)
      exact rsamelist_any h1.es h2.es (Nat.le_trans HHI.out.1 hx.size) (Nat.le_trans HHI.out.2 hx.size) h1.ln h2.ln
    have n1 : (0 : Int) ≤ (i : Int) := by omega
    have n2 : (i : Int) < (L.length : Int) := by omega
    have n3 : (i : Int) < (M.length : Int) := by omega
    clear hp hq
    go_upto_region 6 with (fail)
    by_cases hi : p.idx = q.idx
    rotate_left
    · have e2 : (p.idx != q.idx) = true := by simpa using hi
      have HI := Lib.hid hi
      clear hi
      refine flow (by kernel_rfl) [Is (.slice (some ⟨b, o, none⟩) L.length c), Is (.int .i64 (i : Int)), Is (.pointer (some ⟨b, o + i * 2, none⟩)), Is (.pointer (some ⟨b, o + i * 2, none⟩)), Is (.int .i64 p.idx), Is (.slice (some ⟨b2, o2, none⟩) M.length c2), Is (.int .i64 (i : Int)), Is (.pointer (some ⟨b2, o2 + i * 2, none⟩)), Is (.pointer (some ⟨b2, o2 + i * 2, none⟩)), Is (.int .i64 q.idx), Is (.bool true), Is (.bool true), Is undef, Is undef, Is undef, Is undef, Is undef, Is undef, Is undef, Is undef, Is undef, Is undef, Is undef, Is undef, Is (.bool true)] (by kernel_rfl) (by kernel_rfl) ?mono (fun f1 => ?obl) ?fin
      case mono =>
        simp only [List.forall_mem_cons, List.not_mem_nil, false_imp_iff, implies_true, and_true]
        exact ⟨.is _, .is _, .is _, .is _, .is _, .is _, .is _, .is _, .is _, .is _, .is _, .is _, .is _, .is _, .is _, .is _, .is _, .is _, .is _, .is _, .is _, .is _, .is _, .is _, .is _⟩
      case fin =>
        intro g1 u hu hg
        simp only [puts, Act.put, List.setIfInBounds_toArray, List.set_cons_zero, List.set_cons_succ]
        have h24 : g1 24 = .bool true := hg 24 (by decide)
        rw [h24]
        have HXU : Hid (Ext w u) := Ext.trans HX.out (Ext.trans (Ext.drew wr) hu)
        clear h24 hg hu c0 c1 d0 d1
        go_wp2_with fail
        go_ret
        refine ⟨false, ⟨fun h => (by cases h), fun h => ?_⟩, rfl, HXU.out⟩
        have h1 := congrArg (fun l => l[i]?) h
        simp only [List.getElem?_map, HP.out.1, HP.out.2, Option.map_some, Option.some.injEq] at h1
        exact absurd (congrArg Bat.idx h1) HI.out
      case obl =>
        refine ⟨fun u hu hd => ?_, ?_⟩
        · go_simp
          exact ⟨Ext.refl _, rfl⟩
        refine ⟨fun u hu hd => ?_, ?_⟩
        · simp only [Act.put, List.setIfInBounds_toArray, List.set_cons_zero, List.set_cons_succ]
          go_simp
          exact ⟨Ext.refl _, rfl⟩
        refine ⟨fun u hu hd => ?_, ?_⟩
        · simp only [Act.put, List.setIfInBounds_toArray, List.set_cons_zero, List.set_cons_succ]
          have e0 : f1 0 = .slice (some ⟨b, o, none⟩) L.length c := hd 0 (by kernel_rfl)
          have e1 : f1 1 = .int .i64 (i : Int) := hd 1 (by kernel_rfl)
          go_simp
          exact ⟨Ext.refl _, rfl⟩
        refine ⟨fun u hu hd => ?_, ?_⟩
        · simp only [Act.put, List.setIfInBounds_toArray, List.set_cons_zero, List.set_cons_succ]
          have e2 : f1 2 = .pointer (some ⟨b, o + i * 2, none⟩) := hd 2 (by kernel_rfl)
          go_simp
          exact ⟨Ext.refl _, rfl⟩
        refine ⟨fun u hu hd => ?_, ?_⟩
        · simp only [Act.put, List.setIfInBounds_toArray, List.set_cons_zero, List.set_cons_succ]
          have e3 : f1 3 = .pointer (some ⟨b, o + i * 2, none⟩) := hd 3 (by kernel_rfl)
          have hu2 := Ext.trans (Ext.drew wr) hu
          have q0 := ext_cell hu2 c0
          go_simp
          exact ⟨Ext.refl _, rfl⟩
        refine ⟨fun u hu hd => ?_, ?_⟩
        · simp only [Act.put, List.setIfInBounds_toArray, List.set_cons_zero, List.set_cons_succ]
          go_simp
          exact ⟨Ext.refl _, rfl⟩
        refine ⟨fun u hu hd => ?_, ?_⟩
        · simp only [Act.put, List.setIfInBounds_toArray, List.set_cons_zero, List.set_cons_succ]
          go_simp
          exact ⟨Ext.refl _, rfl⟩
        refine ⟨fun u hu hd => ?_, ?_⟩
        · simp only [Act.put, List.setIfInBounds_toArray, List.set_cons_zero, List.set_cons_succ]
          have e5 : f1 5 = .slice (some ⟨b2, o2, none⟩) M.length c2 := hd 5 (by kernel_rfl)
          have e6 : f1 6 = .int .i64 (i : Int) := hd 6 (by kernel_rfl)
          go_simp
          exact ⟨Ext.refl _, rfl⟩
        refine ⟨fun u hu hd => ?_, ?_⟩
        · simp only [Act.put, List.setIfInBounds_toArray, List.set_cons_zero, List.set_cons_succ]
          have e7 : f1 7 = .pointer (some ⟨b2, o2 + i * 2, none⟩) := hd 7 (by kernel_rfl)
          go_simp
          exact ⟨Ext.refl _, rfl⟩
        refine ⟨fun u hu hd => ?_, ?_⟩
        · simp only [Act.put, List.setIfInBounds_toArray, List.set_cons_zero, List.set_cons_succ]
          have e8 : f1 8 = .pointer (some ⟨b2, o2 + i * 2, none⟩) := hd 8 (by kernel_rfl)
          have hu2 := Ext.trans (Ext.drew wr) hu
          have q0 := ext_cell hu2 d0
          go_simp
          exact ⟨Ext.refl _, rfl⟩
        refine ⟨fun u hu hd => ?_, ?_⟩
        · simp only [Act.put, List.setIfInBounds_toArray, List.set_cons_zero, List.set_cons_succ]
          have e4 : f1 4 = .int .i64 p.idx := hd 4 (by kernel_rfl)
          have e9 : f1 9 = .int .i64 q.idx := hd 9 (by kernel_rfl)
          go_simp
          exact ⟨Ext.refl _, rfl⟩
        refine ⟨fun u hu hd => ?_, ?_⟩
        · simp only [Act.put, List.setIfInBounds_toArray, List.set_cons_zero, List.set_cons_succ]
          have e10 : f1 10 = .bool true := hd 10 (by kernel_rfl)
          go_simp
          exact ⟨Ext.refl _, rfl⟩
        refine ⟨fun u hu hd => ?_, ?_⟩
        · simp only [Act.put, List.setIfInBounds_toArray, List.set_cons_zero, List.set_cons_succ]
          have e11 : f1 11 = .bool true := hd 11 (by kernel_rfl)
          go_simp
          rfl
        refine ⟨fun u hu hd => ?_, ?_⟩
        · simp only [Act.put, List.setIfInBounds_toArray, List.set_cons_zero, List.set_cons_succ]
          have e11 : f1 11 = .bool true := hd 11 (by kernel_rfl)
          go_simp
          rfl
        refine ⟨fun u hu hd => ?_, ?_⟩
        · simp only [Act.put, List.setIfInBounds_toArray, List.set_cons_zero, List.set_cons_succ]
          have e11 : f1 11 = .bool true := hd 11 (by kernel_rfl)
          go_simp
          rfl
        refine ⟨fun u hu hd => ?_, ?_⟩
        · simp only [Act.put, List.setIfInBounds_toArray, List.set_cons_zero, List.set_cons_succ]
          have e11 : f1 11 = .bool true := hd 11 (by kernel_rfl)
          go_simp
          rfl
        refine ⟨fun u hu hd => ?_, ?_⟩
        · simp only [Act.put, List.setIfInBounds_toArray, List.set_cons_zero, List.set_cons_succ]
          have e11 : f1 11 = .bool true := hd 11 (by kernel_rfl)
          go_simp
          rfl
        refine ⟨fun u hu hd => ?_, ?_⟩
        · simp only [Act.put, List.setIfInBounds_toArray, List.set_cons_zero, List.set_cons_succ]
          have e11 : f1 11 = .bool true := hd 11 (by kernel_rfl)
          go_simp
          rfl
        refine ⟨fun u hu hd => ?_, ?_⟩
        · simp only [Act.put, List.setIfInBounds_toArray, List.set_cons_zero, List.set_cons_succ]
          have e11 : f1 11 = .bool true := hd 11 (by kernel_rfl)
          go_simp
          rfl
        refine ⟨fun u hu hd => ?_, ?_⟩
        · simp only [Act.put, List.setIfInBounds_toArray, List.set_cons_zero, List.set_cons_succ]
          have e11 : f1 11 = .bool true := hd 11 (by kernel_rfl)
          go_simp
          rfl
        refine ⟨fun u hu hd => ?_, ?_⟩
        · simp only [Act.put, List.setIfInBounds_toArray, List.set_cons_zero, List.set_cons_succ]
          have e11 : f1 11 = .bool true := hd 11 (by kernel_rfl)
          go_simp
          rfl
        refine ⟨fun u hu hd => ?_, ?_⟩
        · simp only [Act.put, List.setIfInBounds_toArray, List.set_cons_zero, List.set_cons_succ]
          have e11 : f1 11 = .bool true := hd 11 (by kernel_rfl)
          go_simp
          rfl
        refine ⟨fun u hu hd => ?_, ?_⟩
        · simp only [Act.put, List.setIfInBounds_toArray, List.set_cons_zero, List.set_cons_succ]
          have e11 : f1 11 = .bool true := hd 11 (by kernel_rfl)
          go_simp
          rfl
        refine ⟨fun u hu hd => ?_, ?_⟩
        · simp only [Act.put, List.setIfInBounds_toArray, List.set_cons_zero, List.set_cons_succ]
          have e11 : f1 11 = .bool true := hd 11 (by kernel_rfl)
          go_simp
          rfl
        refine ⟨fun u hu hd => ?_, ?_⟩
        · simp only [Act.put, List.setIfInBounds_toArray, List.set_cons_zero, List.set_cons_succ]
          have e11 : f1 11 = .bool true := hd 11 (by kernel_rfl)
          go_simp
          exact ⟨Ext.refl _, rfl⟩
        trivial
    have e2 : (p.idx != q.idx) = false := by simpa using hi
    have HI := Lib.hid hi
    clear hi
    obtain ⟨z, hz⟩ : ∃ z : Bool, (z = true ↔ p.L.map Prod.fst = q.L.map Prod.fst) := by
      by_cases e : p.L.map Prod.fst = q.L.map Prod.fst
      · exact ⟨true, by simp [e]⟩
      · exact ⟨false, by simp [e]⟩
    have HZ := Lib.hid hz
    clear hz
    refine flow (by kernel_rfl) [Is (.slice (some ⟨b, o, none⟩) L.length c), Is (.int .i64 (i : Int)), Is (.pointer (some ⟨b, o + i * 2, none⟩)), Is (.pointer (some ⟨b, o + i * 2, none⟩)), Is (.int .i64 p.idx), Is (.slice (some ⟨b2, o2, none⟩) M.length c2), Is (.int .i64 (i : Int)), Is (.pointer (some ⟨b2, o2 + i * 2, none⟩)), Is (.pointer (some ⟨b2, o2 + i * 2, none⟩)), Is (.int .i64 q.idx), Is (.bool false), Is (.bool false), Is (.slice (some ⟨b, o, none⟩) L.length c), Is (.int .i64 (i : Int)), Is (.pointer (some ⟨b, o + i * 2, none⟩)), Is (.pointer (some ⟨b, o + i * 2 + 1, none⟩)), Is (.slice p.A p.L.length p.c), Is (.slice (some ⟨b2, o2, none⟩) M.length c2), Is (.int .i64 (i : Int)), Is (.pointer (some ⟨b2, o2 + i * 2, none⟩)), Is (.pointer (some ⟨b2, o2 + i * 2 + 1, none⟩)), Is (.slice q.A q.L.length q.c), Is (.bool z), Is (.bool (!z)), Is (.bool (!z))] (by kernel_rfl) (by kernel_rfl) ?mono (fun f1 => ?obl) ?fin
    case mono =>
      simp only [List.forall_mem_cons, List.not_mem_nil, false_imp_iff, implies_true, and_true]
      exact ⟨.is _, .is _, .is _, .is _, .is _, .is _, .is _, .is _, .is _, .is _, .is _, .is _, .is _, .is _, .is _, .is _, .is _, .is _, .is _, .is _, .is _, .is _, .is _, .is _, .is _⟩
    case fin =>
      intro g1 u hu hg
      simp only [puts, Act.put, List.setIfInBounds_toArray, List.set_cons_zero, List.set_cons_succ]
      have h24 : g1 24 = .bool (!z) := hg 24 (by decide)
      rw [h24]
      have HXU : Hid (Ext w u) := Ext.trans HX.out (Ext.trans (Ext.drew wr) hu)
      clear h24 hg hu c0 c1 d0 d1
      have hL := HL.out
      cases z with
      | false =>
        go_wp2_with fail
        go_ret
        refine ⟨false, ⟨fun h => (by cases h), fun h => ?_⟩, rfl, HXU.out⟩
        have h1 := congrArg (fun l => l[i]?) h
        simp only [List.getElem?_map, HP.out.1, HP.out.2, Option.map_some, Option.some.injEq] at h1
        exact HZ.out.2 (congrArg Bat.es h1)
      | true =>
        go_wp2_with fail
        go_roundw
        case rel => exact ⟨i + 1, by go_num, by omega, Lib.hid (take_next HR.out (by rw [List.getElem?_map, HP.out.1]; rfl) (by rw [List.getElem?_map, HP.out.2]; rfl) (Bat.ext HI.out (HZ.out.1 (by trivial)))), HXU⟩
        case measure => simp [intOf]; omega
    case obl =>
      refine ⟨fun u hu hd => ?_, ?_⟩
      · go_simp
        exact ⟨Ext.refl _, rfl⟩
      refine ⟨fun u hu hd => ?_, ?_⟩
      · simp only [Act.put, List.setIfInBounds_toArray, List.set_cons_zero, List.set_cons_succ]
        go_simp
        exact ⟨Ext.refl _, rfl⟩
      refine ⟨fun u hu hd => ?_, ?_⟩
      · simp only [Act.put, List.setIfInBounds_toArray, List.set_cons_zero, List.set_cons_succ]
        have e0 : f1 0 = .slice (some ⟨b, o, none⟩) L.length c := hd 0 (by kernel_rfl)
        have e1 : f1 1 = .int .i64 (i : Int) := hd 1 (by kernel_rfl)
        go_simp
        exact ⟨Ext.refl _, rfl⟩
      refine ⟨fun u hu hd => ?_, ?_⟩
      · simp only [Act.put, List.setIfInBounds_toArray, List.set_cons_zero, List.set_cons_succ]
        have e2 : f1 2 = .pointer (some ⟨b, o + i * 2, none⟩) := hd 2 (by kernel_rfl)
        go_simp
        exact ⟨Ext.refl _, rfl⟩
      refine ⟨fun u hu hd => ?_, ?_⟩
      · simp only [Act.put, List.setIfInBounds_toArray, List.set_cons_zero, List.set_cons_succ]
        have e3 : f1 3 = .pointer (some ⟨b, o + i * 2, none⟩) := hd 3 (by kernel_rfl)
        have hu2 := Ext.trans (Ext.drew wr) hu
        have q0 := ext_cell hu2 c0
        go_simp
        exact ⟨Ext.refl _, rfl⟩
      refine ⟨fun u hu hd => ?_, ?_⟩
      · simp only [Act.put, List.setIfInBounds_toArray, List.set_cons_zero, List.set_cons_succ]
        go_simp
        exact ⟨Ext.refl _, rfl⟩
      refine ⟨fun u hu hd => ?_, ?_⟩
      · simp only [Act.put, List.setIfInBounds_toArray, List.set_cons_zero, List.set_cons_succ]
        go_simp
        exact ⟨Ext.refl _, rfl⟩
      refine ⟨fun u hu hd => ?_, ?_⟩
      · simp only [Act.put, List.setIfInBounds_toArray, List.set_cons_zero, List.set_cons_succ]
        have e5 : f1 5 = .slice (some ⟨b2, o2, none⟩) M.length c2 := hd 5 (by kernel_rfl)
        have e6 : f1 6 = .int .i64 (i : Int) := hd 6 (by kernel_rfl)
        go_simp
        exact ⟨Ext.refl _, rfl⟩
      refine ⟨fun u hu hd => ?_, ?_⟩
      · simp only [Act.put, List.setIfInBounds_toArray, List.set_cons_zero, List.set_cons_succ]
        have e7 : f1 7 = .pointer (some ⟨b2, o2 + i * 2, none⟩) := hd 7 (by kernel_rfl)
        go_simp
        exact ⟨Ext.refl _, rfl⟩
      refine ⟨fun u hu hd => ?_, ?_⟩
      · simp only [Act.put, List.setIfInBounds_toArray, List.set_cons_zero, List.set_cons_succ]
        have e8 : f1 8 = .pointer (some ⟨b2, o2 + i * 2, none⟩) := hd 8 (by kernel_rfl)
        have hu2 := Ext.trans (Ext.drew wr) hu
        have q0 := ext_cell hu2 d0
        go_simp
        exact ⟨Ext.refl _, rfl⟩
      refine ⟨fun u hu hd => ?_, ?_⟩
      · simp only [Act.put, List.setIfInBounds_toArray, List.set_cons_zero, List.set_cons_succ]
        have e4 : f1 4 = .int .i64 p.idx := hd 4 (by kernel_rfl)
        have e9 : f1 9 = .int .i64 q.idx := hd 9 (by kernel_rfl)
        go_simp
        exact ⟨Ext.refl _, rfl⟩
      refine ⟨fun u hu hd => ?_, ?_⟩
      · simp only [Act.put, List.setIfInBounds_toArray, List.set_cons_zero, List.set_cons_succ]
        have e10 : f1 10 = .bool false := hd 10 (by kernel_rfl)
        go_simp
        exact ⟨Ext.refl _, rfl⟩
      refine ⟨fun u hu hd => ?_, ?_⟩
      · simp only [Act.put, List.setIfInBounds_toArray, List.set_cons_zero, List.set_cons_succ]
        have e11 : f1 11 = .bool false := hd 11 (by kernel_rfl)
        go_simp
        exact ⟨Ext.refl _, rfl⟩
      refine ⟨fun u hu hd => ?_, ?_⟩
      · simp only [Act.put, List.setIfInBounds_toArray, List.set_cons_zero, List.set_cons_succ]
        have e11 : f1 11 = .bool false := hd 11 (by kernel_rfl)
        go_simp
        exact ⟨Ext.refl _, rfl⟩
      refine ⟨fun u hu hd => ?_, ?_⟩
      · simp only [Act.put, List.setIfInBounds_toArray, List.set_cons_zero, List.set_cons_succ]
        have e11 : f1 11 = .bool false := hd 11 (by kernel_rfl)
        have e12 : f1 12 = .slice (some ⟨b, o, none⟩) L.length c := hd 12 (by kernel_rfl)
        have e13 : f1 13 = .int .i64 (i : Int) := hd 13 (by kernel_rfl)
        go_simp
        exact ⟨Ext.refl _, rfl⟩
      refine ⟨fun u hu hd => ?_, ?_⟩
      · simp only [Act.put, List.setIfInBounds_toArray, List.set_cons_zero, List.set_cons_succ]
        have e11 : f1 11 = .bool false := hd 11 (by kernel_rfl)
        have e14 : f1 14 = .pointer (some ⟨b, o + i * 2, none⟩) := hd 14 (by kernel_rfl)
        go_simp
        exact ⟨Ext.refl _, rfl⟩
      refine ⟨fun u hu hd => ?_, ?_⟩
      · simp only [Act.put, List.setIfInBounds_toArray, List.set_cons_zero, List.set_cons_succ]
        have e11 : f1 11 = .bool false := hd 11 (by kernel_rfl)
        have e15 : f1 15 = .pointer (some ⟨b, o + i * 2 + 1, none⟩) := hd 15 (by kernel_rfl)
        have hu2 := Ext.trans (Ext.drew wr) hu
        have q0 := ext_cell hu2 c1
        go_simp
        exact ⟨Ext.refl _, rfl⟩
      refine ⟨fun u hu hd => ?_, ?_⟩
      · simp only [Act.put, List.setIfInBounds_toArray, List.set_cons_zero, List.set_cons_succ]
        have e11 : f1 11 = .bool false := hd 11 (by kernel_rfl)
        go_simp
        exact ⟨Ext.refl _, rfl⟩
      refine ⟨fun u hu hd => ?_, ?_⟩
      · simp only [Act.put, List.setIfInBounds_toArray, List.set_cons_zero, List.set_cons_succ]
        have e11 : f1 11 = .bool false := hd 11 (by kernel_rfl)
        go_simp
        exact ⟨Ext.refl _, rfl⟩
      refine ⟨fun u hu hd => ?_, ?_⟩
      · simp only [Act.put, List.setIfInBounds_toArray, List.set_cons_zero, List.set_cons_succ]
        have e11 : f1 11 = .bool false := hd 11 (by kernel_rfl)
        have e17 : f1 17 = .slice (some ⟨b2, o2, none⟩) M.length c2 := hd 17 (by kernel_rfl)
        have e18 : f1 18 = .int .i64 (i : Int) := hd 18 (by kernel_rfl)
        go_simp
        exact ⟨Ext.refl _, rfl⟩
      refine ⟨fun u hu hd => ?_, ?_⟩
      · simp only [Act.put, List.setIfInBounds_toArray, List.set_cons_zero, List.set_cons_succ]
        have e11 : f1 11 = .bool false := hd 11 (by kernel_rfl)
        have e19 : f1 19 = .pointer (some ⟨b2, o2 + i * 2, none⟩) := hd 19 (by kernel_rfl)
        go_simp
        exact ⟨Ext.refl _, rfl⟩
      refine ⟨fun u hu hd => ?_, ?_⟩
      · simp only [Act.put, List.setIfInBounds_toArray, List.set_cons_zero, List.set_cons_succ]
        have e11 : f1 11 = .bool false := hd 11 (by kernel_rfl)
        have e20 : f1 20 = .pointer (some ⟨b2, o2 + i * 2 + 1, none⟩) := hd 20 (by kernel_rfl)
        have hu2 := Ext.trans (Ext.drew wr) hu
        have q0 := ext_cell hu2 d1
        go_simp
        exact ⟨Ext.refl _, rfl⟩
      refine ⟨fun u hu hd => ?_, ?_⟩
      · simp only [Act.put, List.setIfInBounds_toArray, List.set_cons_zero, List.set_cons_succ]
        have e11 : f1 11 = .bool false := hd 11 (by kernel_rfl)
        have e16 : f1 16 = .slice p.A p.L.length p.c := hd 16 (by kernel_rfl)
        have e21 : f1 21 = .slice q.A q.L.length q.c := hd 21 (by kernel_rfl)
        have hu2 := Ext.trans (Ext.drew wr) hu
        go_simp
        refine (HSL.out u hu2).mono ?_
        rintro e9 w9 ⟨z9, hz9, rfl, hx9⟩
        obtain rfl : z9 = z := Bool.eq_iff_iff.2 (hz9.trans HZ.out.symm)
        exact ⟨_, rfl, hx9, rfl⟩
      refine ⟨fun u hu hd => ?_, ?_⟩
      · simp only [Act.put, List.setIfInBounds_toArray, List.set_cons_zero, List.set_cons_succ]
        have e11 : f1 11 = .bool false := hd 11 (by kernel_rfl)
        have e22 : f1 22 = .bool z := hd 22 (by kernel_rfl)
        go_simp
        exact ⟨Ext.refl _, rfl⟩
      refine ⟨fun u hu hd => ?_, ?_⟩
      · simp only [Act.put, List.setIfInBounds_toArray, List.set_cons_zero, List.set_cons_succ]
        have e11 : f1 11 = .bool false := hd 11 (by kernel_rfl)
        have e23 : f1 23 = .bool (!z) := hd 23 (by kernel_rfl)
        go_simp
        exact ⟨Ext.refl _, rfl⟩
      trivial
end Go.Proofs.Ytgflhbpmkcggnaa

/- How many whole frames, and how many bytes they have. -/
namespace Go.Proofs.Ytgflhbpmkcggnaa.Fm
open Go.RowKit Go.Shelf
attribute [local go_sem] Oper.semAt_some

/-- Between two rounds. -/
structure WholeI (w u : World) (lo hi bw bd : Nat) (b : List Nat) (n₁ k : Nat) (A : World) : Prop where
  ex : ∃ m, Upto b k m ∧ Boxed A w.heap.size 3 (.int .i64 (k : Int)) ∧ Boxed A (w.heap.size + 1) 3 (.int .i64 (m : Int))
  below : Below w.heap.size w A
  kept : Kept lo hi bw bd u A
  le : n₁ ≤ A.heap.size

theorem WholeI.chg {w u : World} {lo hi bw bd n₁ k : Nat} {b : List Nat} {A A' : World} (h : WholeI w u lo hi bw bd b n₁ k A) (hw : w.heap.size + 2 ≤ u.heap.size) (hu : u.heap.size ≤ A.heap.size) (_hm : ∀ i, Mine lo hi bw bd i → i < u.heap.size) (hc : Chg (Btw u.heap.size n₁) A A') : WholeI w u lo hi bw bd b n₁ k A' := by
  obtain ⟨⟨m, h1, h2, h3⟩, h4, h5, h6⟩ := h
  refine ⟨⟨m, h1, boxed_chg h2 hc (fun hb => by have := hb.1; omega), boxed_chg h3 hc (fun hb => by have := hb.1; omega)⟩, h4.trans (hc.below (fun i hi => by have := hi.1; omega) h4.size), fun i hi hl => ?_, Nat.le_trans h6 hc.size⟩
  exact (hc.block i (by omega) (fun hb => by have := hb.1; omega)).trans (h5 i hi hl)

theorem boxed_far {w : World} {b : Nat} {t : TypeId} {v : Value} (h : Boxed w b t v) {p : Addr} (hp : b ≠ p.block) (u : Value) : Boxed (w.setCell p u) b t v := (heap_setCell_other w p b u hp).trans h

/-- What Whole answers. -/
def CountAns (w : World) (b : List Nat) (e : Ending) (w' : World) : Prop := e = .returned (.tuple #[.int .i64 ((frs b 0).length : Int), .int .i64 (fend b 0 : Int)]) ∧ Below w.heap.size w w'

set_option maxRecDepth 100000 in
set_option maxHeartbeats 4000000 in
theorem count_any {w : World} {lo hi : Nat} {v : Value} {b : List Nat} (hv : Bs w lo hi v b) (hhi : hi ≤ w.heap.size) (hb : ∀ x ∈ b, x < 256) : Calls Try.prog 39 #[v] w (CountAns w b) := by
  have HV := Lib.hid hv
  have HBB := Lib.hid hb
  obtain ⟨A, c, rfl, q1, q2, q3, _⟩ := hv
  have hlen : b.length ≤ 9223372036854775807 := by unfold maxLen at q2; omega
  clear q1 q2 q3 hb
  have hf1 : Fence.wide.fn 63 := trivial
  have hf2 : Fence.wide.fn 60 := trivial
  refine (callsIn_wide (n := 6)).1 ?_
  refine callsIn_of_wp_marks Try.func39 rfl trivial ?_
  simp only [Try.ntmps39, List.size_toArray, List.length_cons, List.length_nil, Nat.reduceAdd, Nat.reduceSub, Array.replicate_succ, Array.replicate_zero, List.push_toArray, List.append_toArray, List.nil_append, List.cons_append]
  gi_wp2_with (gi_at_call 63; refine (callsIn_wide.2 (each_any _ _ _ _)).mono ?_; rintro e w' ⟨rfl, rfl⟩)
  obtain ⟨w2, hw2⟩ : ∃ w2, w2 = (w.alloc (.cells #[.int .i64 0] 3)).alloc (.cells #[.int .i64 0] 3) := ⟨_, rfl⟩
  obtain ⟨w4, hw4⟩ : ∃ w4, w4 = (w2.alloc (.cells #[.slice A b.length c] 29)).alloc (.cells #[.func (.func 98) #[] #[.pointer (some ⟨w.heap.size + 1 + 1, 0, none⟩)]] 115) := ⟨_, rfl⟩
  have HZ2 : Hid (w2.heap.size = w.heap.size + 2) := by rw [hw2]; simp [Hid]
  have HX2 : Hid (Ext w w2) := by rw [hw2]; exact (ext_alloc _ _).trans (ext_alloc _ _)
  have HBA : Hid (Boxed w2 w.heap.size 3 (.int .i64 0)) := by rw [hw2]; exact ext_heap (ext_alloc _ _) (heap_at _ _ rfl)
  have HBC : Hid (Boxed w2 (w.heap.size + 1) 3 (.int .i64 0)) := by rw [hw2]; exact heap_at _ _ (by simp)
  have HZ4 : Hid (w4.heap.size = w.heap.size + 4) := by rw [hw4, hw2]; simp [Hid]
  have HX4 : Hid (Ext w2 w4) := by rw [hw4]; exact (ext_alloc _ _).trans (ext_alloc _ _)
  have HX : Hid (Ext w w4) := HX2.out.trans HX4.out
  have HLK : Hid (Looked w4 lo hi (w.heap.size + 3) (w.heap.size + 2) A b.length c b) := by
    refine ⟨HV.out.below HX.out hhi, Nat.le_trans hhi HX.out.size, HBB.out, ?_, ?_⟩
    · rw [hw4]; exact cell_of (heap_at _ _ (by simp [HZ2.out])) rfl
    · rw [hw4]; exact cell_new (cell_of (heap_at _ _ (by simp [HZ2.out])) rfl) _
  rw [← hw2, ← hw4]
  clear hw2 hw4
  have hmine : ∀ i, Mine lo hi (w.heap.size + 3) (w.heap.size + 2) i → i < w4.heap.size := fun i hi => by
    have := HZ4.out
    rcases hi with ⟨_, h⟩ | h | h <;> omega
  have HMINE := Lib.hid hmine
  clear hmine
  refine wpIn_over rfl enters_each (each_iter HLK.out).iter (fun _ => rfl) (fun n₁ k A => WholeI w w4 lo hi (w.heap.size + 3) (w.heap.size + 2) b n₁ k A ∧ w4.heap.size ≤ A.heap.size) (fun _ _ => False) (fun _ _ _ h => h.1.kept) ?hI (fun _ _ _ h _ => h) ?h0 ?round ?done (fun _ _ _ _ h _ => h.elim)
  case hI => intro n₁ k A A' _ hi hc; exact ⟨hi.1.chg (by have := HZ4.out; omega) hi.2 HMINE.out hc, Nat.le_trans hi.2 hc.size⟩
  case h0 =>
    intro A hx
    refine ⟨⟨⟨0, Upto.start b, ext_heap (HX4.out.trans hx) HBA.out, ext_heap (HX4.out.trans hx) HBC.out⟩, HX.out.trans hx, fun i hi hl => hx.block i hl, Nat.le_refl _⟩, hx.size⟩
  case round =>
    rintro l n₁ k ⟨m', A', n', c'⟩ A hl1 hl2 hn hnA ⟨hi, hsz⟩ hk ⟨p, hok, hpl, _⟩
    obtain ⟨m, hu, hb0, hb1⟩ := hi.ex
    obtain ⟨p', hw, hok', hu'⟩ := hu.here hk
    rw [hok'] at hok
    have hmp : m = m' ∧ p' = p := by injection hok with h; injection h with h1 h2; exact ⟨h1, h2⟩
    obtain ⟨rfl, rfl⟩ := hmp
    have hpl' : n' = p'.length := hpl
    subst hpl'
    have HI := Lib.hid hi
    have HU := Lib.hid hu'
    have HN := Lib.hid hn
    have HSZ := Lib.hid hsz
    have HL := Lib.hid (And.intro hl1 hl2)
    have HPS := Lib.hid (whole1_spec hw)
    have HB0 := Lib.hid hb0
    have HB1 := Lib.hid hb1
    have HK1 : Hid (wrap64 ((k : Int) + 1) = ((k + 1 : Nat) : Int)) := by have h := frs_len b; unfold Hid wrap64; omega
    have hfs : isize (p'.length : Int) = ((p'.length + 8 : Nat) : Int) := by
      have h1 := whole1_spec hw
      rw [isize_nat, show fsize p'.length = p'.length + 8 by unfold fsize; rw [if_pos ⟨h1.2.1, h1.2.2.1⟩]]
    have HSIZE : Hid (∀ w, Calls Try.prog 60 #[.int .i64 (p'.length : Int)] w fun e w' => e = .returned (.int .i64 ((p'.length + 8 : Nat) : Int)) ∧ w = w') := fun w => by
      have h := size_any (p'.length : Int) w
      rw [hfs] at h
      exact h
    have HM1 : Hid (wrap64 ((m : Int) + ((p'.length : Int) + 8)) = ((m + (p'.length + 8) : Nat) : Int)) := by have h := hu'.1; unfold Hid wrap64; omega
    clear hfs
    clear hok hok' hpl hi hn hl1 hl2 hk hsz hu hu' hw hb0 hb1 hnA
    dsimp only [eachV]
    gi_wp2
    refine ⟨Step.refl _ _ _, fun A2 hc => ?_⟩
    have hi2 := HI.out.chg (by have := HZ4.out; omega) HSZ.out HMINE.out (hc.mono fun i _ e => ⟨by have := HL.out.1; omega, by have := HL.out.2; omega⟩)
    have HB0' : Hid (Boxed A2 w.heap.size 3 (.int .i64 (k : Int))) := boxed_chg HB0.out hc (fun e => by have e : w.heap.size = l := e; have := HL.out.1; have := HZ4.out; omega)
    have HB1' : Hid (Boxed A2 (w.heap.size + 1) 3 (.int .i64 (m : Int))) := boxed_chg HB1.out hc (fun e => by have e : w.heap.size + 1 = l := e; have := HL.out.1; have := HZ4.out; omega)
    have q0 := HB0'.out.cell
    have f0 := HB0'.out.frozen
    have q1 := HB1'.out.cell
    have f1 := HB1'.out.frozen
    have HI2 := Lib.hid hi2
    have HC := Lib.hid hc
    clear hi2 hc
    gi_wp2_with (gi_at_call 60; refine (CallsIn.inRound l (callsIn_wide.2 (HSIZE.out _))).mono ?_; rintro e w9 ⟨rfl, rfl⟩)
    rw [HK1.out, HM1.out]
    have hz4 := HZ4.out
    have hle2 := HI2.out.le
    have hsz2 := HSZ.out
    have hcc : Chg (fun i => i = w.heap.size ∨ i = w.heap.size + 1) A2 ((A2.setCell ⟨w.heap.size, 0, none⟩ (.int .i64 ((k + 1 : Nat) : Int))).setCell ⟨w.heap.size + 1, 0, none⟩ (.int .i64 ((m + (p'.length + 8) : Nat) : Int))) :=
      (Chg.setCell _ _ _ (.inl rfl)).trans (Chg.setCell _ _ _ (.inr rfl))
    have hs24 : w4.heap.size ≤ A2.heap.size := Nat.le_trans hsz2 HC.out.size
    refine ⟨Step.of_chg hcc hle2 (fun i h1 h2 hs => by rcases hs with hs | hs <;> omega), ⟨⟨_, HU.out, boxed_far (HB0'.out.set _) (by simp) _, Boxed.set _ (boxed_far HB1'.out (by simp) _)⟩, HI2.out.below.trans (hcc.below (fun i hi => by rcases hi with hi | hi <;> omega) HI2.out.below.size), fun i hi hl => ?_, Nat.le_trans hle2 hcc.size⟩, Nat.le_trans hs24 hcc.size⟩
    refine (hcc.block i (by omega) (fun hs => ?_)).trans (HI2.out.kept i hi hl)
    rcases hi with ⟨_, h⟩ | h | h <;> rcases hs with hs | hs <;> omega
  case done =>
    rintro D' n₁ W hDl _ hn ⟨hi, hsz⟩ hD
    obtain ⟨m, hu, hb0, hb1⟩ := hi.ex
    have HU := Lib.hid hu.last
    have q0 := hb0.cell
    have q1 := hb1.cell
    have HBEL := Lib.hid hi.below
    have HDD := Lib.hid hD
    have HDL := Lib.hid hDl
    clear hi hu hb0 hb1 hn hsz hD hDl
    obtain ⟨N, hN⟩ : ∃ N, N = (frs b 0).length := ⟨_, rfl⟩
    rw [← hN] at q0
    gi_wp2
    refine wpIn_wide.2 ?_
    go_region
    clear q0 q1
    gi_wp2
    refine ⟨by simp, .inl ⟨_, _, rfl, run_takeDeferred (w := W.drew) HDD.out, ?_⟩⟩
    refine ⟨_, results_tmp2 rfl _ _ _, ⟨by rw [HU.out]; rfl, ?_⟩⟩
    exact (HBEL.out.drew).trans ((putObj_chg W.drew D' _).below (fun i e => by have := HDL.out; have := HX.out.size; omega) HBEL.out.size)
end Go.Proofs.Ytgflhbpmkcggnaa.Fm
