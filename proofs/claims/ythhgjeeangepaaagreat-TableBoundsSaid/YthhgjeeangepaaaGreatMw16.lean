import Derived.Test.YthhgjeeangepaaaGreatMw15
import Derived.Test.YthhgjeeangepaaaGreatMw3
import Derived.Test.YthhgjeeangepaaaGreatMw10
import Derived.Test.YthhgjeeangepaaaGreatMw14
import Derived.Test.YthhgjeeangepaaaGreatMw12
import Derived.Test.YthhgjeeangepaaaGreatMw13
import Derived.Test.YthhgjeeangepaaaGreatMw0
namespace Go.Proofs.YthhgjeeangepaaaGreat
open Go.ChangeShapes Go.WideShapes Go.ChangeAt Go.RowKit Go.Shelf
attribute [local go_sem] Oper.semAt_some
theorem all_some (g : Nat) (w : World) : (binOp .eql 40 (.func (.func 57) #[] #[.pointer (some ⟨g, 0, none⟩)]) .nilFunc).run Tryz.prog w = .ok (.bool false) w := by kernel_rfl
theorem IterQ.ext {P : Program} {α : Type} {gf : Nat} {lb : Array Value} {encs : α → Array Value} {Ok : (Nat → Prop) → (Nat → Prop) → Nat → α → World → Prop} {Done : Nat → Prop} {C : World → Prop} {w w' : World} (h : IterQ P gf lb encs Ok Done C w) (hx : Ext w w') : IterQ P gf lb encs Ok Done C w' :=
  fun m l J Jx W hW => h m l J Jx W (Ext.trans hx hW)
structure TGoI (w : World) (X : Option Addr) (N c : Nat) (most : Int) (D K : Nat → Prop) (k : Nat) (A : World) : Prop where
  below : Ext w A
  num : Boxed A (w.heap.size + 3) 3 (.int .i64 (k : Int))
  res : Boxed A (w.heap.size + 2) 4 (.bool false)
  most : Boxed A (w.heap.size + 1) 3 (.int .i64 most)
  want : Boxed A w.heap.size 22 (.slice X N c)
  z : w.heap.size + 4 ≤ A.heap.size
  dz : ∀ i, D i → w.heap.size + 4 ≤ i
  kz : ∀ i, K i → w.heap.size + 4 ≤ i
theorem TGoI.chg {w : World} {X : Option Addr} {N c : Nat} {most : Int} {D K D' K' : Nat → Prop} {k : Nat} {A A' : World} (h : TGoI w X N c most D K k A) (hc : Chg D A A') (hD : ∀ i, D' i → D i ∨ A.heap.size ≤ i) (hK : ∀ i, K' i → K i ∨ A.heap.size ≤ i) : TGoI w X N c most D' K' k A' := by
  have hz := h.z
  exact ⟨Below.trans h.below (hc.below (fun i hi => by have := h.dz i hi; omega) h.below.size), boxed_chg h.num hc (fun hd => by have := h.dz _ hd; omega), boxed_chg h.res hc (fun hd => by have := h.dz _ hd; omega), boxed_chg h.most hc (fun hd => by have := h.dz _ hd; omega), boxed_chg h.want hc (fun hd => by have := h.dz _ hd; omega), Nat.le_trans h.z hc.size,
    fun i hi => by rcases hD i hi with h2 | h2; exact h.dz i h2; omega, fun i hi => by rcases hK i hi with h2 | h2; exact h.kz i h2; omega⟩
set_option maxRecDepth 100000 in
set_option maxHeartbeats 8000000 in
theorem tgoes_any {w : World} {bx B lo2 hi2 c2 : Nat} {X : Option Addr} {L2 : List (Ent × Hd)} {V : List Ent} {C : World → Prop} {most : Int} (hseq : GoIter 57 #[.pointer (some ⟨bx, 0, none⟩)] B V C w) (hC : ∀ A, Ext w A → C A)
    (h2 : Es w lo2 hi2 X L2) (hhi2 : hi2 ≤ w.heap.size) (hl2 : L2.length ≤ 1000000000000) (hfit : V = L2.map Prod.fst) :
    Calls Tryz.prog 19 #[.func (.func 57) #[] #[.pointer (some ⟨bx, 0, none⟩)], .slice X L2.length c2, .int .i64 most] w fun e w' => e = .returned (.bool true) ∧ Below w.heap.size w w' := by
  obtain ⟨w1, hw1⟩ : ∃ w1, w1 = (((w.alloc (.cells #[.slice X L2.length c2] 22)).alloc (.cells #[.int .i64 most] 3)).alloc (.cells #[.bool false] 4)).alloc (.cells #[.int .i64 0] 3) := ⟨_, rfl⟩
  have HX1 : Hid (Ext w w1) := by rw [hw1]; exact Ext.trans (Ext.trans (Ext.trans (ext_alloc _ _) (ext_alloc _ _)) (ext_alloc _ _)) (ext_alloc _ _)
  have HZ1 : Hid (w1.heap.size = w.heap.size + 4) := by rw [hw1]; simp [Hid]
  have HB0 : Hid (Boxed w1 w.heap.size 22 (.slice X L2.length c2)) := by rw [hw1]; exact ext_heap (Ext.trans (Ext.trans (ext_alloc _ _) (ext_alloc _ _)) (ext_alloc _ _)) (heap_at _ _ rfl)
  have HB1 : Hid (Boxed w1 (w.heap.size + 1) 3 (.int .i64 most)) := by rw [hw1]; exact ext_heap (Ext.trans (ext_alloc _ _) (ext_alloc _ _)) (heap_at _ _ (by simp))
  have HB2 : Hid (Boxed w1 (w.heap.size + 2) 4 (.bool false)) := by rw [hw1]; exact ext_heap (ext_alloc _ _) (heap_at _ _ (by simp))
  have HB3 : Hid (Boxed w1 (w.heap.size + 3) 3 (.int .i64 0)) := by rw [hw1]; exact heap_at _ _ (by simp)
  have HSEQ := Lib.hid hseq
  have HC := Lib.hid hC
  have HE2 := Lib.hid h2
  have HHI2 := Lib.hid hhi2
  have HL2 := Lib.hid hl2
  have HFIT := Lib.hid hfit
  have hlen : V.length = L2.length := by rw [hfit, List.length_map]
  have HLEN := Lib.hid hlen
  have hlI : (L2.length : Int) ≤ 1000000000000 := by omega
  have hfn := all_some bx
  clear hseq hC h2 hhi2 hl2 hfit hlen
  have hf2 : Fence.wide.fn 29 := trivial
  refine (callsIn_wide (n := 6)).1 ?_
  refine callsIn_of_wp_marks Tryz.func19 rfl trivial ?_
  simp only [Tryz.ntmps19, List.size_toArray, List.length_cons, List.length_nil, Nat.reduceAdd, Nat.reduceSub, Array.replicate_succ, Array.replicate_zero, List.push_toArray, List.append_toArray, List.nil_append, List.cons_append]
  gi_wp2_with fail
  rw [← hw1]
  clear hw1 hfn
  refine wpIn_overQ rfl enters_tall1 (IterQ.ext HSEQ.out HX1.out) (fun _ => rfl) (TGoI w X L2.length c2 most) (fun D c A => c = .ret ∧ Boxed A (w.heap.size + 2) 4 (.bool true) ∧ Ext w A ∧ ∀ i, D i → w.heap.size + 4 ≤ i) (fun _ _ _ _ h => HC.out _ h.below) ?hI ?hIx ?h0 ?rnd ?hok ?done ?stop
  case hI => exact fun D K k A D' K' A' h hc hD hK => h.chg hc hD hK
  case hIx =>
    rintro D c A1 A2 ⟨rfl, hb, hbl, hd⟩ hc
    exact ⟨rfl, boxed_chg hb hc (fun h => by have := hd _ h; omega), Below.trans hbl (hc.below (fun i h => by have := hd i h; omega) hbl.size), hd⟩
  case h0 =>
    intro A1 D K hx hD hK
    have z1 := HZ1.out
    have hs := hx.size
    exact ⟨Ext.trans HX1.out hx, ext_heap hx HB3.out, ext_heap hx HB2.out, ext_heap hx HB1.out, ext_heap hx HB0.out, by omega, fun i h => by have := hD i h; omega, fun i h => by have := hK i h; omega⟩
  case hok =>
    rintro D1 K1 D2 K2 j x A1 ⟨h1, h2, h3, h4⟩ ⟨od, hd⟩ ⟨ol, hl⟩ hD' _ _ _
    have hfr : ∀ {l : List Nat} {v : Value}, Own B l v A1 → Free D1 v → Free D2 v := fun ho hf b hb hd' => by
      obtain ⟨_, _, cc, hcc⟩ := rowN_lt ho b hb
      rcases hD' b hd' with h | h | h
      · exact hf b hb h
      · rw [h, hd] at hcc; cases hcc
      · rw [h, hl] at hcc; cases hcc
    exact ⟨h1, h2, hfr h2.k h3, hfr h2.v h4⟩
  case rnd =>
    rintro l2 D K k ⟨e, g⟩ A1 rfl hDl hKl hDm hKm hDb hKb hi ⟨hek, hm, hf1', hf2'⟩
    have hk : k < V.length := (List.getElem?_eq_some_iff.1 hek).1
    have hek' : V[k]? = some e := hek
    have HI1 := Lib.hid hi
    have HM1 := Lib.hid hm
    have HFR1 := Lib.hid (And.intro hf1' hf2')
    have HLK := Lib.hid (And.intro hDl hKl)
    have HDK := Lib.hid (And.intro hDb hKb)
    have HK1 := Lib.hid hk
    obtain ⟨q, hq⟩ : ∃ q, L2[k]? = some q := ⟨_, List.getElem?_eq_getElem (by have := HLEN.out; omega)⟩
    have heq : e = q.1 := by
      rw [HFIT.out, List.getElem?_map, hq] at hek'
      injection hek' with h1
      exact h1.symm
    have HQ := Lib.hid hq
    have HEQ := Lib.hid heq
    clear hDl hKl hDm hKm hDb hKb hi hm hf1' hf2' hk hek hek' hq heq
    dsimp only at HFR1
    dsimp only [rowV, Ent.at_]
    gi_wp2
    obtain ⟨A2, hA2⟩ : ∃ A2, A2 = A1.alloc (.cells #[.slice g.kA e.key.length g.kc, .int .i64 e.seq, .int .i64 e.kind, .slice g.vA e.val.length g.vc] 55) := ⟨_, rfl⟩
    rw [← hA2]
    have HX2 : Hid (Ext A1 A2) := by rw [hA2]; exact ext_alloc _ _
    have HBE : Hid (A2.heap[A1.heap.size]? = some (.cells #[.slice g.kA e.key.length g.kc, .int .i64 e.seq, .int .i64 e.kind, .slice g.vA e.val.length g.vc] 55 (0, 0))) := by rw [hA2]; exact heap_at _ _ rfl
    clear hA2
    refine ⟨StepK.of_chg (S := fun _ => False) (Chg.of_ext HX2.out) (fun _ _ _ h => h), fun A3 hc => ?_⟩
    have HCH : Hid (Chg D A1 A3) := ((Chg.of_ext (S := D) HX2.out).trans (hc.mono fun i _ e => by rw [e]; exact HLK.out.1))
    have HI3 := Lib.hid (HI1.out.chg HCH.out (fun i h => .inl h) (fun i h => .inl h))
    have HMI : Hid (Mine B (e, g) A3) := ⟨row_kept HM1.out.k fun b hb => HCH.out.block b (row_lt HM1.out.k b hb).2 (HFR1.out.1 b hb), row_kept HM1.out.v fun b hb => HCH.out.block b (row_lt HM1.out.v b hb).2 (HFR1.out.2 b hb), HM1.out.good⟩
    have HM3 : Hid (Em A3 0 A3.heap.size e g) := HMI.out.em
    have HB3' : Hid (A3.heap[A1.heap.size]? = some (.cells #[.slice g.kA e.key.length g.kc, .int .i64 e.seq, .int .i64 e.kind, .slice g.vA e.val.length g.vc] 55 (0, 0))) :=
      (hc.block _ (Array.getElem?_eq_some_iff.1 HBE.out).1 (fun e => by have := HDK.out.2 _ HLK.out.2; omega)).trans HBE.out
    have HE3 := Lib.hid (HE2.out.below HI3.out.below HHI2.out)
    obtain ⟨b, o, rfl⟩ := HE3.out.base (by have := (List.getElem?_eq_some_iff.1 HQ.out).1; omega)
    obtain ⟨d0, d1, d2, d3⟩ := HE3.out.get HQ.out
    have HRS : Hid (∀ u, Ext A3 u → Calls Tryz.prog 29 #[.agg #[.slice g.kA e.key.length g.kc, .int .i64 e.seq, .int .i64 e.kind, .slice g.vA e.val.length g.vc], .agg #[.slice q.2.kA q.1.key.length q.2.kc, .int .i64 q.1.seq, .int .i64 q.1.kind, .slice q.2.vA q.1.val.length q.2.vc]] u fun x w' => x = .returned (.bool true) ∧ Ext u w') := fun u hu => by
      refine (rsame_any (HM3.out.below hu (Nat.le_refl _)) (((HE3.out.below hu (Nat.le_trans HHI2.out HI3.out.below.size)).each q (List.mem_of_getElem? HQ.out))) hu.size (Nat.le_trans (Nat.le_trans HHI2.out HI3.out.below.size) hu.size)).mono ?_
      rintro x w' ⟨z, hz, rfl, hx⟩
      have : z = true := hz.2 HEQ.out
      subst this
      exact ⟨rfl, hx⟩
    have b0 := HI3.out.num.cell
    have f0 := HI3.out.num.frozen
    have b1 := HI3.out.want.cell
    have b2 := HI3.out.most.cell
    have e0 := cell_of HB3'.out (k := 0) rfl
    have e1 := cell_of HB3'.out (k := 1) rfl
    have e2 := cell_of HB3'.out (k := 2) rfl
    have e3 := cell_of HB3'.out (k := 3) rfl
    have hkl : k < L2.length := (List.getElem?_eq_some_iff.1 HQ.out).1
    have dk : decide ((L2.length : Int) ≤ (k : Int)) = false := by simp; omega
    have dkn : decide (L2.length ≤ k) = false := by simp; omega
    have n1 : (0 : Int) ≤ (k : Int) := by omega
    have n2 : (k : Int) < (L2.length : Int) := by omega
    have HKL := Lib.hid hkl
    have HMIX : Tryz.prog.follows .mixedOrders = true := by kernel_rfl
    clear hc hkl
    gi_wp2
    refine flow_in HMIX (by kernel_rfl) (fun _ _ h => h) [Is (.int .i64 (k : Int)), Is (.slice (some ⟨b, o, none⟩) L2.length c2), Is (.int .i64 (L2.length : Int)), Is (.bool false), Is (.bool false), Is (.agg #[.slice g.kA e.key.length g.kc, .int .i64 e.seq, .int .i64 e.kind, .slice g.vA e.val.length g.vc]), Is (.slice (some ⟨b, o, none⟩) L2.length c2), Is (.int .i64 (k : Int)), Is (.pointer (some ⟨b, o + k * 4, none⟩)), Is (.agg #[.slice q.2.kA q.1.key.length q.2.kc, .int .i64 q.1.seq, .int .i64 q.1.kind, .slice q.2.vA q.1.val.length q.2.vc]), Is (.bool true), Is (.bool false), Is (.bool false)] (by kernel_rfl) (by kernel_rfl) ?mono (fun f1 => ?obl) ?fin
    case mono =>
      simp only [List.forall_mem_cons, List.not_mem_nil, false_imp_iff, implies_true, and_true]
      exact ⟨.is _, .is _, .is _, .is _, .is _, .is _, .is _, .is _, .is _, .is _, .is _, .is _, .is _⟩
    case fin =>
      intro g1 u hu hg
      simp only [puts, Act.put, zq1, zq2, zq3]
      have h12 : g1 12 = .bool false := hg 12 (by decide)
      rw [h12]
      have HU : Hid (Ext A3 u) := Ext.trans (Ext.drew A3) hu
      have b0 := ext_cell HU.out b0
      have b2 := ext_cell HU.out b2
      have f0 : u.frozen? ⟨w.heap.size + 3, 0, none⟩ = false := Boxed.frozen (ext_heap HU.out HI3.out.num)
      have hres := ext_heap HU.out HI3.out.res
      have r0 := Boxed.cell hres
      have rf := Boxed.frozen hres
      have HRES := Lib.hid hres
      clear h12 hg hu e0 e1 e2 e3 d0 d1 d2 d3 hres
      have hi := HI3.out
      have hnum : Boxed u (w.heap.size + 3) 3 (.int .i64 (k : Int)) := ext_heap HU.out hi.num
      have HNUM := Lib.hid hnum
      clear hi hnum
      by_cases hm : (k : Int) + 1 = most
      · have dm : ((k : Int) + 1 == most) = true := by simpa using hm
        clear hm
        gi_wp2
        have hi := HI3.out
        have z1 := HZ1.out
        have hS : Chg (fun i => i = w.heap.size + 3 ∨ i = w.heap.size + 2) A3 ((u.setCell ⟨w.heap.size + 3, 0, none⟩ (.int .i64 ((k : Int) + 1))).setCell ⟨w.heap.size + 2, 0, none⟩ (.bool true)) := ((Chg.of_ext HU.out).trans (Chg.setCell _ _ _ (.inl rfl))).trans (Chg.setCell _ _ _ (.inr rfl))
        have hb2 : Boxed (u.setCell ⟨w.heap.size + 3, 0, none⟩ (.int .i64 ((k : Int) + 1))) (w.heap.size + 2) 4 (.bool false) := (Below.heap_setCell _ _ _ _ (by show w.heap.size + 2 ≠ w.heap.size + 3; omega)).trans HRES.out
        exact ⟨StepK.of_chg hS (fun i _ hk h3 => by have := hi.kz i hk; omega), rfl, hb2.set _, Below.trans hi.below (hS.below (fun i hb => by omega) hi.below.size), hi.dz⟩
      · have dm : ((k : Int) + 1 == most) = false := by simpa using hm
        clear hm
        gi_wp2
        have hi := HI3.out
        have hS : Chg (fun i => i = w.heap.size + 3) A3 (u.setCell ⟨w.heap.size + 3, 0, none⟩ (.int .i64 ((k : Int) + 1))) := (Chg.of_ext HU.out).trans (Chg.setCell _ _ _ rfl)
        have z1 := HZ1.out
        exact ⟨StepK.of_chg hS (fun i _ hk h3 => by have := hi.kz i hk; omega), Below.trans hi.below (hS.below (fun i hb => by omega) hi.below.size), HNUM.out.set _, boxed_chg hi.res hS (fun hb => by omega),
          boxed_chg hi.most hS (fun hb => by omega), boxed_chg hi.want hS (fun hb => by omega), Nat.le_trans hi.z hS.size, hi.dz, hi.kz⟩
    case obl =>
      refine ⟨fun u hu hd => ?_, ?_⟩
      · have hu2 := Ext.trans (Ext.drew A3) hu
        have q1 := ext_cell hu2 b0
        go_simp
        exact ⟨Ext.refl _, rfl⟩
      refine ⟨fun u hu hd => ?_, ?_⟩
      · simp only [Act.put, zq1, zq2, zq3]
        have hu2 := Ext.trans (Ext.drew A3) hu
        have q1 := ext_cell hu2 b1
        go_simp
        exact ⟨Ext.refl _, rfl⟩
      refine ⟨fun u hu hd => ?_, ?_⟩
      · simp only [Act.put, zq1, zq2, zq3]
        have e1 : f1 1 = (.slice (some ⟨b, o, none⟩) L2.length c2) := hd 1 (by kernel_rfl)
        go_simp
        exact ⟨Ext.refl _, rfl⟩
      refine ⟨fun u hu hd => ?_, ?_⟩
      · simp only [Act.put, zq1, zq2, zq3]
        have e0 : f1 0 = (.int .i64 (k : Int)) := hd 0 (by kernel_rfl)
        have e2 : f1 2 = (.int .i64 (L2.length : Int)) := hd 2 (by kernel_rfl)
        go_simp
        exact ⟨Ext.refl _, rfl⟩
      refine ⟨fun u hu hd => ?_, ?_⟩
      · simp only [Act.put, zq1, zq2, zq3]
        have e3 : f1 3 = (.bool false) := hd 3 (by kernel_rfl)
        go_simp
        exact ⟨Ext.refl _, rfl⟩
      refine ⟨fun u hu hd => ?_, ?_⟩
      · simp only [Act.put, zq1, zq2, zq3]
        have e4' : f1 4 = .bool false := hd 4 (by kernel_rfl)
        have hu2 := Ext.trans (Ext.drew A3) hu
        have q0 := ext_cell hu2 e0
        have q1 := ext_cell hu2 e1
        have q2 := ext_cell hu2 e2
        have q3 := ext_cell hu2 e3
        go_simp
        exact ⟨Ext.refl _, rfl⟩
      refine ⟨fun u hu hd => ?_, ?_⟩
      · simp only [Act.put, zq1, zq2, zq3]
        have e4' : f1 4 = .bool false := hd 4 (by kernel_rfl)
        have hu2 := Ext.trans (Ext.drew A3) hu
        have q1 := ext_cell hu2 b1
        go_simp
        exact ⟨Ext.refl _, rfl⟩
      refine ⟨fun u hu hd => ?_, ?_⟩
      · simp only [Act.put, zq1, zq2, zq3]
        have e4' : f1 4 = .bool false := hd 4 (by kernel_rfl)
        have hu2 := Ext.trans (Ext.drew A3) hu
        have q1 := ext_cell hu2 b0
        go_simp
        exact ⟨Ext.refl _, rfl⟩
      refine ⟨fun u hu hd => ?_, ?_⟩
      · simp only [Act.put, zq1, zq2, zq3]
        have e4' : f1 4 = .bool false := hd 4 (by kernel_rfl)
        have e6 : f1 6 = (.slice (some ⟨b, o, none⟩) L2.length c2) := hd 6 (by kernel_rfl)
        have e7 : f1 7 = (.int .i64 (k : Int)) := hd 7 (by kernel_rfl)
        go_simp
        exact ⟨Ext.refl _, rfl⟩
      refine ⟨fun u hu hd => ?_, ?_⟩
      · simp only [Act.put, zq1, zq2, zq3]
        have e4' : f1 4 = .bool false := hd 4 (by kernel_rfl)
        have e8 : f1 8 = (.pointer (some ⟨b, o + k * 4, none⟩)) := hd 8 (by kernel_rfl)
        have hu2 := Ext.trans (Ext.drew A3) hu
        have q0 := ext_cell hu2 d0
        have q1 := ext_cell hu2 d1
        have q2 := ext_cell hu2 d2
        have q3 := ext_cell hu2 d3
        go_simp
        exact ⟨Ext.refl _, rfl⟩
      refine ⟨fun u hu hd => ?_, ?_⟩
      · simp only [Act.put, zq1, zq2, zq3]
        have e4' : f1 4 = .bool false := hd 4 (by kernel_rfl)
        have e5 : f1 5 = (.agg #[.slice g.kA e.key.length g.kc, .int .i64 e.seq, .int .i64 e.kind, .slice g.vA e.val.length g.vc]) := hd 5 (by kernel_rfl)
        have e9 : f1 9 = (.agg #[.slice q.2.kA q.1.key.length q.2.kc, .int .i64 q.1.seq, .int .i64 q.1.kind, .slice q.2.vA q.1.val.length q.2.vc]) := hd 9 (by kernel_rfl)
        have hu2 := Ext.trans (Ext.drew A3) hu
        go_simp
        refine (HRS.out u hu2).mono ?_
        rintro x w9 ⟨rfl, hx9⟩
        exact ⟨_, rfl, hx9, rfl⟩
      refine ⟨fun u hu hd => ?_, ?_⟩
      · simp only [Act.put, zq1, zq2, zq3]
        have e4' : f1 4 = .bool false := hd 4 (by kernel_rfl)
        have e10 : f1 10 = (.bool true) := hd 10 (by kernel_rfl)
        go_simp
        exact ⟨Ext.refl _, rfl⟩
      refine ⟨fun u hu hd => ?_, ?_⟩
      · simp only [Act.put, zq1, zq2, zq3]
        have e4' : f1 4 = .bool false := hd 4 (by kernel_rfl)
        have e11 : f1 11 = (.bool false) := hd 11 (by kernel_rfl)
        go_simp
        exact ⟨Ext.refl _, rfl⟩
      trivial
  case done =>
    rintro D' k W' D0 K0 hDl _ _ hi hdn hD
    have hdn2 : k = V.length := hdn
    rw [hdn2, HLEN.out] at hi
    have HDL := Lib.hid hDl
    have HDD := Lib.hid hD
    have HI := Lib.hid hi
    have q0 := hi.num.cell
    have q1 := hi.want.cell
    have q2 := hi.res.cell
    have f2 := hi.res.frozen
    clear hDl hi hdn hdn2 hD
    gi_wp2
    have hne : D' ≠ w.heap.size + 2 := by have h1 := HDL.out; have h2 := HZ1.out; omega
    have HD2 : Hid ((W'.setCell ⟨w.heap.size + 2, 0, none⟩ (.bool true)).heap[D']? = some (.deferred (some []))) := (Below.heap_setCell _ _ _ _ hne).trans HDD.out
    have HBR : Hid (Boxed (W'.setCell ⟨w.heap.size + 2, 0, none⟩ (.bool true)) (w.heap.size + 2) 4 (.bool true)) := HI.out.res.set _
    have HBW : Hid (Below w.heap.size w (W'.setCell ⟨w.heap.size + 2, 0, none⟩ (.bool true))) := Below.setCell HI.out.below (show w.heap.size ≤ w.heap.size + 2 by omega) _
    refine ⟨by simp, .inl ⟨_, _, rfl, run_takeDeferred HD2.out, ?_⟩⟩
    refine ⟨_, results_cell_bool Tryz.results19 _ _ (w.heap.size + 2) true rfl (Boxed.cell (boxed_chg HBR.out (putObj_chg _ D' _) (fun e => hne e.symm))), ⟨rfl, ?_⟩⟩
    exact Below.trans HBW.out ((putObj_chg _ D' _).below (fun i e => by have h1 := HDL.out; have h2 := HZ1.out; omega) HBW.out.size)
  case stop =>
    rintro D0 D' c W' hDl _ ⟨rfl, hbr, hbl, _⟩ hD
    have HDL := Lib.hid hDl
    have HBR := Lib.hid hbr
    have HBW := Lib.hid hbl
    have HDD := Lib.hid hD
    clear hDl hbr hbl hD
    gi_wp2
    have hne : D' ≠ w.heap.size + 2 := by have h1 := HDL.out; have h2 := HZ1.out; omega
    refine ⟨by simp, .inl ⟨_, _, rfl, run_takeDeferred HDD.out, ?_⟩⟩
    refine ⟨_, results_cell_bool Tryz.results19 _ _ (w.heap.size + 2) true rfl (Boxed.cell (boxed_chg HBR.out (putObj_chg _ D' _) (fun e => hne e.symm))), ⟨rfl, ?_⟩⟩
    exact Below.trans HBW.out ((putObj_chg _ D' _).below (fun i e => by have h1 := HDL.out; have h2 := HZ1.out; omega) HBW.out.size)
end Go.Proofs.YthhgjeeangepaaaGreat
namespace Go.Proofs.YthhgjeeangepaaaGreat
open Go.ChangeShapes Go.WideShapes Go.ChangeAt Go.RowKit
def TWAns (w : World) (L : List Ent) (x : Ending) (w' : World) : Prop :=
  Ext w w' ∧ ((MayT L ∧ ∃ C A c, C.flatten = L ∧ Cuts C ∧ x = .returned (.tuple #[.slice A (tb C L).length c, .int .i64 0]) ∧ Own w.heap.size (tb C L) (.slice A (tb C L).length c) w') ∨ (¬ MayT L ∧ x = .returned (.tuple #[.slice none 0 0, .int .i64 2])))
set_option maxRecDepth 100000 in
set_option maxHeartbeats 4000000 in
theorem twrite_any {w : World} {lo hi c : Nat} {A : Option Addr} {L : List (Ent × Hd)} (h : Es w lo hi A L) (hhi : hi ≤ w.heap.size) (hlc : L.length ≤ c) (hlen : L.length ≤ 1000000000000) :
    Calls Tryz.prog 12 #[.slice A L.length c] w (TWAns w (L.map Prod.fst)) := by
  have HM := Lib.hid (made_any h hhi hlc hlen)
  clear h hhi hlc hlen
  go_enter Tryz.func12, Tryz.ntmps12
  go_wp2_with fail
  refine HM.out.mono ?_
  rintro x w2 ⟨hx2, (⟨hm, C, bv_, pv_, fv_, hf, hc, rfl, ht⟩ | ⟨hm, rfl⟩)⟩
  · obtain ⟨PA, pc, P, rfl, _, _, _⟩ := ht.ex
    obtain ⟨TA, tc, rfl⟩ := ht.bytes.slice
    obtain ⟨FA, fc, rfl⟩ := ht.filt.slice
    have HMT := Lib.hid hm
    have HX2 := Lib.hid hx2
    have HC := Lib.hid (And.intro hf hc)
    have HO := Lib.hid ht.bytes
    unfold tbcells
    clear hm hx2 hf hc ht
    go_wp2_with fail
    go_ret2
    exact ⟨Ext.trans HX2.out (ext_alloc _ _), .inl ⟨HMT.out, C, TA, tc, HC.out.1, HC.out.2, rfl, HO.out.below (ext_alloc _ _)⟩⟩
  · have HMT := Lib.hid hm
    have HX2 := Lib.hid hx2
    unfold tbcells
    clear hm hx2
    go_wp2_with fail
    go_ret2
    exact ⟨Ext.trans HX2.out (ext_alloc _ _), .inr ⟨HMT.out, rfl⟩⟩
end Go.Proofs.YthhgjeeangepaaaGreat
namespace Go.Proofs.YthhgjeeangepaaaGreat
open Go.ChangeShapes Go.WideShapes Go.ChangeAt Go.RowKit
def NoT (w : World) (v : Value) : Prop := v = .pointer none ∨ ∃ g, v = .pointer (some ⟨g, 0, none⟩) ∧ w.heap[g]? = some (.cells #[.slice none 0 0, .slice none 0 0, .slice none 0 0, .slice none 0 0, .slice none 0 0, .bool false] 76 (0, 0))
theorem NoT.ext {w w' : World} {v : Value} (h : NoT w v) (hx : Ext w w') : NoT w' v := by
  rcases h with h | ⟨g, h1, h2⟩
  · exact .inl h
  · exact .inr ⟨g, h1, ext_heap hx h2⟩
theorem NoT.ptr {w : World} {v : Value} (h : NoT w v) : ∃ p, v = .pointer p := by
  rcases h with h | ⟨g, h1, _⟩
  · exact ⟨_, h⟩
  · exact ⟨_, h1⟩
set_option maxRecDepth 100000 in
theorem nnone_any {w : World} {v : Value} (h : NoT w v) : Calls Tryz.prog 58 #[v] w fun x w' => x = .returned (.bool true) ∧ w' = w := by
  rcases h with rfl | ⟨g, rfl, hb⟩
  · go_enter Tryz.func58, Tryz.ntmps58
    go_wp2_with fail
    go_ret
    exact ⟨rfl, rfl⟩
  · have c1 := cell_of hb (k := 1) rfl
    go_enter Tryz.func58, Tryz.ntmps58
    go_wp2_with fail
    go_ret
    exact ⟨rfl, rfl⟩
theorem nblocks_any {w : World} {v : Value} (h : NoT w v) : Calls Tryz.prog 22 #[v] w fun x w' => x = .returned (.int .i64 0) ∧ w' = w := by
  have HN := Lib.hid (nnone_any h)
  obtain ⟨p, rfl⟩ := h.ptr
  clear h
  go_enter Tryz.func22, Tryz.ntmps22
  go_wp2_with fail
  refine HN.out.mono ?_
  rintro x w1 ⟨rfl, rfl⟩
  go_wp2_with fail
  go_ret
  exact ⟨rfl, rfl⟩
theorem nbytes_any {w : World} {v : Value} (h : NoT w v) : Calls Tryz.prog 24 #[v] w fun x w' => x = .returned (.slice none 0 0) ∧ w' = w := by
  have HN := Lib.hid (nnone_any h)
  obtain ⟨p, rfl⟩ := h.ptr
  clear h
  go_enter Tryz.func24, Tryz.ntmps24
  go_wp2_with fail
  refine HN.out.mono ?_
  rintro x w1 ⟨rfl, rfl⟩
  go_wp2_with fail
  go_ret
  exact ⟨rfl, rfl⟩
set_option maxRecDepth 100000 in
theorem nmay_any {w : World} {v : Value} (h : NoT w v) (A : Option Addr) (n c : Nat) : Calls Tryz.prog 30 #[v, .slice A n c] w fun x w' => x = .returned (.bool false) ∧ w' = w := by
  have HN := Lib.hid (nnone_any h)
  obtain ⟨p, rfl⟩ := h.ptr
  clear h
  go_enter Tryz.func30, Tryz.ntmps30
  go_wp2_with fail
  refine HN.out.mono ?_
  rintro x w1 ⟨rfl, rfl⟩
  go_wp2_with fail
  go_ret
  exact ⟨rfl, rfl⟩
theorem nclip_any {w : World} {v : Value} (h : NoT w v) (A B : Option Addr) (n c m d : Nat) (e : Bool) : Calls Tryz.prog 40 #[v, .slice A n c, .slice B m d, .bool e] w fun x w' => x = .returned (.pointer none) ∧ w' = w := by
  have HN := Lib.hid (nnone_any h)
  obtain ⟨p, rfl⟩ := h.ptr
  clear h
  go_enter Tryz.func40, Tryz.ntmps40
  go_wp2_with fail
  refine HN.out.mono ?_
  rintro x w1 ⟨rfl, rfl⟩
  go_wp2_with fail
  go_ret
  exact ⟨rfl, rfl⟩
theorem nnear_any {w : World} {v : Value} (h : NoT w v) : Calls Tryz.prog 73 #[v] w fun x w' => x = .returned (.slice none 0 0) ∧ w' = w := by
  have HN := Lib.hid (nnone_any h)
  obtain ⟨p, rfl⟩ := h.ptr
  clear h
  go_enter Tryz.func73, Tryz.ntmps73
  go_wp2_with fail
  refine HN.out.mono ?_
  rintro x w1 ⟨rfl, rfl⟩
  go_wp2_with fail
  go_ret
  exact ⟨rfl, rfl⟩
set_option maxRecDepth 100000 in
theorem nget_any {w : World} {v : Value} (h : NoT w v) (A : Option Addr) (n c : Nat) (s : Int) : Calls Tryz.prog 27 #[v, .slice A n c, .int .i64 s] w fun x w' => x = .returned (.tuple #[noE, .int .i64 1]) ∧ Ext w w' := by
  obtain ⟨w1, hw1⟩ : ∃ w1, w1 = w.alloc (.cells #[.slice none 0 0, .int .i64 0, .int .i64 0, .slice none 0 0] 55) := ⟨_, rfl⟩
  have HX1 : Hid (Ext w w1) := by rw [hw1]; exact ext_alloc _ _
  have HB1 : Hid (w1.heap[w.heap.size]? = some (.cells #[.slice none 0 0, .int .i64 0, .int .i64 0, .slice none 0 0] 55 (0, 0))) := by rw [hw1]; exact heap_at _ _ rfl
  have HN := Lib.hid (nnone_any (h.ext HX1.out))
  obtain ⟨p, rfl⟩ := h.ptr
  clear h
  go_enter Tryz.func27, Tryz.ntmps27
  go_wp2_with fail
  rw [← hw1]
  clear hw1
  refine HN.out.mono ?_
  rintro x w0 ⟨rfl, hw0⟩
  have hw0 := hw0.symm
  subst hw0
  have b0 := cell_of HB1.out (k := 0) rfl
  have b1 := cell_of HB1.out (k := 1) rfl
  have b2 := cell_of HB1.out (k := 2) rfl
  have b3 := cell_of HB1.out (k := 3) rfl
  have z0 := frozen_four (j := 0) HB1.out
  have z1 := frozen_four (j := 1) HB1.out
  have z2 := frozen_four (j := 2) HB1.out
  have z3 := frozen_four (j := 3) HB1.out
  go_wp2_with fail
  exact entry_ret rfl rfl rfl rfl (set_four HB1.out) ⟨rfl, get_four HX1.out _ _ _ _⟩
end Go.Proofs.YthhgjeeangepaaaGreat
namespace Go.Proofs.YthhgjeeangepaaaGreat
open Go.ChangeShapes Go.WideShapes Go.ChangeAt Go.RowKit Go.Lib Go.Joins
theorem unum (n : Int) (w : World) : Calls Tryz.prog 15 #[.int .i64 n] w fun e w' => e = .returned (.int .i64 n) ∧ w = w' := by
  go_enter Tryz.func15, Tryz.ntmps15
  go_wp2
  go_ret
  exact ⟨rfl, rfl⟩
set_option maxRecDepth 100000 in
set_option maxHeartbeats 2000000 in
theorem uput_any (k : List Nat) (s : Int) (hk : ∀ x ∈ k, x < 256) (hkl : k.length ≤ 1000) (h1 : -9223372036854775808 ≤ s) (h2 : s ≤ 9223372036854775807) (w : World) :
    Calls Tryz.prog 37 #[.string (tx k), .int .i64 s] w (LitAns w ⟨k, s, 1, [118]⟩) := by
  obtain ⟨w1, hw1⟩ : ∃ w1, w1 = w.alloc (.cells #[.slice none 0 0, .int .i64 0, .int .i64 0, .slice none 0 0] 55) := ⟨_, rfl⟩
  have HX : Hid (Ext w w1) := by rw [hw1]; exact ext_alloc _ _
  have HBX : Hid (w1.heap[w.heap.size]? = some (.cells #[.slice none 0 0, .int .i64 0, .int .i64 0, .slice none 0 0] 55 (0, 0))) := by rw [hw1]; exact heap_at _ _ rfl
  have HZ : Hid (w1.heap.size = w.heap.size + 1) := by rw [hw1]; simp [Hid]
  obtain ⟨A2, c2, w2, e2, x2, b2⟩ := conv_new w1 k hk hkl
  have cv1 : (convert 26 26 (.slice (some ⟨w2.heap.size, 0, none⟩) 1 1)).run Tryz.prog (w2.alloc (.cells #[.int .u8 118] 5)) = .ok (.slice (some ⟨w2.heap.size, 0, none⟩) 1 1) (w2.alloc (.cells #[.int .u8 118] 5 (1, 2))) := run_convert_bytes_const_at _ _ _ _ _ _ _ (rfl) Tryz.underlying26 Tryz.underlying5
  obtain ⟨w3, hw3⟩ : ∃ w3, w3 = w2.alloc (.cells #[.int .u8 118] 5 (1, 2)) := ⟨_, rfl⟩
  have hx3 : Ext w2 w3 := by rw [hw3]; exact ext_alloc _ _
  have hb3 : Bs w3 w2.heap.size w3.heap.size (.slice (some ⟨w2.heap.size, 0, none⟩) 1 1) [118] := by
    rw [hw3]; exact (bs_mark w2 [118] (by simp) (1, 2)).wide (Nat.le_refl _) (by simp)
  have hb := ext_heap (Ext.trans x2 hx3) HBX.out
  rw [← hw3] at cv1
  clear hw3
  have q0 := cell_of hb (k := 0) rfl
  have q1 := cell_of hb (k := 1) rfl
  have q2 := cell_of hb (k := 2) rfl
  have q3 := cell_of hb (k := 3) rfl
  have z0 := frozen_four hb (j := 0)
  have z1 := frozen_four hb (j := 1)
  have z2 := frozen_four hb (j := 2)
  have z3 := frozen_four hb (j := 3)
  have HB := Lib.hid hb
  have HK := Lib.hid ((b2.below hx3 (Nat.le_refl _)).wide (Nat.le_refl _) hx3.size)
  have HV := Lib.hid (hb3.wide (lo' := w1.heap.size) x2.size (Nat.le_refl _))
  have HX3 : Hid (Ext w w3) := Ext.trans HX.out (Ext.trans x2 hx3)
  have HBY := Lib.hid hk
  have HS := Lib.hid (And.intro h1 h2)
  clear x2 hx3 b2 hb3 hb hk hkl h1 h2
  go_enter Tryz.func37, Tryz.ntmps37
  rw [hw1] at e2
  go_wp2_with fail
  refine entry_ret1 (p := 4) (by kernel_rfl) rfl rfl (set_four HB.out) ?_
  have far : ∀ {l : List Nat} {v : Value} {u : World} {p : Addr} {x : Value}, p.block < w1.heap.size → Bs u w1.heap.size w3.heap.size v l → Bs (u.setCell p x) w1.heap.size w3.heap.size v l := fun hp h => h.setCell (.inl hp) _
  have hlt : w.heap.size < w1.heap.size := by rw [HZ.out]; omega
  refine ⟨Below.setCell (Below.setCell (Below.setCell (Below.setCell HX3.out (Nat.le_refl _) _) (Nat.le_refl _) _) (Nat.le_refl _) _) (Nat.le_refl _) _, ⟨A2, c2, some ⟨w2.heap.size, 0, none⟩, 1⟩, rfl, ⟨?_, ?_, HBY.out, (fun x hx => by have h9 : x ∈ [118] := hx; rw [List.mem_singleton] at h9; omega), HS.out.1, HS.out.2, (by show (-9223372036854775808 : Int) ≤ _; dsimp only; omega), (by dsimp only; omega)⟩⟩
  · exact (far hlt (far hlt (far hlt (far hlt HK.out)))).wide HX.out.size (by simp [World.setCell])
  · exact (far hlt (far hlt (far hlt (far hlt HV.out)))).wide HX.out.size (by simp [World.setCell])
def uE (k : Nat) (s : Int) : Ent := ⟨[k], s, 1, [118]⟩
theorem ulit_any {e : Ent} {k : Nat} {kb : ByteArray} {s : Int} (he : e = uE k s) (hkb : kb = tx [k]) (hk : k < 256) (h1 : 0 ≤ s) (h2 : s ≤ 9000) (w : World) :
    Calls Tryz.prog 37 #[.string kb, .int .i64 s] w (LitAns w e) := by
  subst he hkb
  exact uput_any [k] s (fun x hx => by rw [List.mem_singleton] at hx; omega) (by simp) (by omega) (by omega) w
theorem three_es {u : World} {b : Nat} {e e' e2 : Ent} {g g' g2 : Hd} (h : u.heap[b]? = some (.cells (ecells (e, g) ++ (ecells (e', g') ++ ecells (e2, g2))).toArray 55 (0, 0))) (hm : Em u 0 u.heap.size e g) (hm' : Em u 0 u.heap.size e' g') (hm2 : Em u 0 u.heap.size e2 g2) : Es u 0 u.heap.size (some ⟨b, 0, none⟩) [(e, g), (e', g'), (e2, g2)] := by
  refine ⟨.inr ⟨b, 0, rfl, Nat.zero_le _, (Array.getElem?_eq_some_iff.1 h).1, fun i x hx => ?_⟩, fun p hp => ?_⟩
  · rw [Nat.zero_add]
    exact cell_of h (by simpa [erow] using hx)
  · simp only [List.mem_cons, List.not_mem_nil, or_false] at hp
    rcases hp with rfl | rfl | rfl
    · exact hm
    · exact hm'
    · exact hm2
def uT : List Ent := [uE 97 5, uE 97 3, uE 98 9]
theorem umay : MayT uT := by
  refine ⟨by decide, by decide, fun j a b ha hb => ?_, by decide⟩
  rcases j with _ | _ | _ | j
  · simp [uT] at ha hb; subst ha hb; decide
  · simp [uT] at ha hb; subst ha hb; decide
  · simp [uT] at hb
  · simp [uT] at hb
theorem uno : ¬ MayT [uE 98 1, uE 97 1] := fun h => by
  have := h.2.2.1 0 (uE 98 1) (uE 97 1) rfl rfl
  exact absurd this (by decide)
theorem uno0 : ¬ MayT [] := fun h => absurd h.1 (by decide)
theorem upiece : Piece uT := by
  refine ⟨by decide, fun m h1 h2 => ?_⟩
  have h3 : uT.length = 3 := rfl
  rcases m with _ | _ | _ | m
  · omega
  · simp [wr, upto, pieceOf, kform, ahOf, ats, be4, uT, uE, shr, bytesForm, form_lo, List.range, List.range.loop, List.flatMap_cons, List.filter]
  · simp [wr, upto, pieceOf, kform, ahOf, ats, be4, uT, uE, shr, bytesForm, form_lo, List.range, List.range.loop, List.flatMap_cons, List.filter]
  · omega
theorem ucuts : Cuts [uT] := ⟨upiece, fun _ _ h => (by cases h), trivial⟩
theorem ucut {C : List (List Ent)} (h : Cuts C) (hf : C.flatten = uT) : C = [uT] := cut_unique h ucuts (by rw [hf]; rfl)
theorem unot (L : List Ent) : ¬ IsT [] L := fun ⟨_, C, _, _, h⟩ => by
  have := tb_len C L
  rw [h] at this
  simp at this
theorem ulen {C : List (List Ent)} {L : List Ent} (h : MayT L) (hc : Cuts C) (hf : C.flatten = L) : (tb C L).length ≤ 1000000000 := by
  have := (few h hc hf).a
  rw [tb_len]; omega
theorem ulen1 : (tb [uT] uT).length ≤ 1000000000 := ulen umay ucuts rfl
theorem utb_lt {C : List (List Ent)} {L : List Ent} (hm : MayT L) (hc : Cuts C) (hf : C.flatten = L) (hb : ∀ e ∈ L, (∀ x ∈ e.key, x < 256) ∧ ∀ x ∈ e.val, x < 256) : ∀ x ∈ tb C L, x < 256 := by
  subst hf
  intro x hx
  unfold tb at hx
  rcases List.mem_append.1 hx with hx | hx
  · exact ahd_lt hc hm.2.2.2 hm.2.2.1 hb _ x hx
  · rcases List.mem_append.1 hx with hx | hx
    · unfold foot24 at hx
      simp only [List.mem_append] at hx
      rcases hx with hx | hx | hx | hx | hx | hx <;> exact be4_lt _ x hx
    · exact be4_lt _ x hx
theorem open_is {w w' : World} {C : List (List Ent)} {L : List Ent} {x : Ending} (hm : MayT L) (hc : Cuts C) (hf : C.flatten = L) (h : TOpenAns w (tb C L) x w') : Ext w w' ∧ ∃ g, x = .returned (.tuple #[.pointer (some ⟨g, 0, none⟩), .int .i64 0]) ∧ TV w' g C L [] [] false := by
  obtain ⟨hx, (⟨C', L', g, h1, h2, h3, h4, h5, rfl, _, h6⟩ | ⟨hno, _⟩)⟩ := h
  · have hL : L' = L := IsT.unique (b := tb C L) ⟨h1, C', h3, h2, h4⟩ ⟨hm, C, hf, hc, rfl⟩
    subst hL
    have hC : C' = C := cut_unique h2 hc (by rw [h3, hf])
    subst hC
    exact ⟨hx, g, rfl, TV.whole h1 h2 h3 h5 h6⟩
  · exact absurd ⟨hm, C, hf, hc, rfl⟩ (hno L)
theorem open_not {w w' : World} {b : List Nat} {x : Ending} (hn : ∀ L, ¬ IsT b L) (h : TOpenAns w b x w') : Ext w w' ∧ x = .returned (.tuple #[.pointer none, .int .i64 10]) := by
  obtain ⟨hx, (⟨C', L', g, h1, h2, h3, h4, h5, rfl, _, h6⟩ | ⟨_, rfl⟩)⟩ := h
  · exact absurd ⟨h1, C', h3, h2, h4⟩ (hn L')
  · exact ⟨hx, rfl⟩
theorem get_is {w w' : World} {L : List Ent} {fr tt key : List Nat} {en : Bool} {s : Int} {x : Ending} (h : TGetAns w L (hasV fr tt en key && Bl.mayB (Bl.mk (keysT L)) key) key s x w') : Ext w w' ∧ match (inV fr tt en L).find? (seenE key s) with
    | some e => ∃ g : Hd, x = .returned (.tuple #[e.at_ g, .int .i64 0]) ∧ Em w' 0 w'.heap.size e g
    | none => x = .returned (.tuple #[noE, .int .i64 6]) := by
  obtain ⟨h1, h2⟩ := h
  have h3 := get_view fr tt en key s L
  rw [h3] at h2
  exact ⟨h1, h2⟩
theorem mark_ps {B lo hi : Nat} {u u' : World} {A : Option Addr} {P : List (Pl × PHd)} (h : (MarkR B).r u u') (hP : Ps u lo hi A P) : Ps u' lo hi A P := by
  refine ⟨?_, fun p hp => mark_bs h (hP.each p hp)⟩
  rcases hP.outer with h0 | ⟨b, o, e, h1, h2, h3⟩
  · exact .inl h0
  · exact .inr ⟨b, o, e, h1, h2, fun i x hx => mark_cell h (h3 i x hx)⟩
theorem TV.mark {B : Nat} {u u' : World} {g : Nat} {C : List (List Ent)} {L : List Ent} {fr tt : List Nat} {en : Bool} (h : TV u g C L fr tt en) (hm : (MarkR B).r u u') : TV u' g C L fr tt en := by
  obtain ⟨fA, fc, tA, tc, ⟨bv_, fv_, PA, pc, P, h1, h2, h3, h4, h5, h6⟩, h7, h8⟩ := h.at_
  have hz := hm.2.2.2.1
  exact ⟨h.may, h.cuts, h.flat, ⟨fA, fc, tA, tc, ⟨bv_, fv_, PA, pc, P, mark_heap hm h1 (.inr fun _ _ e => by injection e with _ e _; exact absurd e (by decide)), (mark_bs hm h2).wide (Nat.le_refl _) hz, (mark_bs hm h3).wide (Nat.le_refl _) hz, (mark_ps hm h4).wide (Nat.le_refl _) hz, h5, h6⟩, (mark_bs hm h7).wide (Nat.le_refl _) hz, (mark_bs hm h8).wide (Nat.le_refl _) hz⟩, h.bf, h.bt, h.good⟩
def ViewF (C : List (List Ent)) (L : List Ent) (fr tt : List Nat) (en : Bool) (v : Value) (u : World) : Prop := ∃ g, v = .pointer (some ⟨g, 0, none⟩) ∧ TV u g C L fr tt en
theorem Fr.Mono.view (B : Nat) (C : List (List Ent)) (L : List Ent) (fr tt : List Nat) (en : Bool) : Fr.Mono (MarkR B) (ViewF C L fr tt en) := fun _ _ _ ⟨g, h, hv⟩ hu => ⟨g, h, hv.mark hu⟩
end Go.Proofs.YthhgjeeangepaaaGreat
namespace Go.Proofs.YthhgjeeangepaaaGreat
open Go.ChangeShapes Go.WideShapes Go.ChangeAt Go.RowKit Go.Lib Go.Joins
theorem uwrite0 (w : World) : Calls Tryz.prog 12 #[.slice none 0 0] w fun x w' => Ext w w' ∧ x = .returned (.tuple #[.slice none 0 0, .int .i64 2]) := by
  refine (twrite_any (L := []) (lo := 0) (hi := 0) (c := 0) ⟨Sl.nil _ _ _ _, fun p hp => by cases hp⟩ (Nat.zero_le _) (Nat.le_refl _) (by simp)).mono ?_
  rintro x w' ⟨hx, (⟨hm, _⟩ | ⟨_, rfl⟩)⟩
  · exact absurd hm uno0
  · exact ⟨hx, rfl⟩
theorem uwrite2 {w : World} {A : Option Addr} {g g' : Hd} (h : Es w 0 w.heap.size A [(uE 98 1, g), (uE 97 1, g')]) : Calls Tryz.prog 12 #[.slice A 2 2] w fun x w' => Ext w w' ∧ x = .returned (.tuple #[.slice none 0 0, .int .i64 2]) := by
  refine (twrite_any (c := 2) h (Nat.le_refl _) (Nat.le_refl _) (by simp)).mono ?_
  rintro x w' ⟨hx, (⟨hm, _⟩ | ⟨_, rfl⟩)⟩
  · exact absurd hm uno
  · exact ⟨hx, rfl⟩
theorem uwrite3 {w : World} {A : Option Addr} {g g' g2 : Hd} (h : Es w 0 w.heap.size A [(uE 97 5, g), (uE 97 3, g'), (uE 98 9, g2)]) : Calls Tryz.prog 12 #[.slice A 3 3] w fun x w' => Ext w w' ∧ ∃ B c, x = .returned (.tuple #[.slice B (tb [uT] uT).length c, .int .i64 0]) ∧ Own w.heap.size (tb [uT] uT) (.slice B (tb [uT] uT).length c) w' := by
  refine (twrite_any (c := 3) h (Nat.le_refl _) (Nat.le_refl _) (by simp)).mono ?_
  rintro x w' ⟨hx, (⟨_, C, B, c, hf, hc, rfl, ho⟩ | ⟨hno, _⟩)⟩
  · have hC : C = [uT] := ucut hc hf
    subst hC
    exact ⟨hx, B, c, rfl, ho⟩
  · exact absurd umay hno
theorem ugood : ∀ e ∈ uT, (∀ x ∈ e.key, x < 256) ∧ ∀ x ∈ e.val, x < 256 := by decide
theorem uopen {w : World} {lo hi c : Nat} {A : Option Addr} (hv : Bs w lo hi (.slice A (tb [uT] uT).length c) (tb [uT] uT)) (hhi : hi ≤ w.heap.size) : Calls Tryz.prog 17 #[.slice A (tb [uT] uT).length c] w fun x w' => Ext w w' ∧ ∃ g, x = .returned (.tuple #[.pointer (some ⟨g, 0, none⟩), .int .i64 0]) ∧ TV w' g [uT] uT [] [] false :=
  (topen_any hv hhi (utb_lt umay ucuts rfl ugood) ulen1).mono fun _ _ h => open_is umay ucuts rfl h
theorem uopen0 (w : World) : Calls Tryz.prog 17 #[.slice none 0 0] w fun x w' => Ext w w' ∧ x = .returned (.tuple #[.pointer none, .int .i64 10]) :=
  (topen_any (b := []) (Bs.nil w 0 0) (Nat.zero_le _) (by simp) (by simp)).mono fun _ _ h => open_not unot h
set_option maxRecDepth 100000 in
set_option maxHeartbeats 8000000 in
theorem uknown_any (w : World) : Calls Tryz.prog 10 #[] w fun e w' => e = .returned (.bool true) ∧ Below w.heap.size w w' := by
  go_enter Tryz.func10, Tryz.ntmps10
  go_wp2_with fail
  refine (uwrite0 w).mono ?_
  rintro x w1 ⟨hx1, rfl⟩
  have HX1 : Hid (Ext w w1) := hx1
  clear hx1
  go_wp2_with fail
  refine Calls.mono (ulit_any (e := (uE 98 1)) (k := 98) (s := 1) rfl rfl (by decide) (by decide) (by decide) w1) ?_
  rintro e p1 ⟨hx_p1, g_p1, rfl, hm_p1⟩
  have HX_p1 := Lib.hid hx_p1
  have HM_p1 := Lib.hid hm_p1
  clear hx_p1 hm_p1
  go_wp2_with fail
  refine Calls.mono (ulit_any (e := (uE 97 1)) (k := 97) (s := 1) rfl rfl (by decide) (by decide) (by decide) p1) ?_
  rintro e p2 ⟨hx_p2, g_p2, rfl, hm_p2⟩
  have HX_p2 := Lib.hid hx_p2
  have HM_p2 := Lib.hid hm_p2
  clear hx_p2 hm_p2
  obtain ⟨w2, hw_w2⟩ : ∃ w3, w3 = p2.alloc (.cells #[.slice g_p1.kA (uE 98 1).key.length g_p1.kc, .int .i64 (uE 98 1).seq, .int .i64 (uE 98 1).kind, .slice g_p1.vA (uE 98 1).val.length g_p1.vc, .slice g_p2.kA (uE 97 1).key.length g_p2.kc, .int .i64 (uE 97 1).seq, .int .i64 (uE 97 1).kind, .slice g_p2.vA (uE 97 1).val.length g_p2.vc] 55) := ⟨_, rfl⟩
  have HA_w2 : Hid (Ext p2 w2) := by rw [hw_w2]; exact ext_alloc _ _
  have HX_w2 : Hid (Ext w1 w2) := Ext.trans (Ext.trans (HX_p1.out) HX_p2.out) HA_w2.out
  have HWR : Hid (Es w2 0 w2.heap.size (some ⟨p2.heap.size, 0, none⟩) [((uE 98 1), g_p1), ((uE 97 1), g_p2)]) := by
    refine two_es (by rw [hw_w2]; exact heap_at _ _ rfl) ?_ ?_
    · exact (HM_p1.out.below (Ext.trans HX_p2.out HA_w2.out) (Nat.le_refl _)).wide (Nat.zero_le _) (Below.size (Ext.trans HX_p2.out HA_w2.out))
    · exact (HM_p2.out.below HA_w2.out (Nat.le_refl _)).wide (Nat.zero_le _) (Below.size HA_w2.out)
  have HWC := Lib.hid (uwrite2 HWR.out)
  rw [hw_w2] at HWC
  clear HWR
  unfold Ent.at_
  go_wp2_with fail
  refine HWC.out.mono ?_
  rw [← hw_w2]
  clear HWC hw_w2
  rintro x w3 ⟨hx3, rfl⟩
  have HX3 : Hid (Ext w w3) := Ext.trans HX1.out (Ext.trans HX_w2.out hx3)
  clear hx3 HX_p1 HX_p2 HM_p1 HM_p2 HA_w2 HX_w2
  go_wp2_with fail
  refine (uopen0 w3).mono ?_
  rintro x w4 ⟨hx4, rfl⟩
  have HX4 : Hid (Ext w w4) := Ext.trans HX3.out hx4
  clear hx4
  go_wp2_with fail
  refine Calls.mono (ulit_any (e := (uE 97 5)) (k := 97) (s := 5) rfl rfl (by decide) (by decide) (by decide) w4) ?_
  rintro e q1 ⟨hx_q1, g_q1, rfl, hm_q1⟩
  have HX_q1 := Lib.hid hx_q1
  have HM_q1 := Lib.hid hm_q1
  clear hx_q1 hm_q1
  go_wp2_with fail
  refine Calls.mono (ulit_any (e := (uE 97 3)) (k := 97) (s := 3) rfl rfl (by decide) (by decide) (by decide) q1) ?_
  rintro e q2 ⟨hx_q2, g_q2, rfl, hm_q2⟩
  have HX_q2 := Lib.hid hx_q2
  have HM_q2 := Lib.hid hm_q2
  clear hx_q2 hm_q2
  go_wp2_with fail
  refine Calls.mono (ulit_any (e := (uE 98 9)) (k := 98) (s := 9) rfl rfl (by decide) (by decide) (by decide) q2) ?_
  rintro e q3 ⟨hx_q3, g_q3, rfl, hm_q3⟩
  have HX_q3 := Lib.hid hx_q3
  have HM_q3 := Lib.hid hm_q3
  clear hx_q3 hm_q3
  obtain ⟨w5, hw_w5⟩ : ∃ w3, w3 = q3.alloc (.cells #[.slice g_q1.kA (uE 97 5).key.length g_q1.kc, .int .i64 (uE 97 5).seq, .int .i64 (uE 97 5).kind, .slice g_q1.vA (uE 97 5).val.length g_q1.vc, .slice g_q2.kA (uE 97 3).key.length g_q2.kc, .int .i64 (uE 97 3).seq, .int .i64 (uE 97 3).kind, .slice g_q2.vA (uE 97 3).val.length g_q2.vc, .slice g_q3.kA (uE 98 9).key.length g_q3.kc, .int .i64 (uE 98 9).seq, .int .i64 (uE 98 9).kind, .slice g_q3.vA (uE 98 9).val.length g_q3.vc] 55) := ⟨_, rfl⟩
  have HA_w5 : Hid (Ext q3 w5) := by rw [hw_w5]; exact ext_alloc _ _
  have HX_w5 : Hid (Ext w4 w5) := Ext.trans (Ext.trans (Ext.trans (HX_q1.out) HX_q2.out) HX_q3.out) HA_w5.out
  have HWR : Hid (Es w5 0 w5.heap.size (some ⟨q3.heap.size, 0, none⟩) [((uE 97 5), g_q1), ((uE 97 3), g_q2), ((uE 98 9), g_q3)]) := by
    refine three_es (by rw [hw_w5]; exact heap_at _ _ rfl) ?_ ?_ ?_
    · exact (HM_q1.out.below (Ext.trans HX_q2.out (Ext.trans HX_q3.out HA_w5.out)) (Nat.le_refl _)).wide (Nat.zero_le _) (Below.size (Ext.trans HX_q2.out (Ext.trans HX_q3.out HA_w5.out)))
    · exact (HM_q2.out.below (Ext.trans HX_q3.out HA_w5.out) (Nat.le_refl _)).wide (Nat.zero_le _) (Below.size (Ext.trans HX_q3.out HA_w5.out))
    · exact (HM_q3.out.below HA_w5.out (Nat.le_refl _)).wide (Nat.zero_le _) (Below.size HA_w5.out)
  have HWC := Lib.hid (uwrite3 HWR.out)
  rw [hw_w5] at HWC
  clear HWR
  unfold Ent.at_
  go_wp2_with fail
  refine HWC.out.mono ?_
  rw [← hw_w5]
  clear HWC hw_w5
  rintro x w6 ⟨hx6, WA, wc, rfl, hown⟩
  have HX6 : Hid (Ext w w6) := Ext.trans HX4.out (Ext.trans HX_w5.out hx6)
  have HOP := Lib.hid (uopen hown.bs (Nat.le_refl _))
  obtain ⟨n, hn⟩ : ∃ n, n = (tb [uT] uT).length := ⟨_, rfl⟩
  rw [← hn] at HOP ⊢
  clear hx6 hown hn HX_q1 HX_q2 HX_q3 HM_q1 HM_q2 HM_q3 HA_w5 HX_w5
  go_wp2_with fail
  refine HOP.out.mono ?_
  rintro x w7 ⟨hx7, g, rfl, htv⟩
  have HX7 : Hid (Ext w w7) := Ext.trans HX6.out hx7
  have HTV := Lib.hid htv
  clear hx7 htv HOP
  have cv1 : (convert 26 26 (.slice (some ⟨w7.heap.size, 0, none⟩) 1 1)).run Tryz.prog (w7.alloc (.cells #[.int .u8 97] 5)) = .ok (.slice (some ⟨w7.heap.size, 0, none⟩) 1 1) (w7.alloc (.cells #[.int .u8 97] 5 (1, 2))) := run_convert_bytes_const_at _ _ _ _ _ _ _ (rfl) Tryz.underlying26 Tryz.underlying5
  have hx9 := ext_alloc w7 (.cells #[.int .u8 97] 5 (1, 2))
  have HG := Lib.hid (tget_any (s := 4) (HTV.out.ext hx9) (bs_mark w7 [97] (by simp) (1, 2)) (by simp) (by decide) (by decide) (by decide))
  clear hx9
  go_wp2_with fail
  refine Calls.mono HG.out ?_
  intro x w8 hgt
  obtain ⟨hxg, hgt⟩ := get_is hgt
  have e9 : (inV [] [] false uT).find? (seenE [97] 4) = some (uE 97 3) := rfl
  rw [e9] at hgt
  obtain ⟨gd, rfl, hmd⟩ := hgt
  have HX8 : Hid (Ext w7 w8) := Ext.trans (ext_alloc _ _) hxg
  have HMD0 := Lib.hid hmd
  clear hmd hxg e9 cv1 HG
  unfold Ent.at_
  go_upto_region 7 with (fail)
  obtain ⟨w9, hw9⟩ : ∃ w9, w9 = w8.alloc (.cells #[.slice gd.kA (uE 97 3).key.length gd.kc, .int .i64 (uE 97 3).seq, .int .i64 (uE 97 3).kind, .slice gd.vA (uE 97 3).val.length gd.vc] 55) := ⟨_, rfl⟩
  rw [← hw9]
  have HX9 : Hid (Ext w7 w9) := by rw [hw9]; exact Ext.trans HX8.out (ext_alloc _ _)
  have HD9 : Hid (w9.heap[w8.heap.size]? = some (.cells #[.slice gd.kA (uE 97 3).key.length gd.kc, .int .i64 (uE 97 3).seq, .int .i64 (uE 97 3).kind, .slice gd.vA (uE 97 3).val.length gd.vc] 55 (0, 0))) := by rw [hw9]; exact heap_at _ _ rfl
  have HM9 : Hid (Em w9 0 w9.heap.size (uE 97 3) gd) := by have hxa : Ext w8 w9 := (by rw [hw9]; exact ext_alloc _ _); exact (HMD0.out.below hxa (Nat.le_refl _)).wide (Nat.le_refl _) hxa.size
  obtain ⟨db, hdb⟩ : ∃ db, db = w8.heap.size := ⟨_, rfl⟩
  rw [← hdb] at HD9 ⊢
  have HTV9 := Lib.hid (HTV.out.ext HX9.out)
  clear hw9 hdb HMD0 HX8
  have cv1 : (convert 26 26 (.slice (some ⟨w9.heap.size, 0, none⟩) 1 1)).run Tryz.prog (w9.alloc (.cells #[.int .u8 98] 5)) = .ok (.slice (some ⟨w9.heap.size, 0, none⟩) 1 1) (w9.alloc (.cells #[.int .u8 98] 5 (1, 2))) := run_convert_bytes_const_at _ _ _ _ _ _ _ (rfl) Tryz.underlying26 Tryz.underlying5
  have hx9 := ext_alloc w9 (.cells #[.int .u8 98] 5 (1, 2))
  have HG := Lib.hid (tget_any (s := 8) (HTV9.out.ext hx9) (bs_mark w9 [98] (by simp) (1, 2)) (by simp) (by decide) (by decide) (by decide))
  clear hx9
  go_wp2_with fail
  refine Calls.mono HG.out ?_
  intro x w10 hgt
  obtain ⟨hxg, hgt⟩ := get_is hgt
  have e9 : (inV [] [] false uT).find? (seenE [98] 8) = none := rfl
  rw [e9] at hgt
  obtain rfl := hgt
  have HX10 : Hid (Ext w9 w10) := Ext.trans (ext_alloc _ _) hxg
  clear hxg e9 cv1 HG
  unfold noE
  go_upto_region 8 with (fail)
  obtain ⟨w11, hw11⟩ : ∃ w11, w11 = w10.alloc (.cells #[.slice none 0 0, .int .i64 0, .int .i64 0, .slice none 0 0] 55) := ⟨_, rfl⟩
  rw [← hw11]
  have HX11 : Hid (Ext w9 w11) := by rw [hw11]; exact Ext.trans HX10.out (ext_alloc _ _)
  have HTV11 := Lib.hid (HTV9.out.ext HX11.out)
  clear hw11 HX10
  have cv1 : (convert 26 26 (.slice (some ⟨w11.heap.size, 0, none⟩) 2 2)).run Tryz.prog (w11.alloc (.cells #[.int .u8 97, .int .u8 0] 5)) = .ok (.slice (some ⟨w11.heap.size, 0, none⟩) 2 2) (w11.alloc (.cells #[.int .u8 97, .int .u8 0] 5 (2, 3))) := run_convert_bytes_const_at _ _ _ _ _ _ _ (rfl) Tryz.underlying26 Tryz.underlying5
  have hx9 := ext_alloc w11 (.cells #[.int .u8 97, .int .u8 0] 5 (2, 3))
  have HCL := Lib.hid (clip_any (e := false) (bA := none) (bc := 0) (b := []) (HTV11.out.ext hx9) ((bs_mark w11 [97, 0] (by simp) (2, 3)).wide (Nat.zero_le _) (by simp)) (by decide) (Bs.nil _ _ _) (fun x hx => by cases hx) (by simp) (by simp))
  have HCL2 : Hid (Calls Tryz.prog 40 #[.pointer (some ⟨g, 0, none⟩), .slice (some ⟨w11.heap.size, 0, none⟩) 2 2, .slice none 0 0, .bool false] (w11.alloc (.cells #[.int .u8 97, .int .u8 0] 5 (2, 3))) (ClipAns (w11.alloc (.cells #[.int .u8 97, .int .u8 0] 5 (2, 3))) [uT] uT [] [] [97, 0] [] false false)) := HCL.out
  clear hx9 HCL
  go_wp2_with fail
  refine HCL2.out.mono ?_
  rintro x w12 ⟨hx12, g2, rfl, htk⟩
  have htk2 : TV w12 g2 [uT] uT [97, 0] [] false := htk
  have HTK := Lib.hid htk2
  have HX12 : Hid (Ext w9 w12) := Ext.trans HX11.out (Ext.trans (ext_alloc _ _) hx12)
  clear hx12 htk htk2 cv1 HCL2
  have cv1 : (convert 26 26 (.slice (some ⟨w12.heap.size, 0, none⟩) 1 1)).run Tryz.prog (w12.alloc (.cells #[.int .u8 97] 5)) = .ok (.slice (some ⟨w12.heap.size, 0, none⟩) 1 1) (w12.alloc (.cells #[.int .u8 97] 5 (1, 2))) := run_convert_bytes_const_at _ _ _ _ _ _ _ (rfl) Tryz.underlying26 Tryz.underlying5
  have hx9 := ext_alloc w12 (.cells #[.int .u8 97] 5 (1, 2))
  have HG := Lib.hid (tget_any (s := 9) (HTK.out.ext hx9) (bs_mark w12 [97] (by simp) (1, 2)) (by simp) (by decide) (by decide) (by decide))
  clear hx9
  go_wp2_with fail
  refine Calls.mono HG.out ?_
  intro x w13 hgt
  obtain ⟨hxg, hgt⟩ := get_is hgt
  have e9 : (inV [97, 0] [] false uT).find? (seenE [97] 9) = none := rfl
  rw [e9] at hgt
  obtain rfl := hgt
  have HX13 : Hid (Ext w12 w13) := Ext.trans (ext_alloc _ _) hxg
  clear hxg e9 cv1 HG
  unfold noE
  go_upto_region 10 with (fail)
  obtain ⟨w14, hw14⟩ : ∃ w11, w11 = w13.alloc (.cells #[.slice none 0 0, .int .i64 0, .int .i64 0, .slice none 0 0] 55) := ⟨_, rfl⟩
  rw [← hw14]
  have HX14 : Hid (Ext w12 w14) := by rw [hw14]; exact Ext.trans HX13.out (ext_alloc _ _)
  have HTK14 := Lib.hid (HTK.out.ext HX14.out)
  have HFS := Lib.hid (tfst_any HTK14.out.goes)
  clear hw14 HX13
  go_wp2_with fail
  refine HFS.out.mono ?_
  rintro x w15 ⟨hx15, hfs⟩
  have e9 : (inV [97, 0] [] false uT).head? = some (uE 98 9) := rfl
  rw [e9] at hfs
  obtain ⟨ge, rfl, hme⟩ := hfs
  have HX15 : Hid (Ext w12 w15) := Ext.trans HX14.out hx15
  have HME0 := Lib.hid hme
  clear hx15 hme e9 HFS
  unfold Ent.at_
  go_upto_region 11 with (fail)
  obtain ⟨wz, hwz⟩ : ∃ wz, wz = w15.alloc (.cells #[.slice ge.kA (uE 98 9).key.length ge.kc, .int .i64 (uE 98 9).seq, .int .i64 (uE 98 9).kind, .slice ge.vA (uE 98 9).val.length ge.vc] 55) := ⟨_, rfl⟩
  rw [← hwz]
  have HXZ : Hid (Ext w15 wz) := by rw [hwz]; exact ext_alloc _ _
  have HE9 : Hid (wz.heap[w15.heap.size]? = some (.cells #[.slice ge.kA (uE 98 9).key.length ge.kc, .int .i64 (uE 98 9).seq, .int .i64 (uE 98 9).kind, .slice ge.vA (uE 98 9).val.length ge.vc] 55 (0, 0))) := by rw [hwz]; exact heap_at _ _ rfl
  have HMEZ : Hid (Em wz 0 wz.heap.size (uE 98 9) ge) := (HME0.out.below HXZ.out (Nat.le_refl _)).wide (Nat.le_refl _) HXZ.out.size
  obtain ⟨eb, heb⟩ : ∃ eb, eb = w15.heap.size := ⟨_, rfl⟩
  rw [← heb] at HE9 ⊢
  have HX9Z : Hid (Ext w9 wz) := Ext.trans HX12.out (Ext.trans HX15.out HXZ.out)
  have HBW : Hid (Ext w wz) := Ext.trans HX7.out (Ext.trans HX9.out HX9Z.out)
  have HMDZ : Hid (Em wz 0 wz.heap.size (uE 97 3) gd) := (HM9.out.below HX9Z.out (Nat.le_refl _)).wide (Nat.le_refl _) HX9Z.out.size
  have HTZ := Lib.hid (HTV9.out.ext HX9Z.out)
  have HKZ := Lib.hid (HTK.out.ext (Ext.trans HX15.out HXZ.out))
  have hdz := ext_heap HX9Z.out HD9.out
  have d0 := cell_of (v := .slice gd.kA (uE 97 3).key.length gd.kc) hdz (k := 0) rfl
  have d1 := cell_of (v := .int .i64 (uE 97 3).seq) hdz (k := 1) rfl
  have d2 := cell_of (v := .int .i64 (uE 97 3).kind) hdz (k := 2) rfl
  have d3 := cell_of (v := .slice gd.vA (uE 97 3).val.length gd.vc) hdz (k := 3) rfl
  have y0 := cell_of (v := .slice ge.kA (uE 98 9).key.length ge.kc) HE9.out (k := 0) rfl
  have y1 := cell_of (v := .int .i64 (uE 98 9).seq) HE9.out (k := 1) rfl
  have y2 := cell_of (v := .int .i64 (uE 98 9).kind) HE9.out (k := 2) rfl
  have y3 := cell_of (v := .slice ge.vA (uE 98 9).val.length ge.vc) HE9.out (k := 3) rfl
  have HMK : Hid (∀ u, (MarkR wz.heap.size).r wz.drew u → TV u g [uT] uT [] [] false ∧ TV u g2 [uT] uT [97, 0] [] false) := fun u hu => ⟨(HTZ.out.ext (Ext.drew wz)).mark hu, (HKZ.out.ext (Ext.drew wz)).mark hu⟩
  clear hwz heb hdz
  refine Fr.flow (R := MarkR wz.heap.size) (by kernel_rfl) [Is (.int .i64 2), Is (.int .i64 2), Is (.bool true), Is (.bool true), Is (.int .i64 2), Is (.int .i64 2), Is (.bool true), Is (.bool true), Is (.bool true), Is (.int .i64 10), Is (.int .i64 10), Is (.bool true), Is (.bool true), Is (.bool true), Is (.int .i64 0), Is (.int .i64 0), Is (.int .i64 0), Is (.int .i64 0), Is (.int .i64 0), Is (.int .i64 0), Is (.int .i64 0), Is (.int .i64 0), Is (.bool true), Is (.bool true), Is (.bool true), Is (.agg #[.slice gd.kA (uE 97 3).key.length gd.kc, .int .i64 (uE 97 3).seq, .int .i64 (uE 97 3).kind, .slice gd.vA (uE 97 3).val.length gd.vc]), LitF (uE 97 3), Is (.bool true), Is (.bool true), Is (.bool true), Is (.int .i64 6), Is (.int .i64 6), Is (.bool true), Is (.bool true), Is (.bool true), Is (.pointer (some ⟨g, 0, none⟩)), Is (.int .i64 3), Is (.bool true), Is (.bool true), Is (.bool true), Is (.pointer (some ⟨g, 0, none⟩)), Is (.int .i64 1), Is (.bool true), Is (.bool true), Is (.bool true), Is (.pointer (some ⟨g2, 0, none⟩)), Is (.int .i64 1), Is (.bool true), Is (.bool true), Is (.bool true), Is (.int .i64 6), Is (.int .i64 6), Is (.bool true), Is (.bool true), Is (.bool true), Is (.bool true), Is (.bool true), Is (.bool true), Is (.agg #[.slice ge.kA (uE 98 9).key.length ge.kc, .int .i64 (uE 98 9).seq, .int .i64 (uE 98 9).kind, .slice ge.vA (uE 98 9).val.length ge.vc]), LitF (uE 98 9), Is (.bool true), Is (.bool true), Is (.bool true), Is (.pointer (some ⟨g2, 0, none⟩)), BlF wz.heap.size [99], BlF wz.heap.size [99], ViewF [uT] uT [99] [] false, Is (.int .i64 0), Is (.bool true), Is (.bool true), Is (.bool true)] (by kernel_rfl) (by kernel_rfl) ?mono (fun f1 => ?obl) ?fin
  case mono =>
    simp only [List.forall_mem_cons, List.not_mem_nil, false_imp_iff, implies_true, and_true]
    exact ⟨.is _, .is _, .is _, .is _, .is _, .is _, .is _, .is _, .is _, .is _, .is _, .is _, .is _, .is _, .is _, .is _, .is _, .is _, .is _, .is _, .is _, .is _, .is _, .is _, .is _, .is _, .lit _ _, .is _, .is _, .is _, .is _, .is _, .is _, .is _, .is _, .is _, .is _, .is _, .is _, .is _, .is _, .is _, .is _, .is _, .is _, .is _, .is _, .is _, .is _, .is _, .is _, .is _, .is _, .is _, .is _, .is _, .is _, .is _, .is _, .lit _ _, .is _, .is _, .is _, .is _, .bl _ _ _, .bl _ _ _, .view _ _ _ _ _ _, .is _, .is _, .is _, .is _⟩
  case fin =>
    intro g1 u hu hg
    simp only [List.append_eq, List.cons_append, List.nil_append, puts, Act.put, zq1, zq2, zq3]
    have eL : g1 70 = .bool true := hg 70 (by decide)
    rw [eL]
    have HU := Lib.hid hu
    clear hu hg eL d0 d1 d2 d3 y0 y1 y2 y3
    go_wp2
    go_ret
    exact ⟨rfl, Below.trans HBW.out (((Chg.drew wz).trans (mark_chg HU.out)).below (fun i hi => Nat.le_trans HBW.out.size hi) HBW.out.size)⟩
  case obl =>
    refine ⟨fun u hu hd => ?_, ?_⟩
    · go_simp
      exact ⟨(MarkR wz.heap.size).refl _, rfl⟩
    refine ⟨fun u hu hd => ?_, ?_⟩
    · simp only [Act.put, zq1, zq2, zq3]
      have e0 : f1 0 = .int .i64 2 := hd 0 (by kernel_rfl)
      go_simp
      refine (unum _ _).mono ?_
      rintro x9 w9 ⟨rfl, rfl⟩
      exact ⟨_, rfl, (MarkR wz.heap.size).refl _, rfl⟩
    refine ⟨fun u hu hd => ?_, ?_⟩
    · simp only [Act.put, zq1, zq2, zq3]
      have e1 : f1 1 = .int .i64 2 := hd 1 (by kernel_rfl)
      go_simp
      exact ⟨(MarkR wz.heap.size).refl _, rfl⟩
    refine ⟨fun u hu hd => ?_, ?_⟩
    · simp only [Act.put, zq1, zq2, zq3]
      have e2 : f1 2 = .bool true := hd 2 (by kernel_rfl)
      go_simp
      exact ⟨(MarkR wz.heap.size).refl _, rfl⟩
    refine ⟨fun u hu hd => ?_, ?_⟩
    · simp only [Act.put, zq1, zq2, zq3]
      have e3 : f1 3 = .bool true := hd 3 (by kernel_rfl)
      go_simp
      exact ⟨(MarkR wz.heap.size).refl _, rfl⟩
    refine ⟨fun u hu hd => ?_, ?_⟩
    · simp only [Act.put, zq1, zq2, zq3]
      have e3 : f1 3 = .bool true := hd 3 (by kernel_rfl)
      have e4 : f1 4 = .int .i64 2 := hd 4 (by kernel_rfl)
      go_simp
      refine (unum _ _).mono ?_
      rintro x9 w9 ⟨rfl, rfl⟩
      exact ⟨_, rfl, (MarkR wz.heap.size).refl _, rfl⟩
    refine ⟨fun u hu hd => ?_, ?_⟩
    · simp only [Act.put, zq1, zq2, zq3]
      have e3 : f1 3 = .bool true := hd 3 (by kernel_rfl)
      have e5 : f1 5 = .int .i64 2 := hd 5 (by kernel_rfl)
      go_simp
      exact ⟨(MarkR wz.heap.size).refl _, rfl⟩
    refine ⟨fun u hu hd => ?_, ?_⟩
    · simp only [Act.put, zq1, zq2, zq3]
      have e3 : f1 3 = .bool true := hd 3 (by kernel_rfl)
      have e6 : f1 6 = .bool true := hd 6 (by kernel_rfl)
      go_simp
      exact ⟨(MarkR wz.heap.size).refl _, rfl⟩
    refine ⟨fun u hu hd => ?_, ?_⟩
    · simp only [Act.put, zq1, zq2, zq3]
      have e7 : f1 7 = .bool true := hd 7 (by kernel_rfl)
      go_simp
      exact ⟨(MarkR wz.heap.size).refl _, rfl⟩
    refine ⟨fun u hu hd => ?_, ?_⟩
    · simp only [Act.put, zq1, zq2, zq3]
      have e8 : f1 8 = .bool true := hd 8 (by kernel_rfl)
      go_simp
      exact ⟨(MarkR wz.heap.size).refl _, rfl⟩
    refine ⟨fun u hu hd => ?_, ?_⟩
    · simp only [Act.put, zq1, zq2, zq3]
      have e8 : f1 8 = .bool true := hd 8 (by kernel_rfl)
      have e9 : f1 9 = .int .i64 10 := hd 9 (by kernel_rfl)
      go_simp
      refine (unum _ _).mono ?_
      rintro x9 w9 ⟨rfl, rfl⟩
      exact ⟨_, rfl, (MarkR wz.heap.size).refl _, rfl⟩
    refine ⟨fun u hu hd => ?_, ?_⟩
    · simp only [Act.put, zq1, zq2, zq3]
      have e8 : f1 8 = .bool true := hd 8 (by kernel_rfl)
      have e10 : f1 10 = .int .i64 10 := hd 10 (by kernel_rfl)
      go_simp
      exact ⟨(MarkR wz.heap.size).refl _, rfl⟩
    refine ⟨fun u hu hd => ?_, ?_⟩
    · simp only [Act.put, zq1, zq2, zq3]
      have e8 : f1 8 = .bool true := hd 8 (by kernel_rfl)
      have e11 : f1 11 = .bool true := hd 11 (by kernel_rfl)
      go_simp
      exact ⟨(MarkR wz.heap.size).refl _, rfl⟩
    refine ⟨fun u hu hd => ?_, ?_⟩
    · simp only [Act.put, zq1, zq2, zq3]
      have e12 : f1 12 = .bool true := hd 12 (by kernel_rfl)
      go_simp
      exact ⟨(MarkR wz.heap.size).refl _, rfl⟩
    refine ⟨fun u hu hd => ?_, ?_⟩
    · simp only [Act.put, zq1, zq2, zq3]
      have e13 : f1 13 = .bool true := hd 13 (by kernel_rfl)
      go_simp
      exact ⟨(MarkR wz.heap.size).refl _, rfl⟩
    refine ⟨fun u hu hd => ?_, ?_⟩
    · simp only [Act.put, zq1, zq2, zq3]
      have e13 : f1 13 = .bool true := hd 13 (by kernel_rfl)
      have e14 : f1 14 = .int .i64 0 := hd 14 (by kernel_rfl)
      go_simp
      refine (unum _ _).mono ?_
      rintro x9 w9 ⟨rfl, rfl⟩
      exact ⟨_, rfl, (MarkR wz.heap.size).refl _, rfl⟩
    refine ⟨fun u hu hd => ?_, ?_⟩
    · simp only [Act.put, zq1, zq2, zq3]
      have e13 : f1 13 = .bool true := hd 13 (by kernel_rfl)
      go_simp
      exact ⟨(MarkR wz.heap.size).refl _, rfl⟩
    refine ⟨fun u hu hd => ?_, ?_⟩
    · simp only [Act.put, zq1, zq2, zq3]
      have e13 : f1 13 = .bool true := hd 13 (by kernel_rfl)
      have e16 : f1 16 = .int .i64 0 := hd 16 (by kernel_rfl)
      go_simp
      refine (unum _ _).mono ?_
      rintro x9 w9 ⟨rfl, rfl⟩
      exact ⟨_, rfl, (MarkR wz.heap.size).refl _, rfl⟩
    refine ⟨fun u hu hd => ?_, ?_⟩
    · simp only [Act.put, zq1, zq2, zq3]
      have e13 : f1 13 = .bool true := hd 13 (by kernel_rfl)
      have e15 : f1 15 = .int .i64 0 := hd 15 (by kernel_rfl)
      have e17 : f1 17 = .int .i64 0 := hd 17 (by kernel_rfl)
      go_simp
      exact ⟨(MarkR wz.heap.size).refl _, rfl⟩
    refine ⟨fun u hu hd => ?_, ?_⟩
    · simp only [Act.put, zq1, zq2, zq3]
      have e13 : f1 13 = .bool true := hd 13 (by kernel_rfl)
      go_simp
      exact ⟨(MarkR wz.heap.size).refl _, rfl⟩
    refine ⟨fun u hu hd => ?_, ?_⟩
    · simp only [Act.put, zq1, zq2, zq3]
      have e13 : f1 13 = .bool true := hd 13 (by kernel_rfl)
      have e19 : f1 19 = .int .i64 0 := hd 19 (by kernel_rfl)
      go_simp
      refine (unum _ _).mono ?_
      rintro x9 w9 ⟨rfl, rfl⟩
      exact ⟨_, rfl, (MarkR wz.heap.size).refl _, rfl⟩
    refine ⟨fun u hu hd => ?_, ?_⟩
    · simp only [Act.put, zq1, zq2, zq3]
      have e13 : f1 13 = .bool true := hd 13 (by kernel_rfl)
      have e18 : f1 18 = .int .i64 0 := hd 18 (by kernel_rfl)
      have e20 : f1 20 = .int .i64 0 := hd 20 (by kernel_rfl)
      go_simp
      exact ⟨(MarkR wz.heap.size).refl _, rfl⟩
    refine ⟨fun u hu hd => ?_, ?_⟩
    · simp only [Act.put, zq1, zq2, zq3]
      have e13 : f1 13 = .bool true := hd 13 (by kernel_rfl)
      have e21 : f1 21 = .int .i64 0 := hd 21 (by kernel_rfl)
      go_simp
      exact ⟨(MarkR wz.heap.size).refl _, rfl⟩
    refine ⟨fun u hu hd => ?_, ?_⟩
    · simp only [Act.put, zq1, zq2, zq3]
      have e13 : f1 13 = .bool true := hd 13 (by kernel_rfl)
      have e22 : f1 22 = .bool true := hd 22 (by kernel_rfl)
      go_simp
      exact ⟨(MarkR wz.heap.size).refl _, rfl⟩
    refine ⟨fun u hu hd => ?_, ?_⟩
    · simp only [Act.put, zq1, zq2, zq3]
      have e23 : f1 23 = .bool true := hd 23 (by kernel_rfl)
      go_simp
      exact ⟨(MarkR wz.heap.size).refl _, rfl⟩
    refine ⟨fun u hu hd => ?_, ?_⟩
    · simp only [Act.put, zq1, zq2, zq3]
      have e24 : f1 24 = .bool true := hd 24 (by kernel_rfl)
      have hu2 := hu
      have q0 := mark_cell hu2 d0
      have q1 := mark_cell hu2 d1
      have q2 := mark_cell hu2 d2
      have q3 := mark_cell hu2 d3
      go_simp
      exact ⟨(MarkR wz.heap.size).refl _, rfl⟩
    refine ⟨fun u hu hd => ?_, ?_⟩
    · simp only [Act.put, zq1, zq2, zq3]
      have e24 : f1 24 = .bool true := hd 24 (by kernel_rfl)
      go_simp
      refine (ulit_any (e := uE 97 3) (k := 97) (s := 3) rfl rfl (by decide) (by decide) (by decide) _).mono ?_
      rintro x9 w9 ⟨hx9, g9, rfl, hm9⟩
      exact ⟨_, rfl, mark_ext hx9, g9, rfl, hm9.wide (Nat.zero_le _) (Nat.le_refl _)⟩
    refine ⟨fun u hu hd => ?_, ?_⟩
    · simp only [Act.put, zq1, zq2, zq3]
      have e24 : f1 24 = .bool true := hd 24 (by kernel_rfl)
      have e25 : f1 25 = .agg #[.slice gd.kA (uE 97 3).key.length gd.kc, .int .i64 (uE 97 3).seq, .int .i64 (uE 97 3).kind, .slice gd.vA (uE 97 3).val.length gd.vc] := hd 25 (by kernel_rfl)
      obtain ⟨g9, e26, hm9⟩ := (show LitF (uE 97 3) (f1 26) u from hd 26 (by kernel_rfl))
      have hm8 : Em u 0 u.heap.size (uE 97 3) gd := (mark_em hu (show Em wz.drew 0 wz.heap.size (uE 97 3) gd from HMDZ.out.below (Ext.drew wz) (Nat.le_refl _))).wide (Nat.le_refl _) hu.2.2.2.1
      have HR9 := Lib.hid (rsame_any hm8 hm9 (Nat.le_refl _) (Nat.le_refl _))
      unfold Ent.at_ at e26 HR9
      clear hm8 hm9
      go_simp
      refine HR9.out.mono ?_
      rintro x9 w9 ⟨z, hz, rfl, hx9⟩
      obtain rfl : z = true := hz.2 rfl
      exact ⟨_, rfl, mark_ext hx9, rfl⟩
    refine ⟨fun u hu hd => ?_, ?_⟩
    · simp only [Act.put, zq1, zq2, zq3]
      have e24 : f1 24 = .bool true := hd 24 (by kernel_rfl)
      have e27 : f1 27 = .bool true := hd 27 (by kernel_rfl)
      go_simp
      exact ⟨(MarkR wz.heap.size).refl _, rfl⟩
    refine ⟨fun u hu hd => ?_, ?_⟩
    · simp only [Act.put, zq1, zq2, zq3]
      have e28 : f1 28 = .bool true := hd 28 (by kernel_rfl)
      go_simp
      exact ⟨(MarkR wz.heap.size).refl _, rfl⟩
    refine ⟨fun u hu hd => ?_, ?_⟩
    · simp only [Act.put, zq1, zq2, zq3]
      have e29 : f1 29 = .bool true := hd 29 (by kernel_rfl)
      go_simp
      exact ⟨(MarkR wz.heap.size).refl _, rfl⟩
    refine ⟨fun u hu hd => ?_, ?_⟩
    · simp only [Act.put, zq1, zq2, zq3]
      have e29 : f1 29 = .bool true := hd 29 (by kernel_rfl)
      have e30 : f1 30 = .int .i64 6 := hd 30 (by kernel_rfl)
      go_simp
      refine (unum _ _).mono ?_
      rintro x9 w9 ⟨rfl, rfl⟩
      exact ⟨_, rfl, (MarkR wz.heap.size).refl _, rfl⟩
    refine ⟨fun u hu hd => ?_, ?_⟩
    · simp only [Act.put, zq1, zq2, zq3]
      have e29 : f1 29 = .bool true := hd 29 (by kernel_rfl)
      have e31 : f1 31 = .int .i64 6 := hd 31 (by kernel_rfl)
      go_simp
      exact ⟨(MarkR wz.heap.size).refl _, rfl⟩
    refine ⟨fun u hu hd => ?_, ?_⟩
    · simp only [Act.put, zq1, zq2, zq3]
      have e29 : f1 29 = .bool true := hd 29 (by kernel_rfl)
      have e32 : f1 32 = .bool true := hd 32 (by kernel_rfl)
      go_simp
      exact ⟨(MarkR wz.heap.size).refl _, rfl⟩
    refine ⟨fun u hu hd => ?_, ?_⟩
    · simp only [Act.put, zq1, zq2, zq3]
      have e33 : f1 33 = .bool true := hd 33 (by kernel_rfl)
      go_simp
      exact ⟨(MarkR wz.heap.size).refl _, rfl⟩
    refine ⟨fun u hu hd => ?_, ?_⟩
    · simp only [Act.put, zq1, zq2, zq3]
      have e34 : f1 34 = .bool true := hd 34 (by kernel_rfl)
      go_simp
      exact ⟨(MarkR wz.heap.size).refl _, rfl⟩
    refine ⟨fun u hu hd => ?_, ?_⟩
    · simp only [Act.put, zq1, zq2, zq3]
      have e34 : f1 34 = .bool true := hd 34 (by kernel_rfl)
      have e35 : f1 35 = .pointer (some ⟨g, 0, none⟩) := hd 35 (by kernel_rfl)
      have HL9 := Lib.hid (tlen_any (HMK.out u hu).1.goes (by decide))
      have en9 : ((inV [] [] false uT).length : Int) = 3 := by decide
      rw [en9] at HL9
      clear en9
      go_simp
      refine HL9.out.mono ?_
      rintro x9 w9 ⟨rfl, hx9⟩
      exact ⟨_, rfl, mark_ext hx9, rfl⟩
    refine ⟨fun u hu hd => ?_, ?_⟩
    · simp only [Act.put, zq1, zq2, zq3]
      have e34 : f1 34 = .bool true := hd 34 (by kernel_rfl)
      have e36 : f1 36 = .int .i64 3 := hd 36 (by kernel_rfl)
      go_simp
      exact ⟨(MarkR wz.heap.size).refl _, rfl⟩
    refine ⟨fun u hu hd => ?_, ?_⟩
    · simp only [Act.put, zq1, zq2, zq3]
      have e34 : f1 34 = .bool true := hd 34 (by kernel_rfl)
      have e37 : f1 37 = .bool true := hd 37 (by kernel_rfl)
      go_simp
      exact ⟨(MarkR wz.heap.size).refl _, rfl⟩
    refine ⟨fun u hu hd => ?_, ?_⟩
    · simp only [Act.put, zq1, zq2, zq3]
      have e38 : f1 38 = .bool true := hd 38 (by kernel_rfl)
      go_simp
      exact ⟨(MarkR wz.heap.size).refl _, rfl⟩
    refine ⟨fun u hu hd => ?_, ?_⟩
    · simp only [Act.put, zq1, zq2, zq3]
      have e39 : f1 39 = .bool true := hd 39 (by kernel_rfl)
      go_simp
      exact ⟨(MarkR wz.heap.size).refl _, rfl⟩
    refine ⟨fun u hu hd => ?_, ?_⟩
    · simp only [Act.put, zq1, zq2, zq3]
      have e39 : f1 39 = .bool true := hd 39 (by kernel_rfl)
      have e40 : f1 40 = .pointer (some ⟨g, 0, none⟩) := hd 40 (by kernel_rfl)
      have HL9 := Lib.hid (tblocks_any (HMK.out u hu).1)
      have en9 : (([uT] : List (List Ent)).length : Int) = 1 := rfl
      rw [en9] at HL9
      clear en9
      go_simp
      refine HL9.out.mono ?_
      rintro x9 w9 ⟨rfl, rfl⟩
      exact ⟨_, rfl, (MarkR wz.heap.size).refl _, rfl⟩
    refine ⟨fun u hu hd => ?_, ?_⟩
    · simp only [Act.put, zq1, zq2, zq3]
      have e39 : f1 39 = .bool true := hd 39 (by kernel_rfl)
      have e41 : f1 41 = .int .i64 1 := hd 41 (by kernel_rfl)
      go_simp
      exact ⟨(MarkR wz.heap.size).refl _, rfl⟩
    refine ⟨fun u hu hd => ?_, ?_⟩
    · simp only [Act.put, zq1, zq2, zq3]
      have e39 : f1 39 = .bool true := hd 39 (by kernel_rfl)
      have e42 : f1 42 = .bool true := hd 42 (by kernel_rfl)
      go_simp
      exact ⟨(MarkR wz.heap.size).refl _, rfl⟩
    refine ⟨fun u hu hd => ?_, ?_⟩
    · simp only [Act.put, zq1, zq2, zq3]
      have e43 : f1 43 = .bool true := hd 43 (by kernel_rfl)
      go_simp
      exact ⟨(MarkR wz.heap.size).refl _, rfl⟩
    refine ⟨fun u hu hd => ?_, ?_⟩
    · simp only [Act.put, zq1, zq2, zq3]
      have e44 : f1 44 = .bool true := hd 44 (by kernel_rfl)
      go_simp
      exact ⟨(MarkR wz.heap.size).refl _, rfl⟩
    refine ⟨fun u hu hd => ?_, ?_⟩
    · simp only [Act.put, zq1, zq2, zq3]
      have e44 : f1 44 = .bool true := hd 44 (by kernel_rfl)
      have e45 : f1 45 = .pointer (some ⟨g2, 0, none⟩) := hd 45 (by kernel_rfl)
      have HL9 := Lib.hid (tlen_any (HMK.out u hu).2.goes (by decide))
      have en9 : ((inV [97, 0] [] false uT).length : Int) = 1 := by decide
      rw [en9] at HL9
      clear en9
      go_simp
      refine HL9.out.mono ?_
      rintro x9 w9 ⟨rfl, hx9⟩
      exact ⟨_, rfl, mark_ext hx9, rfl⟩
    refine ⟨fun u hu hd => ?_, ?_⟩
    · simp only [Act.put, zq1, zq2, zq3]
      have e44 : f1 44 = .bool true := hd 44 (by kernel_rfl)
      have e46 : f1 46 = .int .i64 1 := hd 46 (by kernel_rfl)
      go_simp
      exact ⟨(MarkR wz.heap.size).refl _, rfl⟩
    refine ⟨fun u hu hd => ?_, ?_⟩
    · simp only [Act.put, zq1, zq2, zq3]
      have e44 : f1 44 = .bool true := hd 44 (by kernel_rfl)
      have e47 : f1 47 = .bool true := hd 47 (by kernel_rfl)
      go_simp
      exact ⟨(MarkR wz.heap.size).refl _, rfl⟩
    refine ⟨fun u hu hd => ?_, ?_⟩
    · simp only [Act.put, zq1, zq2, zq3]
      have e48 : f1 48 = .bool true := hd 48 (by kernel_rfl)
      go_simp
      exact ⟨(MarkR wz.heap.size).refl _, rfl⟩
    refine ⟨fun u hu hd => ?_, ?_⟩
    · simp only [Act.put, zq1, zq2, zq3]
      have e49 : f1 49 = .bool true := hd 49 (by kernel_rfl)
      go_simp
      exact ⟨(MarkR wz.heap.size).refl _, rfl⟩
    refine ⟨fun u hu hd => ?_, ?_⟩
    · simp only [Act.put, zq1, zq2, zq3]
      have e49 : f1 49 = .bool true := hd 49 (by kernel_rfl)
      have e50 : f1 50 = .int .i64 6 := hd 50 (by kernel_rfl)
      go_simp
      refine (unum _ _).mono ?_
      rintro x9 w9 ⟨rfl, rfl⟩
      exact ⟨_, rfl, (MarkR wz.heap.size).refl _, rfl⟩
    refine ⟨fun u hu hd => ?_, ?_⟩
    · simp only [Act.put, zq1, zq2, zq3]
      have e49 : f1 49 = .bool true := hd 49 (by kernel_rfl)
      have e51 : f1 51 = .int .i64 6 := hd 51 (by kernel_rfl)
      go_simp
      exact ⟨(MarkR wz.heap.size).refl _, rfl⟩
    refine ⟨fun u hu hd => ?_, ?_⟩
    · simp only [Act.put, zq1, zq2, zq3]
      have e49 : f1 49 = .bool true := hd 49 (by kernel_rfl)
      have e52 : f1 52 = .bool true := hd 52 (by kernel_rfl)
      go_simp
      exact ⟨(MarkR wz.heap.size).refl _, rfl⟩
    refine ⟨fun u hu hd => ?_, ?_⟩
    · simp only [Act.put, zq1, zq2, zq3]
      have e53 : f1 53 = .bool true := hd 53 (by kernel_rfl)
      go_simp
      exact ⟨(MarkR wz.heap.size).refl _, rfl⟩
    refine ⟨fun u hu hd => ?_, ?_⟩
    · simp only [Act.put, zq1, zq2, zq3]
      have e54 : f1 54 = .bool true := hd 54 (by kernel_rfl)
      go_simp
      exact ⟨(MarkR wz.heap.size).refl _, rfl⟩
    refine ⟨fun u hu hd => ?_, ?_⟩
    · simp only [Act.put, zq1, zq2, zq3]
      have e54 : f1 54 = .bool true := hd 54 (by kernel_rfl)
      have e55 : f1 55 = .bool true := hd 55 (by kernel_rfl)
      go_simp
      exact ⟨(MarkR wz.heap.size).refl _, rfl⟩
    refine ⟨fun u hu hd => ?_, ?_⟩
    · simp only [Act.put, zq1, zq2, zq3]
      have e56 : f1 56 = .bool true := hd 56 (by kernel_rfl)
      go_simp
      exact ⟨(MarkR wz.heap.size).refl _, rfl⟩
    refine ⟨fun u hu hd => ?_, ?_⟩
    · simp only [Act.put, zq1, zq2, zq3]
      have e57 : f1 57 = .bool true := hd 57 (by kernel_rfl)
      have hu2 := hu
      have q0 := mark_cell hu2 y0
      have q1 := mark_cell hu2 y1
      have q2 := mark_cell hu2 y2
      have q3 := mark_cell hu2 y3
      go_simp
      exact ⟨(MarkR wz.heap.size).refl _, rfl⟩
    refine ⟨fun u hu hd => ?_, ?_⟩
    · simp only [Act.put, zq1, zq2, zq3]
      have e57 : f1 57 = .bool true := hd 57 (by kernel_rfl)
      go_simp
      refine (ulit_any (e := uE 98 9) (k := 98) (s := 9) rfl rfl (by decide) (by decide) (by decide) _).mono ?_
      rintro x9 w9 ⟨hx9, g9, rfl, hm9⟩
      exact ⟨_, rfl, mark_ext hx9, g9, rfl, hm9.wide (Nat.zero_le _) (Nat.le_refl _)⟩
    refine ⟨fun u hu hd => ?_, ?_⟩
    · simp only [Act.put, zq1, zq2, zq3]
      have e57 : f1 57 = .bool true := hd 57 (by kernel_rfl)
      have e58 : f1 58 = .agg #[.slice ge.kA (uE 98 9).key.length ge.kc, .int .i64 (uE 98 9).seq, .int .i64 (uE 98 9).kind, .slice ge.vA (uE 98 9).val.length ge.vc] := hd 58 (by kernel_rfl)
      obtain ⟨g9, e59, hm9⟩ := (show LitF (uE 98 9) (f1 59) u from hd 59 (by kernel_rfl))
      have hm8 : Em u 0 u.heap.size (uE 98 9) ge := (mark_em hu (show Em wz.drew 0 wz.heap.size (uE 98 9) ge from HMEZ.out.below (Ext.drew wz) (Nat.le_refl _))).wide (Nat.le_refl _) hu.2.2.2.1
      have HR9 := Lib.hid (rsame_any hm8 hm9 (Nat.le_refl _) (Nat.le_refl _))
      unfold Ent.at_ at e59 HR9
      clear hm8 hm9
      go_simp
      refine HR9.out.mono ?_
      rintro x9 w9 ⟨z, hz, rfl, hx9⟩
      obtain rfl : z = true := hz.2 rfl
      exact ⟨_, rfl, mark_ext hx9, rfl⟩
    refine ⟨fun u hu hd => ?_, ?_⟩
    · simp only [Act.put, zq1, zq2, zq3]
      have e57 : f1 57 = .bool true := hd 57 (by kernel_rfl)
      have e60 : f1 60 = .bool true := hd 60 (by kernel_rfl)
      go_simp
      exact ⟨(MarkR wz.heap.size).refl _, rfl⟩
    refine ⟨fun u hu hd => ?_, ?_⟩
    · simp only [Act.put, zq1, zq2, zq3]
      have e61 : f1 61 = .bool true := hd 61 (by kernel_rfl)
      go_simp
      exact ⟨(MarkR wz.heap.size).refl _, rfl⟩
    refine ⟨fun u hu hd => ?_, ?_⟩
    · simp only [Act.put, zq1, zq2, zq3]
      have e62 : f1 62 = .bool true := hd 62 (by kernel_rfl)
      go_simp
      exact ⟨(MarkR wz.heap.size).refl _, rfl⟩
    refine ⟨fun u hu hd => ?_, ?_⟩
    · simp only [Act.put, zq1, zq2, zq3]
      have e62 : f1 62 = .bool true := hd 62 (by kernel_rfl)
      go_simp
      exact ⟨mark_ext (ext_alloc _ _), _, (0, 0), rfl, hu.2.2.2.1, heap_at _ _ rfl⟩
    refine ⟨fun u hu hd => ?_, ?_⟩
    · simp only [Act.put, zq1, zq2, zq3]
      have e62 : f1 62 = .bool true := hd 62 (by kernel_rfl)
      obtain ⟨b9, fz9, e64, hB9, hb9⟩ := (show BlF wz.heap.size [99] (f1 64) u from hd 64 (by kernel_rfl))
      have HB9 := Lib.hid hb9
      have HBB9 := Lib.hid hB9
      have hcv := conv_const (n := 1) (c := 1) hb9
      dsimp only [List.length_cons, List.length_nil] at e64
      clear hb9 hB9
      go_simp
      obtain ⟨fz8, h8⟩ := freeze_at (k := 1) HB9.out
      exact ⟨mark_freeze HB9.out HBB9.out, b9, fz8, rfl, HBB9.out, h8⟩
    refine ⟨fun u hu hd => ?_, ?_⟩
    · simp only [Act.put, zq1, zq2, zq3]
      have e62 : f1 62 = .bool true := hd 62 (by kernel_rfl)
      have e63 : f1 63 = .pointer (some ⟨g2, 0, none⟩) := hd 63 (by kernel_rfl)
      obtain ⟨b9, fz9, e65, hB9, hb9⟩ := (show BlF wz.heap.size [99] (f1 65) u from hd 65 (by kernel_rfl))
      have e63 : f1 63 = .pointer (some ⟨g2, 0, none⟩) := hd 63 (by kernel_rfl)
      have HBS9 := Lib.hid (bl_bs (l := [99]) (by simp) hb9)
      have HC9 := Lib.hid (clip_any (e := false) (bA := none) (bc := 0) (b := []) (HMK.out u hu).2 HBS9.out (by decide) (Bs.nil _ _ _) (fun x hx => by cases hx) (by simp) (by simp))
      have HC8 : Hid (Calls Tryz.prog 40 #[.pointer (some ⟨g2, 0, none⟩), .slice (some ⟨b9, 0, none⟩) 1 1, .slice none 0 0, .bool false] u (ClipAns u [uT] uT [97, 0] [] [99] [] false false)) := HC9.out
      dsimp only [List.length_cons, List.length_nil] at e65
      clear hb9 hB9 HC9
      go_simp
      refine HC8.out.mono ?_
      rintro x9 w9 ⟨hx9, g9, rfl, htv9⟩
      exact ⟨_, rfl, mark_ext hx9, g9, rfl, htv9⟩
    refine ⟨fun u hu hd => ?_, ?_⟩
    · simp only [Act.put, zq1, zq2, zq3]
      have e62 : f1 62 = .bool true := hd 62 (by kernel_rfl)
      obtain ⟨g9, e66, htv9⟩ := (show ViewF [uT] uT [99] [] false (f1 66) u from hd 66 (by kernel_rfl))
      have HL9 := Lib.hid (tlen_any htv9.goes (by decide))
      have en9 : ((inV [99] [] false uT).length : Int) = 0 := by decide
      rw [en9] at HL9
      clear en9 htv9
      go_simp
      refine HL9.out.mono ?_
      rintro x9 w9 ⟨rfl, hx9⟩
      exact ⟨_, rfl, mark_ext hx9, rfl⟩
    refine ⟨fun u hu hd => ?_, ?_⟩
    · simp only [Act.put, zq1, zq2, zq3]
      have e62 : f1 62 = .bool true := hd 62 (by kernel_rfl)
      have e67 : f1 67 = .int .i64 0 := hd 67 (by kernel_rfl)
      go_simp
      exact ⟨(MarkR wz.heap.size).refl _, rfl⟩
    refine ⟨fun u hu hd => ?_, ?_⟩
    · simp only [Act.put, zq1, zq2, zq3]
      have e62 : f1 62 = .bool true := hd 62 (by kernel_rfl)
      have e68 : f1 68 = .bool true := hd 68 (by kernel_rfl)
      go_simp
      exact ⟨(MarkR wz.heap.size).refl _, rfl⟩
    refine ⟨fun u hu hd => ?_, ?_⟩
    · simp only [Act.put, zq1, zq2, zq3]
      have e69 : f1 69 = .bool true := hd 69 (by kernel_rfl)
      go_simp
      exact ⟨(MarkR wz.heap.size).refl _, rfl⟩
    trivial
end Go.Proofs.YthhgjeeangepaaaGreat
