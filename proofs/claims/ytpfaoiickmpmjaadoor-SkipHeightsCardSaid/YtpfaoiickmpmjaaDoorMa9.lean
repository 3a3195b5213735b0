/- Sgoes Sfrom Sref Flowr Smark, joined. -/
import Derived.Test.YtpfaoiickmpmjaaDoorMa8
import Derived.Test.YtpfaoiickmpmjaaDoorMa3

/- goes: a law goes over entries. -/
namespace Go.Proofs.YtpfaoiickmpmjaaDoor
open Go.ChangeShapes Go.WideShapes Go.ChangeAt Go.RowKit Go.Shelf
attribute [local go_sem] Oper.semAt_some

theorem copies_some (g : Nat) (w : World) : (binOp .eql 35 (.func (.func 61) #[] #[.pointer (some ⟨g, 0, none⟩)]) .nilFunc).run Tryd.prog w = .ok (.bool false) w := by kernel_rfl
/-- Between two rounds. -/
structure GoesI (w : World) (X : Option Addr) (N c : Nat) (most : Int) (n₁ k : Nat) (A : World) : Prop where
  below : Below w.heap.size w A
  num : Boxed A (w.heap.size + 3) 3 (.int .i64 (k : Int))
  res : Boxed A (w.heap.size + 2) 4 (.bool false)
  most : Boxed A (w.heap.size + 1) 3 (.int .i64 most)
  want : Boxed A w.heap.size 26 (.slice X N c)
  z1 : n₁ ≤ A.heap.size

set_option maxRecDepth 100000 in
set_option maxHeartbeats 8000000 in
theorem goes_any {w : World} {bd lo2 hi2 c2 : Nat} {X : Option Addr} {L2 : List (Ent × Hd)} {L : List Tw} {C : World → Prop} {most : Int} (hseq : Iter Tryd.prog 61 #[.pointer (some ⟨bd, 0, none⟩)] L.length rowV (CopOk L) C w) (hC : ∀ A, Below w.heap.size w A → C A) (hins : ∀ t ∈ L, InE t.e)
    (h2 : Es w lo2 hi2 X L2) (hhi2 : hi2 ≤ w.heap.size) (hl2 : L2.length ≤ 1000000000000) (hfit : L.map Tw.e = L2.map Prod.fst) :
    Calls Tryd.prog 18 #[.func (.func 61) #[] #[.pointer (some ⟨bd, 0, none⟩)], .slice X L2.length c2, .int .i64 most] w fun e w' => e = .returned (.bool true) ∧ Below w.heap.size w w' := by
  obtain ⟨w1, hw1⟩ : ∃ w1, w1 = (((w.alloc (.cells #[.slice X L2.length c2] 26)).alloc (.cells #[.int .i64 most] 3)).alloc (.cells #[.bool false] 4)).alloc (.cells #[.int .i64 0] 3) := ⟨_, rfl⟩
  have HX1 : Hid (Ext w w1) := by rw [hw1]; exact Ext.trans (Ext.trans (Ext.trans (ext_alloc _ _) (ext_alloc _ _)) (ext_alloc _ _)) (ext_alloc _ _)
  have HZ1 : Hid (w1.heap.size = w.heap.size + 4) := by rw [hw1]; simp [Hid]
  have HB0 : Hid (Boxed w1 w.heap.size 26 (.slice X L2.length c2)) := by rw [hw1]; exact ext_heap (Ext.trans (Ext.trans (ext_alloc _ _) (ext_alloc _ _)) (ext_alloc _ _)) (heap_at _ _ rfl)
  have HB1 : Hid (Boxed w1 (w.heap.size + 1) 3 (.int .i64 most)) := by rw [hw1]; exact ext_heap (Ext.trans (ext_alloc _ _) (ext_alloc _ _)) (heap_at _ _ (by simp))
  have HB2 : Hid (Boxed w1 (w.heap.size + 2) 4 (.bool false)) := by rw [hw1]; exact ext_heap (ext_alloc _ _) (heap_at _ _ (by simp))
  have HB3 : Hid (Boxed w1 (w.heap.size + 3) 3 (.int .i64 0)) := by rw [hw1]; exact heap_at _ _ (by simp)
  have HSEQ := Lib.hid hseq
  have HC := Lib.hid hC
  have HINS := Lib.hid hins
  have HE2 := Lib.hid h2
  have HHI2 := Lib.hid hhi2
  have HL2 := Lib.hid hl2
  have HFIT := Lib.hid hfit
  have hlen : L.length = L2.length := by have := congrArg List.length hfit; simpa using this
  have HLEN := Lib.hid hlen
  have hlI : (L2.length : Int) ≤ 1000000000000 := by omega
  have hfn := copies_some bd
  clear hseq hC hins h2 hhi2 hl2 hfit hlen
  have hf2 : Fence.wide.fn 22 := trivial
  refine (callsIn_wide (n := 6)).1 ?_
  refine callsIn_of_wp_marks Tryd.func18 rfl trivial ?_
  simp only [Tryd.ntmps18, List.size_toArray, List.length_cons, List.length_nil, Nat.reduceAdd, Nat.reduceSub, Array.replicate_succ, Array.replicate_zero, List.push_toArray, List.append_toArray, List.nil_append, List.cons_append]
  gi_wp2_with fail
  rw [← hw1]
  clear hw1 hfn
  refine wpIn_over rfl enters_copies1 (Iter.ext HSEQ.out HX1.out) (fun _ => rfl) (GoesI w X L2.length c2 most) (fun c A => c = .ret ∧ Boxed A (w.heap.size + 2) 4 (.bool true) ∧ Below w.heap.size w A) (fun _ _ _ h => HC.out _ h.below) ?hI ?hIx ?h0 ?round ?done ?stop
  case hI =>
    intro n₁ k A1 A2 hn hi hc
    have z1 := HZ1.out
    exact ⟨hi.below.trans (hc.below (fun i hb => by have := hb.1; omega) hi.below.size), boxed_chg hi.num hc (fun hb => by have := hb.1; omega), boxed_chg hi.res hc (fun hb => by have := hb.1; omega),
      boxed_chg hi.most hc (fun hb => by have := hb.1; omega), boxed_chg hi.want hc (fun hb => by have := hb.1; omega), Nat.le_trans hi.z1 hc.size⟩
  case hIx =>
    rintro c A1 A2 ⟨rfl, hb, hbl⟩ hc
    have z1 := HZ1.out
    exact ⟨rfl, boxed_chg hb hc (fun h => by have h : w1.heap.size ≤ _ := h; omega), hbl.trans (hc.below (fun i h => by have h : w1.heap.size ≤ i := h; omega) hbl.size)⟩
  case h0 =>
    intro A1 hx
    exact ⟨Ext.trans HX1.out hx, ext_heap hx HB3.out, ext_heap hx HB2.out, ext_heap hx HB1.out, ext_heap hx HB0.out, Nat.le_refl _⟩
  case round =>
    rintro l2 n₁ k ⟨e, g⟩ A1 hl1 hl2 hn hnA hi hk ⟨p, hp, he, hmk, hmv⟩
    have he' : e = p.e := he
    subst he'
    have HINE := Lib.hid (HINS.out p (List.mem_of_getElem? hp))
    have HMK := Lib.hid hmk
    have HMV := Lib.hid hmv
    have HI1 := Lib.hid hi
    have HN1 := Lib.hid hn
    have HL12 := Lib.hid (And.intro hl1 hl2)
    have HK1 := Lib.hid hk
    obtain ⟨q, hq⟩ : ∃ q, L2[k]? = some q := ⟨_, List.getElem?_eq_getElem (by have := HLEN.out; omega)⟩
    have heq : p.e = q.1 := by
      have h1 := congrArg (fun l => l[k]?) HFIT.out
      simp only [List.getElem?_map, hp, hq, Option.map_some] at h1
      injection h1 with h1
    have HQ := Lib.hid hq
    have HEQ := Lib.hid heq
    obtain ⟨e, he⟩ : ∃ e, e = p.e := ⟨_, rfl⟩
    rw [← he] at HINE HMK HMV HEQ ⊢
    clear hl1 hl2 hn hnA hi hk hp hmk hmv hq heq he
    dsimp only at HMK HMV
    dsimp only [rowV, Ent.at_]
    gi_wp2
    obtain ⟨A2, hA2⟩ : ∃ A2, A2 = A1.alloc (.cells #[.slice g.kA e.key.length g.kc, .int .i64 e.seq, .int .i64 e.kind, .slice g.vA e.val.length g.vc] 40) := ⟨_, rfl⟩
    rw [← hA2]
    have HX2 : Hid (Ext A1 A2) := by rw [hA2]; exact ext_alloc _ _
    have HBE : Hid (A2.heap[A1.heap.size]? = some (.cells #[.slice g.kA e.key.length g.kc, .int .i64 e.seq, .int .i64 e.kind, .slice g.vA e.val.length g.vc] 40 (0, 0))) := by rw [hA2]; exact heap_at _ _ rfl
    clear hA2
    refine ⟨Step.of_chg (S := fun _ => False) (Chg.of_ext HX2.out) HI1.out.z1 (fun _ _ _ h => h), fun A3 hc => ?_⟩
    have HCH : Hid (Chg (fun i => i = l2) A1 A3) := (Chg.of_ext HX2.out).trans hc
    have HI3 : Hid (GoesI w X L2.length c2 most n₁ k A3) := by
      have hi := HI1.out
      have h12 := HL12.out
      have hc := HCH.out
      have z1 := HZ1.out
      exact ⟨hi.below.trans (hc.below (fun i hb => by omega) hi.below.size), boxed_chg hi.num hc (fun hb => by omega), boxed_chg hi.res hc (fun hb => by omega),
        boxed_chg hi.most hc (fun hb => by omega), boxed_chg hi.want hc (fun hb => by omega), Nat.le_trans hi.z1 hc.size⟩
    have HM3 : Hid (Em A3 0 A3.heap.size e g) := by
      obtain ⟨a1, a2, a3, a4, a5⟩ := HINE.out.s
      have k3 : Own n₁ e.key (.slice g.kA e.key.length g.kc) A3 := row_chg HMK.out HCH.out (fun i h1 h2 => by have := HL12.out.2; omega)
      have v3 : Own n₁ e.val (.slice g.vA e.val.length g.vc) A3 := row_chg HMV.out HCH.out (fun i h1 h2 => by have := HL12.out.2; omega)
      exact k3.em v3 HINE.out.bk HINE.out.bv (by omega) (by omega) (by rcases a5 with ⟨a, _⟩ | ⟨a, _⟩ <;> omega) (by rcases a5 with ⟨a, _⟩ | ⟨a, _⟩ <;> omega)
    have HB3' : Hid (A3.heap[A1.heap.size]? = some (.cells #[.slice g.kA e.key.length g.kc, .int .i64 e.seq, .int .i64 e.kind, .slice g.vA e.val.length g.vc] 40 (0, 0))) :=
      (hc.block _ (Array.getElem?_eq_some_iff.1 HBE.out).1 (fun e => by have := HI1.out.z1; have := HL12.out.2; omega)).trans HBE.out
    have HE3 := Lib.hid (HE2.out.below HI3.out.below HHI2.out)
    obtain ⟨b, o, rfl⟩ := HE3.out.base (by have := (List.getElem?_eq_some_iff.1 HQ.out).1; omega)
    obtain ⟨d0, d1, d2, d3⟩ := HE3.out.get HQ.out
    have HRS : Hid (∀ u, Ext A3 u → Calls Tryd.prog 22 #[.agg #[.slice g.kA e.key.length g.kc, .int .i64 e.seq, .int .i64 e.kind, .slice g.vA e.val.length g.vc], .agg #[.slice q.2.kA q.1.key.length q.2.kc, .int .i64 q.1.seq, .int .i64 q.1.kind, .slice q.2.vA q.1.val.length q.2.vc]] u fun x w' => x = .returned (.bool true) ∧ Ext u w') := fun u hu => by
      refine (rsame_any (HM3.out.below hu (Nat.le_refl _)) (((HE3.out.below hu (Nat.le_trans HHI2.out HI3.out.below.size)).each q (List.mem_of_getElem? HQ.out))) hu.size (Nat.le_trans (Nat.le_trans HHI2.out HI3.out.below.size) hu.size)).mono ?_
      rintro x w' ⟨z, hz, rfl, hx⟩
      have : z = true := hz.2 HEQ.out
      subst this
      exact ⟨rfl, hx⟩
    have b0 := HI3.out.num.cell
    have f0 := HI3.out.num.frozen
    have b1 := HI3.out.want.cell
    have b2 := HI3.out.most.cell
    have e0 := cell_of HB3'.out (k := 0) rfl
    have e1 := cell_of HB3'.out (k := 1) rfl
    have e2 := cell_of HB3'.out (k := 2) rfl
    have e3 := cell_of HB3'.out (k := 3) rfl
    have hkl : k < L2.length := (List.getElem?_eq_some_iff.1 HQ.out).1
    have dk : decide ((L2.length : Int) ≤ (k : Int)) = false := by simp; omega
    have dkn : decide (L2.length ≤ k) = false := by simp; omega
    have n1 : (0 : Int) ≤ (k : Int) := by omega
    have n2 : (k : Int) < (L2.length : Int) := by omega
    have HKL := Lib.hid hkl
    have HMIX : Tryd.prog.follows .mixedOrders = true := by kernel_rfl
    clear hc hkl
    gi_wp2
    refine flow_in HMIX (by kernel_rfl) (fun _ _ h => h) [Is (.int .i64 (k : Int)), Is (.slice (some ⟨b, o, none⟩) L2.length c2), Is (.int .i64 (L2.length : Int)), Is (.bool false), Is (.bool false), Is (.agg #[.slice g.kA e.key.length g.kc, .int .i64 e.seq, .int .i64 e.kind, .slice g.vA e.val.length g.vc]), Is (.slice (some ⟨b, o, none⟩) L2.length c2), Is (.int .i64 (k : Int)), Is (.pointer (some ⟨b, o + k * 4, none⟩)), Is (.agg #[.slice q.2.kA q.1.key.length q.2.kc, .int .i64 q.1.seq, .int .i64 q.1.kind, .slice q.2.vA q.1.val.length q.2.vc]), Is (.bool true), Is (.bool false), Is (.bool false)] (by kernel_rfl) (by kernel_rfl) ?mono (fun f1 => ?obl) ?fin
    case mono =>
      simp only [List.forall_mem_cons, List.not_mem_nil, false_imp_iff, implies_true, and_true]
      exact ⟨.is _, .is _, .is _, .is _, .is _, .is _, .is _, .is _, .is _, .is _, .is _, .is _, .is _⟩
    case fin =>
      intro g1 u hu hg
      simp only [puts, Act.put, List.setIfInBounds_toArray, List.set_cons_zero, List.set_cons_succ]
      have h12 : g1 12 = .bool false := hg 12 (by decide)
      rw [h12]
      have HU : Hid (Ext A3 u) := Ext.trans (Ext.drew A3) hu
      have b0 := ext_cell HU.out b0
      have b2 := ext_cell HU.out b2
      have f0 : u.frozen? ⟨w.heap.size + 3, 0, none⟩ = false := Boxed.frozen (ext_heap HU.out HI3.out.num)
      have hres := ext_heap HU.out HI3.out.res
      have r0 := Boxed.cell hres
      have rf := Boxed.frozen hres
      have HRES := Lib.hid hres
      clear h12 hg hu e0 e1 e2 e3 d0 d1 d2 d3 hres
      have hi := HI3.out
      have hnum : Boxed u (w.heap.size + 3) 3 (.int .i64 (k : Int)) := ext_heap HU.out hi.num
      have HNUM := Lib.hid hnum
      clear hi hnum
      by_cases hm : (k : Int) + 1 = most
      · have dm : ((k : Int) + 1 == most) = true := by simpa using hm
        clear hm
        gi_wp2
        have hi := HI3.out
        have z1 := HZ1.out
        have hS : Chg (fun i => i = w.heap.size + 3 ∨ i = w.heap.size + 2) A3 ((u.setCell ⟨w.heap.size + 3, 0, none⟩ (.int .i64 ((k : Int) + 1))).setCell ⟨w.heap.size + 2, 0, none⟩ (.bool true)) := ((Chg.of_ext HU.out).trans (Chg.setCell _ _ _ (.inl rfl))).trans (Chg.setCell _ _ _ (.inr rfl))
        have hb2 : Boxed (u.setCell ⟨w.heap.size + 3, 0, none⟩ (.int .i64 ((k : Int) + 1))) (w.heap.size + 2) 4 (.bool false) := (Below.heap_setCell _ _ _ _ (by show w.heap.size + 2 ≠ w.heap.size + 3; omega)).trans HRES.out
        exact ⟨Step.of_chg hS hi.z1 (fun i h1 h2 h3 => by omega), rfl, hb2.set _, hi.below.trans (hS.below (fun i hb => by omega) hi.below.size)⟩
      · have dm : ((k : Int) + 1 == most) = false := by simpa using hm
        clear hm
        gi_wp2
        have hi := HI3.out
        have hS : Chg (fun i => i = w.heap.size + 3) A3 (u.setCell ⟨w.heap.size + 3, 0, none⟩ (.int .i64 ((k : Int) + 1))) := (Chg.of_ext HU.out).trans (Chg.setCell _ _ _ rfl)
        have z1 := HZ1.out
        exact ⟨Step.of_chg hS hi.z1 (fun i h1 h2 h3 => by omega), hi.below.trans (hS.below (fun i hb => by omega) hi.below.size), HNUM.out.set _, boxed_chg hi.res hS (fun hb => by omega),
          boxed_chg hi.most hS (fun hb => by omega), boxed_chg hi.want hS (fun hb => by omega), Nat.le_trans hi.z1 hS.size⟩
    case obl =>
      refine ⟨fun u hu hd => ?_, ?_⟩
      · have hu2 := Ext.trans (Ext.drew A3) hu
        have q1 := ext_cell hu2 b0
        go_simp
        exact ⟨Ext.refl _, rfl⟩
      refine ⟨fun u hu hd => ?_, ?_⟩
      · simp only [Act.put, List.setIfInBounds_toArray, List.set_cons_zero, List.set_cons_succ]
        have hu2 := Ext.trans (Ext.drew A3) hu
        have q1 := ext_cell hu2 b1
        go_simp
        exact ⟨Ext.refl _, rfl⟩
      refine ⟨fun u hu hd => ?_, ?_⟩
      · simp only [Act.put, List.setIfInBounds_toArray, List.set_cons_zero, List.set_cons_succ]
        have e1 : f1 1 = (.slice (some ⟨b, o, none⟩) L2.length c2) := hd 1 (by kernel_rfl)
        go_simp
        exact ⟨Ext.refl _, rfl⟩
      refine ⟨fun u hu hd => ?_, ?_⟩
      · simp only [Act.put, List.setIfInBounds_toArray, List.set_cons_zero, List.set_cons_succ]
        have e0 : f1 0 = (.int .i64 (k : Int)) := hd 0 (by kernel_rfl)
        have e2 : f1 2 = (.int .i64 (L2.length : Int)) := hd 2 (by kernel_rfl)
        go_simp
        exact ⟨Ext.refl _, rfl⟩
      refine ⟨fun u hu hd => ?_, ?_⟩
      · simp only [Act.put, List.setIfInBounds_toArray, List.set_cons_zero, List.set_cons_succ]
        have e3 : f1 3 = (.bool false) := hd 3 (by kernel_rfl)
        go_simp
        exact ⟨Ext.refl _, rfl⟩
      refine ⟨fun u hu hd => ?_, ?_⟩
      · simp only [Act.put, List.setIfInBounds_toArray, List.set_cons_zero, List.set_cons_succ]
        have e4' : f1 4 = .bool false := hd 4 (by kernel_rfl)
        have hu2 := Ext.trans (Ext.drew A3) hu
        have q0 := ext_cell hu2 e0
        have q1 := ext_cell hu2 e1
        have q2 := ext_cell hu2 e2
        have q3 := ext_cell hu2 e3
        go_simp
        exact ⟨Ext.refl _, rfl⟩
      refine ⟨fun u hu hd => ?_, ?_⟩
      · simp only [Act.put, List.setIfInBounds_toArray, List.set_cons_zero, List.set_cons_succ]
        have e4' : f1 4 = .bool false := hd 4 (by kernel_rfl)
        have hu2 := Ext.trans (Ext.drew A3) hu
        have q1 := ext_cell hu2 b1
        go_simp
        exact ⟨Ext.refl _, rfl⟩
      refine ⟨fun u hu hd => ?_, ?_⟩
      · simp only [Act.put, List.setIfInBounds_toArray, List.set_cons_zero, List.set_cons_succ]
        have e4' : f1 4 = .bool false := hd 4 (by kernel_rfl)
        have hu2 := Ext.trans (Ext.drew A3) hu
        have q1 := ext_cell hu2 b0
        go_simp
        exact ⟨Ext.refl _, rfl⟩
      refine ⟨fun u hu hd => ?_, ?_⟩
      · simp only [Act.put, List.setIfInBounds_toArray, List.set_cons_zero, List.set_cons_succ]
        have e4' : f1 4 = .bool false := hd 4 (by kernel_rfl)
        have e6 : f1 6 = (.slice (some ⟨b, o, none⟩) L2.length c2) := hd 6 (by kernel_rfl)
        have e7 : f1 7 = (.int .i64 (k : Int)) := hd 7 (by kernel_rfl)
        go_simp
        exact ⟨Ext.refl _, rfl⟩
      refine ⟨fun u hu hd => ?_, ?_⟩
      · simp only [Act.put, List.setIfInBounds_toArray, List.set_cons_zero, List.set_cons_succ]
        have e4' : f1 4 = .bool false := hd 4 (by kernel_rfl)
        have e8 : f1 8 = (.pointer (some ⟨b, o + k * 4, none⟩)) := hd 8 (by kernel_rfl)
        have hu2 := Ext.trans (Ext.drew A3) hu
        have q0 := ext_cell hu2 d0
        have q1 := ext_cell hu2 d1
        have q2 := ext_cell hu2 d2
        have q3 := ext_cell hu2 d3
        go_simp
        exact ⟨Ext.refl _, rfl⟩
      refine ⟨fun u hu hd => ?_, ?_⟩
      · simp only [Act.put, List.setIfInBounds_toArray, List.set_cons_zero, List.set_cons_succ]
        have e4' : f1 4 = .bool false := hd 4 (by kernel_rfl)
        have e5 : f1 5 = (.agg #[.slice g.kA e.key.length g.kc, .int .i64 e.seq, .int .i64 e.kind, .slice g.vA e.val.length g.vc]) := hd 5 (by kernel_rfl)
        have e9 : f1 9 = (.agg #[.slice q.2.kA q.1.key.length q.2.kc, .int .i64 q.1.seq, .int .i64 q.1.kind, .slice q.2.vA q.1.val.length q.2.vc]) := hd 9 (by kernel_rfl)
        have hu2 := Ext.trans (Ext.drew A3) hu
        go_simp
        refine (HRS.out u hu2).mono ?_
        rintro x w9 ⟨rfl, hx9⟩
        exact ⟨_, rfl, hx9, rfl⟩
      refine ⟨fun u hu hd => ?_, ?_⟩
      · simp only [Act.put, List.setIfInBounds_toArray, List.set_cons_zero, List.set_cons_succ]
        have e4' : f1 4 = .bool false := hd 4 (by kernel_rfl)
        have e10 : f1 10 = (.bool true) := hd 10 (by kernel_rfl)
        go_simp
        exact ⟨Ext.refl _, rfl⟩
      refine ⟨fun u hu hd => ?_, ?_⟩
      · simp only [Act.put, List.setIfInBounds_toArray, List.set_cons_zero, List.set_cons_succ]
        have e4' : f1 4 = .bool false := hd 4 (by kernel_rfl)
        have e11 : f1 11 = (.bool false) := hd 11 (by kernel_rfl)
        go_simp
        exact ⟨Ext.refl _, rfl⟩
      trivial
  case done =>
    rintro D' n₁ W' hDl hDn hn hi hD
    rw [HLEN.out] at hi
    have HDL := Lib.hid (And.intro hDl hDn)
    have HDD := Lib.hid hD
    have HI := Lib.hid hi
    have q0 := hi.num.cell
    have q1 := hi.want.cell
    have q2 := hi.res.cell
    have f2 := hi.res.frozen
    clear hDl hDn hn hi hD
    gi_wp2
    have hne : D' ≠ w.heap.size + 2 := by have h1 := HDL.out; have h2 := HZ1.out; omega
    have HD2 : Hid ((W'.setCell ⟨w.heap.size + 2, 0, none⟩ (.bool true)).heap[D']? = some (.deferred (some []))) := (Below.heap_setCell _ _ _ _ hne).trans HDD.out
    have HBR : Hid (Boxed (W'.setCell ⟨w.heap.size + 2, 0, none⟩ (.bool true)) (w.heap.size + 2) 4 (.bool true)) := HI.out.res.set _
    have HBW : Hid (Below w.heap.size w (W'.setCell ⟨w.heap.size + 2, 0, none⟩ (.bool true))) := Below.setCell HI.out.below (show w.heap.size ≤ w.heap.size + 2 by omega) _
    refine ⟨by simp, .inl ⟨_, _, rfl, run_takeDeferred HD2.out, ?_⟩⟩
    refine ⟨_, results_cell_bool Tryd.results18 _ _ (w.heap.size + 2) true rfl (Boxed.cell (boxed_chg HBR.out (putObj_chg _ D' _) (fun e => hne e.symm))), ⟨rfl, ?_⟩⟩
    exact HBW.out.trans ((putObj_chg _ D' _).below (fun i e => by have h1 := HDL.out; have h2 := HZ1.out; omega) HBW.out.size)
  case stop =>
    rintro D' c W' hDl ⟨rfl, hbr, hbl⟩ hD
    have HDL := Lib.hid hDl
    have HBR := Lib.hid hbr
    have HBW := Lib.hid hbl
    have HDD := Lib.hid hD
    clear hDl hbr hbl hD
    gi_wp2
    have hne : D' ≠ w.heap.size + 2 := by have h1 := HDL.out; have h2 := HZ1.out; omega
    refine ⟨by simp, .inl ⟨_, _, rfl, run_takeDeferred HDD.out, ?_⟩⟩
    refine ⟨_, results_cell_bool Tryd.results18 _ _ (w.heap.size + 2) true rfl (Boxed.cell (boxed_chg HBR.out (putObj_chg _ D' _) (fun e => hne e.symm))), ⟨rfl, ?_⟩⟩
    exact HBW.out.trans ((putObj_chg _ D' _).below (fun i e => by have h1 := HDL.out; have h2 := HZ1.out; omega) HBW.out.size)
end Go.Proofs.YtpfaoiickmpmjaaDoor

/- From and Level: functions over which one ranges. -/
namespace Go.Proofs.YtpfaoiickmpmjaaDoor
open Go.ChangeShapes Go.WideShapes Go.ChangeAt Go.RowKit Go.Shelf

theorem Iter.promise {P : Program} {α : Type} {gf : Nat} {lb : Array Value} {len : Nat} {encs : α → Array Value} {Ok : Nat → Nat → α → World → Prop} {C C' : World → Prop} {w : World} (h : Iter P gf lb len encs Ok C w) (hc : ∀ A, C' A → C A) : Iter P gf lb len encs Ok C' w :=
  fun m l J Jx W hW hC => h m l J Jx W hW (fun n₁ k A hj => hc A (hC n₁ k A hj))
/-- What From and Level answer: a function that goes over the towers L, each in new memory. -/
def GoAns (w : World) (L : List Tw) (e : Ending) (w' : World) : Prop :=
  Ext w w' ∧ ∃ bd, e = .returned (.func (.func 61) #[] #[.pointer (some ⟨bd, 0, none⟩)]) ∧ Iter Tryd.prog 61 #[.pointer (some ⟨bd, 0, none⟩)] L.length rowV (CopOk L) (fun A => Below w'.heap.size w' A) w'
theorem rowOf_ins {T : List Tw} (h : ∀ t ∈ T, InE t.e) (q : Ent → Bool) (n : Nat) : ∀ t ∈ rowOf T q n, InE t.e := fun t ht => h t (List.mem_of_mem_drop (List.mem_filter.1 ht).1)
theorem go_ans {w w5 : World} {L : List Tw} {N : Nat} {caps : Array Value} {C : World → Prop} (hx : Ext w w5) (hin : Iter Tryd.prog 62 caps L.length rowV (RowOk L N) C w5) (hN : N ≤ w5.heap.size) (hins : ∀ t ∈ L, InE t.e) (hC : ∀ A, Below w5.heap.size w5 A → C A) :
    GoAns w L (.returned (.func (.func 61) #[] #[.pointer (some ⟨w5.heap.size, 0, none⟩)])) (w5.alloc (.cells #[.func (.func 62) #[] caps] 35)) := by
  have hx6 := ext_alloc w5 (.cells #[.func (.func 62) #[] caps] 35)
  refine ⟨Ext.trans hx hx6, w5.heap.size, rfl, Iter.promise (copies_iter (hin.ext hx6) enters_row1 (Nat.le_trans hN hx6.size) hins (cell_of (heap_at _ _ rfl) rfl)) fun A hA => hC A ?_⟩
  exact Below.trans hx6 ⟨hA.os, hA.tape, hA.output, hA.size, fun i hi => hA.block i (Nat.lt_of_lt_of_le hi hx6.size)⟩

/-- A row of nothing. -/
theorem row_far {w : World} {b0 b1 b2 lb : Nat} {n : Int} {x y z : Value} {hd : Addr} {Ok : Nat → Nat → (Ent × Hd) → World → Prop} {C : World → Prop} (hl : w.heap[lb]? = some (.cells #[.pointer (some hd), x, y] 65 (0, 0))) (hn : n < 0 ∨ 8 ≤ n)
    (x0 : w.cell? ⟨b0, 0, none⟩ = some (.pointer (some ⟨lb, 0, none⟩))) (x1 : w.cell? ⟨b1, 0, none⟩ = some (.int .i64 n)) (_x2 : w.cell? ⟨b2, 0, none⟩ = some z) :
    Iter Tryd.prog 62 #[.pointer (some ⟨b0, 0, none⟩), .pointer (some ⟨b1, 0, none⟩), .pointer (some ⟨b2, 0, none⟩)] 0 rowV Ok C w := by
  intro mm l J Jx W hx hC hJ hJx h0 hY
  have HJ0 := Lib.hid (h0 W (Ext.refl _))
  have HNN := Lib.hid (none_no (ext_heap hx hl))
  have x0 := ext_cell hx x0
  have x1 := ext_cell hx x1
  clear hC hJ hJx h0 hY hl hx
  by_cases h1 : n < 0
  · have d1 : decide (n < 0) = true := by simp; omega
    clear h1 hn
    go_enter Tryd.func62, Tryd.ntmps62
    go_wp2_with fail
    refine Calls.mono HNN.out ?_
    rintro e w' ⟨rfl, hw'⟩
    have hw' := hw'.symm
    subst hw'
    go_wp2
    refine bodyPost_ret (results_none rfl _ _ _) rfl ?_
    exact ⟨⟨_, rfl⟩, .inl ⟨_, Nat.le_refl _, HJ0.out⟩⟩
  · have d1 : decide (n < 0) = false := by simp; omega
    have d2 : decide (8 ≤ n) = true := by simp; omega
    clear h1 hn
    go_enter Tryd.func62, Tryd.ntmps62
    go_wp2_with fail
    refine Calls.mono HNN.out ?_
    rintro e w' ⟨rfl, hw'⟩
    have hw' := hw'.symm
    subst hw'
    go_wp2
    refine bodyPost_ret (results_none rfl _ _ _) rfl ?_
    exact ⟨⟨_, rfl⟩, .inl ⟨_, Nat.le_refl _, HJ0.out⟩⟩
/-- A list that is none. -/
def NoList (w : World) (d : Option Addr) : Prop := d = none ∨ ∃ lb, d = some ⟨lb, 0, none⟩ ∧ w.cell? ⟨lb, 0, none⟩ = some (.pointer none)
theorem NoList.ext {w w' : World} {d : Option Addr} (h : NoList w d) (hx : Ext w w') : NoList w' d := by
  rcases h with h | ⟨lb, h1, h2⟩
  · exact .inl h
  · exact .inr ⟨lb, h1, ext_cell hx h2⟩
/-- The three boxes of a row. -/
theorem row_boxes (w : World) (a b c : Value) (t1 t2 t3 : TypeId) : (((w.alloc (.cells #[a] t1)).alloc (.cells #[b] t2)).alloc (.cells #[c] t3)).cell? ⟨w.heap.size, 0, none⟩ = some a ∧ (((w.alloc (.cells #[a] t1)).alloc (.cells #[b] t2)).alloc (.cells #[c] t3)).cell? ⟨w.heap.size + 1, 0, none⟩ = some b ∧
    (((w.alloc (.cells #[a] t1)).alloc (.cells #[b] t2)).alloc (.cells #[c] t3)).cell? ⟨w.heap.size + 2, 0, none⟩ = some c :=
  ⟨cell_of (ext_heap (Ext.trans (ext_alloc _ _) (ext_alloc _ _)) (heap_at _ _ rfl)) rfl, cell_of (ext_heap (ext_alloc _ _) (heap_at _ _ (by simp))) rfl, cell_of (heap_at _ _ (by simp)) rfl⟩
theorem row3 (w : World) (a b c : Value) (t1 t2 t3 : TypeId) : Ext w (((w.alloc (.cells #[a] t1)).alloc (.cells #[b] t2)).alloc (.cells #[c] t3)) := Ext.trans (Ext.trans (ext_alloc _ _) (ext_alloc _ _)) (ext_alloc _ _)

set_option maxHeartbeats 2000000 in
theorem sfrom_any {w : World} {D : Nat → Prop} {lb hb lo hi : Nat} {v : Value} {T : List Tw} {key : List Nat} (h : Sk w D lb hb T) (hk : Bs w lo hi v key) (hhi : hi ≤ w.heap.size) (bk : ∀ x ∈ key, x < 256) (hl : key.length ≤ 1099511627776) :
    Calls Tryd.prog 19 #[.pointer (some ⟨lb, 0, none⟩), v] w (GoAns w (rowOf T (belowK key) 0)) := by
  have H := Lib.hid h
  have HBK := Lib.hid bk
  have HCL := Lib.hid (clone_any v lo hi key w hk hhi hl)
  clear h hk hhi bk hl
  go_enter Tryd.func19, Tryd.ntmps19
  go_wp2_with fail
  refine Calls.mono HCL.out ?_
  rintro e w1 ⟨v1, rfl, hown, hb1⟩
  obtain ⟨kA, kc, rfl⟩ := Own.slice (B := w.heap.size) (l := key) hown
  have HX1 : Hid (Ext w w1) := hb1
  have HB1 := Lib.hid (Own.bs (B := w.heap.size) (l := key) hown)
  clear hown hb1
  go_wp2_with fail
  obtain ⟨w2, hw2⟩ : ∃ w2, w2 = w1.alloc (.cells #[.slice kA key.length kc] 22) := ⟨_, rfl⟩
  rw [← hw2]
  have HX2 : Hid (Ext w1 w2) := by rw [hw2]; exact ext_alloc _ _
  have HAF := Lib.hid (from1_fn (w := w2) (p := w1.heap.size) (HB1.out.below HX2.out (Nat.le_refl _)) HX2.out.size HBK.out (by rw [hw2]; exact heap_at _ _ rfl))
  clear hw2
  refine Calls.mono (srow_any _ _ _ _ _) ?_
  rintro e w5 ⟨rfl, hw5⟩
  have hb := row_boxes w2 (.pointer (some ⟨lb, 0, none⟩)) (.int .i64 0) (.func (.func 45) #[] #[.pointer (some ⟨w1.heap.size, 0, none⟩)]) 28 3 75
  have hx := row3 w2 (.pointer (some ⟨lb, 0, none⟩)) (.int .i64 0) (.func (.func 45) #[] #[.pointer (some ⟨w1.heap.size, 0, none⟩)]) 28 3 75
  rw [← hw5] at hb hx
  have hx5 := Ext.trans (Ext.trans HX1.out HX2.out) hx
  have hit := row_iter (n := 0) (H.out.ext hx5) (HAF.out.ext hx) (H.out.asc.belowK key) (by decide) hb.1 hb.2.1 hb.2.2
  have HGO := Lib.hid (go_ans hx5 hit (Nat.le_refl _) (rowOf_ins H.out.ins _ _) (fun A hA k _ hlt => hA.block k hlt))
  clear hw5 hb hx hx5 hit
  go_wp2_with fail
  refine Calls.mono (scopies_any _ _ _) ?_
  rintro e w6 ⟨rfl, hw6⟩
  rw [← hw6] at HGO
  clear hw6
  go_wp2_with fail
  go_ret
  exact HGO.out

set_option maxHeartbeats 2000000 in
theorem slevel_any {w : World} {D : Nat → Prop} {lb hb n : Nat} {T : List Tw} (h : Sk w D lb hb T) (hn : n < 8) :
    Calls Tryd.prog 26 #[.pointer (some ⟨lb, 0, none⟩), .int .i64 (n : Int)] w (GoAns w (rowOf T nobodyE n)) := by
  have H := Lib.hid h
  have HN := Lib.hid hn
  clear h hn
  go_enter Tryd.func26, Tryd.ntmps26
  go_wp2_with fail
  refine Calls.mono (srow_any _ _ _ _ _) ?_
  rintro e w5 ⟨rfl, hw5⟩
  have hb := row_boxes w (.pointer (some ⟨lb, 0, none⟩)) (.int .i64 (n : Int)) (.func (.func 51) #[] #[]) 28 3 75
  have hx := row3 w (.pointer (some ⟨lb, 0, none⟩)) (.int .i64 (n : Int)) (.func (.func 51) #[] #[]) 28 3 75
  rw [← hw5] at hb hx
  have hit := row_iter (n := n) (H.out.ext hx) (nobody_fn w5) (nobody_pair _) HN.out hb.1 hb.2.1 hb.2.2
  have HGO := Lib.hid (go_ans hx hit (Nat.le_refl _) (rowOf_ins H.out.ins _ _) (fun A hA k _ hlt => hA.block k hlt))
  clear hw5 hb hx hit
  go_wp2_with fail
  refine Calls.mono (scopies_any _ _ _) ?_
  rintro e w6 ⟨rfl, hw6⟩
  rw [← hw6] at HGO
  clear hw6
  go_wp2_with fail
  go_ret
  exact HGO.out
set_option maxHeartbeats 2000000 in
theorem slevel_far {w : World} {D : Nat → Prop} {lb hb : Nat} {n : Int} {T : List Tw} (h : Sk w D lb hb T) (hn : n < 0 ∨ 8 ≤ n) :
    Calls Tryd.prog 26 #[.pointer (some ⟨lb, 0, none⟩), .int .i64 n] w (GoAns w []) := by
  have H := Lib.hid h
  have HN := Lib.hid hn
  clear h hn
  go_enter Tryd.func26, Tryd.ntmps26
  go_wp2_with fail
  refine Calls.mono (srow_any _ _ _ _ _) ?_
  rintro e w5 ⟨rfl, hw5⟩
  have hb := row_boxes w (.pointer (some ⟨lb, 0, none⟩)) (.int .i64 n) (.func (.func 51) #[] #[]) 28 3 75
  have hx := row3 w (.pointer (some ⟨lb, 0, none⟩)) (.int .i64 n) (.func (.func 51) #[] #[]) 28 3 75
  rw [← hw5] at hb hx
  have hit := row_far (Ok := RowOk [] 0) (C := fun _ => True) (H.out.ext hx).list HN.out hb.1 hb.2.1 hb.2.2
  have HGO := Lib.hid (go_ans (L := []) hx hit (Nat.zero_le _) (fun t ht => by cases ht) (fun A hA => trivial))
  clear hw5 hb hx hit
  go_wp2_with fail
  refine Calls.mono (scopies_any _ _ _) ?_
  rintro e w6 ⟨rfl, hw6⟩
  rw [← hw6] at HGO
  clear hw6
  go_wp2_with fail
  go_ret
  exact HGO.out
end Go.Proofs.YtpfaoiickmpmjaaDoor

/- The law's put and num; the reference's Height. -/
namespace Go.Proofs.YtpfaoiickmpmjaaDoor
open Go.ChangeShapes Go.WideShapes Go.ChangeAt Go.RowKit Go.Shelf

theorem snum (n : Int) (w : World) : Calls Tryd.prog 23 #[.int .i64 n] w fun e w' => e = .returned (.int .i64 n) ∧ w = w' := by
  go_enter Tryd.func23, Tryd.ntmps23
  go_wp2
  go_ret
  exact ⟨rfl, rfl⟩
set_option maxHeartbeats 2000000 in
theorem lput_any (k : List Nat) (s : Int) (hk : ∀ x ∈ k, x < 256) (hkl : k.length ≤ 1000) (h1 : -9223372036854775808 ≤ s) (h2 : s ≤ 9223372036854775807) (w : World) :
    Calls Tryd.prog 35 #[.string (tx k), .int .i64 s] w (LitAns w ⟨k, s, 1, []⟩) := by
  obtain ⟨w1, hw1⟩ : ∃ w1, w1 = w.alloc (.cells #[.slice none 0 0, .int .i64 0, .int .i64 0, .slice none 0 0] 40) := ⟨_, rfl⟩
  have HX : Hid (Ext w w1) := by rw [hw1]; exact ext_alloc _ _
  have HBX : Hid (w1.heap[w.heap.size]? = some (.cells #[.slice none 0 0, .int .i64 0, .int .i64 0, .slice none 0 0] 40 (0, 0))) := by rw [hw1]; exact heap_at _ _ rfl
  have HZ : Hid (w1.heap.size = w.heap.size + 1) := by rw [hw1]; simp [Hid]
  obtain ⟨A2, c2, w2, e2, x2, b2⟩ := conv_new w1 k hk hkl
  have hb := ext_heap x2 HBX.out
  have q0 := cell_of hb (k := 0) rfl
  have q1 := cell_of hb (k := 1) rfl
  have q2 := cell_of hb (k := 2) rfl
  have q3 := cell_of hb (k := 3) rfl
  have z0 := frozen_four hb (j := 0)
  have z1 := frozen_four hb (j := 1)
  have z2 := frozen_four hb (j := 2)
  have z3 := frozen_four hb (j := 3)
  have HB := Lib.hid hb
  have HK := Lib.hid b2
  have HX3 : Hid (Ext w w2) := Ext.trans HX.out x2
  have HBY := Lib.hid hk
  have HS := Lib.hid (And.intro h1 h2)
  clear x2 b2 hb hk hkl h1 h2
  go_enter Tryd.func35, Tryd.ntmps35
  rw [hw1] at e2
  go_wp2_with fail
  refine entry_ret1 (p := 4) (by kernel_rfl) rfl rfl (set_four HB.out) ?_
  have far : ∀ {l : List Nat} {v : Value} {u : World} {p : Addr} {x : Value}, p.block < w1.heap.size → Bs u w1.heap.size w2.heap.size v l → Bs (u.setCell p x) w1.heap.size w2.heap.size v l := fun hp h => h.setCell (.inl hp) _
  have hlt : w.heap.size < w1.heap.size := by rw [HZ.out]; omega
  refine ⟨Below.setCell (Below.setCell (Below.setCell (Below.setCell HX3.out (Nat.le_refl _) _) (Nat.le_refl _) _) (Nat.le_refl _) _) (Nat.le_refl _) _, ⟨A2, c2, none, 0⟩, rfl, ⟨?_, Bs.nil _ _ _, HBY.out, by simp, HS.out.1, HS.out.2, (by show (-9223372036854775808 : Int) ≤ _; dsimp only; omega), (by dsimp only; omega)⟩⟩
  exact (far hlt (far hlt (far hlt (far hlt HK.out)))).wide HX.out.size (by simp [World.setCell])

theorem ctzFrom_more : ∀ (f x : Nat), 0 < x → x < 2 ^ f → Lib.ctzFrom (f + 1) x = Lib.ctzFrom f x
  | 0, x, h0, h => by simp at h; omega
  | f + 1, x, h0, h => by
    show (if x % 2 = 1 then 0 else 1 + Lib.ctzFrom (f + 1) (x / 2)) = (if x % 2 = 1 then 0 else 1 + Lib.ctzFrom f (x / 2))
    split
    · rfl
    · rw [ctzFrom_more f (x / 2) (by omega) (by rw [Nat.pow_succ] at h; omega)]
theorem zz_step {h : Nat} (h0 : h ≠ 0) (hl : h < 4294967296) (h4 : h % 4 = 0) : Lib.ctz 32 h = 2 + Lib.ctz 32 (h / 4) := by
  unfold Lib.ctz
  rw [if_neg h0, if_neg (by omega)]
  have e1 : Lib.ctzFrom 32 h = 1 + Lib.ctzFrom 31 (h / 2) := by rw [Lib.ctzFrom, if_neg (by omega)]
  have e2 : Lib.ctzFrom 31 (h / 2) = 1 + Lib.ctzFrom 30 (h / 4) := by rw [Lib.ctzFrom, if_neg (by omega)]; congr 2; omega
  rw [e1, e2, ctzFrom_more 31 (h / 4) (by omega) (by omega), ctzFrom_more 30 (h / 4) (by omega) (by omega)]
  omega
theorem zz_stop {h : Nat} (h4 : h % 4 ≠ 0) : Lib.ctz 32 h ≤ 1 := by
  unfold Lib.ctz
  rw [if_neg (by omega)]
  by_cases h2 : h % 2 = 1
  · rw [Lib.ctzFrom, if_pos h2]; omega
  · rw [Lib.ctzFrom, if_neg h2, Lib.ctzFrom, if_pos (by omega)]; omega
/-- What the loop leaves as it is. -/
theorem hgt_step {n h : Nat} (hn : n < 8) (hl : h < 4294967296) (h4 : h % 4 = 0) : min (n + 1 + Lib.ctz 32 (h / 4) / 2) 8 = min (n + Lib.ctz 32 h / 2) 8 := by
  by_cases h0 : h = 0
  · subst h0
    show min (n + 1 + 32 / 2) 8 = min (n + 32 / 2) 8
    omega
  · rw [zz_step h0 hl h4]; omega

set_option maxHeartbeats 4000000 in
theorem rheight_any {w : World} {lo hi : Nat} {v : Value} {key : List Nat} {s : Int} (hk : Bs w lo hi v key) (bk : ∀ x ∈ key, x < 256) (s1 : -9223372036854775808 ≤ s) (s2 : s ≤ 9223372036854775807) (hl : key.length ≤ 1099511627776) :
    Calls Tryd.prog 12 #[v, .int .i64 s] w fun e w' => e = .returned (.int .i64 (hgt key s : Int)) ∧ w = w' := by
  obtain ⟨A, c, rfl, hcl, hcm, hnil, hby⟩ := hk
  have HBY := Lib.hid hby
  have HB := Lib.hid bk
  have hlI : (key.length : Int) ≤ 1099511627776 := by omega
  have hS1 := Lib.hid s1
  have hS2 := Lib.hid s2
  clear hby bk hnil hl s1 s2
  go_enter Tryd.func12, Tryd.ntmps12
  go_wp2
  go_loop [5, 6] (fun h i => ∃ k : Nat, k ≤ key.length ∧ i = .int .i64 (k : Int) ∧ h = .int .u32 (((key.take k).foldl fnv 2166136261 : Nat) : Int)) (fun _ i => key.length - (intOf i).toNat)
  case atStart => exact ⟨0, Nat.zero_le _, rfl, rfl⟩
  case round =>
    obtain ⟨k, hk, rfl, rfl⟩ := hrel
    obtain ⟨h, hh⟩ : ∃ h, h = (key.take k).foldl fnv 2166136261 := ⟨_, rfl⟩
    rw [← hh]
    have HHL : Hid (h < 4294967296) := by rw [hh]; exact fold_lt _ _ (by decide)
    have HH := Lib.hid hh
    clear hh
    by_cases hlt : k < key.length
    · have d : decide ((k : Int) < (key.length : Int)) = true := by simp; omega
      have dn : decide (k < key.length) = true := by simp; omega
      obtain ⟨b, o, rfl, _, _, hc⟩ := HBY.out.at_ hlt
      have n1 : (0 : Int) ≤ (k : Int) := by omega
      have n2 : (k : Int) < (key.length : Int) := by omega
      have hx := HB.out key[k] (List.getElem_mem hlt)
      have HX := Lib.hid hx
      have HST : Hid ((key.take (k + 1)).foldl fnv 2166136261 = fnv h key[k]) := by unfold Hid; rw [List.take_succ_eq_append_getElem hlt, List.foldl_append, ← HH.out, List.foldl_cons, List.foldl_nil]
      have HF := Lib.hid (fnv_int h key[k] HHL.out hx)
      have HLT := Lib.hid hlt
      obtain ⟨x, hxx⟩ : ∃ x : Nat, x = key[k]'hlt := ⟨_, rfl⟩
      rw [← hxx] at hc hx HX HST HF
      clear hxx hx hk hlt
      have hx0 : (x : Int) % 4294967296 = (x : Int) := by have := HX.out; omega
      have hF := HF.out
      go_wp2
      clear hF hx0 hc hlI
      refine ⟨⟨k + 1, HLT.out, rfl, ?_⟩, ?_⟩
      · rw [HST.out, HF.out]
      · have := HLT.out; simp [intOf]; omega
    · have d : decide ((k : Int) < (key.length : Int)) = false := by simp; omega
      have dn : decide (k < key.length) = false := by simp; omega
      obtain rfl : k = key.length := by omega
      have HKEY : Hid (h = sumK key) := by unfold Hid sumK; rw [HH.out, List.take_length]
      clear hlt hk HH d dn
      go_wp2
      go_loop [5, 7] (fun hv sv => ∃ j : Nat, j ≤ 8 ∧ sv = .int .i64 (7 - (j : Int)) ∧ hv = .int .u32 (((sbytes s j).foldl fnv h : Nat) : Int)) (fun _ sv => (intOf sv + 1).toNat)
      case atStart => exact ⟨0, Nat.zero_le _, rfl, rfl⟩
      case round =>
        obtain ⟨j, hj, rfl, rfl⟩ := hrel
        obtain ⟨h', hh'⟩ : ∃ h', h' = (sbytes s j).foldl fnv h := ⟨_, rfl⟩
        rw [← hh']
        have HHL' : Hid (h' < 4294967296) := by rw [hh']; exact fold_lt _ _ HHL.out
        have HH' := Lib.hid hh'
        obtain ⟨n, hn⟩ : ∃ n : Int, n = 7 - (j : Int) := ⟨_, rfl⟩
        have HNJ := Lib.hid hn
        rw [← hn]
        clear hh'
        by_cases hj8 : j = 8
        · obtain rfl : n = -1 := by omega
          have HJ8 := Lib.hid hj8
          have HGT : Hid (hgt key s = min (1 + Lib.ctz 32 h' / 2) 8) := by unfold Hid hgt sumS; rw [HH'.out, HJ8.out, HKEY.out]
          clear hn hj hj8
          go_wp2
          go_loop [5, 8] (fun hv nv => ∃ n h'' : Nat, 1 ≤ n ∧ n ≤ 8 ∧ nv = .int .i64 (n : Int) ∧ hv = .int .u32 (h'' : Int) ∧ Hid (h'' < 4294967296) ∧ Hid (hgt key s = min (n + Lib.ctz 32 h'' / 2) 8)) (fun _ nv => 8 - (intOf nv).toNat)
          case atStart => exact ⟨1, h', by decide, by decide, rfl, rfl, HHL', HGT⟩
          case round =>
            obtain ⟨n, h'', hn1, hn8, rfl, rfl, HL2, HG2⟩ := hrel
            by_cases hn : n < 8
            · have d : decide ((n : Int) < 8) = true := by simp; omega
              by_cases h4 : h'' % 4 = 0
              · have d2 : ((h'' : Int) % 4 == 0) = true := by simp; omega
                have HN := Lib.hid (And.intro hn h4)
                clear hn h4
                go_wp2
                clear d d2 hlI
                refine ⟨⟨n + 1, h'' / 4, by omega, by have := HN.out.1; omega, rfl, ?_, ?_, ?_⟩, ?_⟩
                · have := HL2.out; congr 1; omega
                · have := HL2.out; unfold Hid; omega
                · unfold Hid; rw [HG2.out, hgt_step HN.out.1 HL2.out HN.out.2]
                · have := HN.out.1; simp [intOf]; omega
              · have d2 : ((h'' : Int) % 4 == 0) = false := by simp; omega
                have HE : Hid (hgt key s = n) := by have := zz_stop h4; unfold Hid; rw [HG2.out]; omega
                clear h4 hn
                go_wp2
                go_ret
                refine ⟨?_, rfl⟩
                rw [HE.out]
                exact Eq.refl _
            · obtain rfl : n = 8 := by omega
              have HE : Hid (hgt key s = 8) := by unfold Hid; rw [HG2.out]; omega
              clear hn hn1 hn8
              go_wp2
              go_ret
              refine ⟨?_, rfl⟩
              rw [HE.out]
              exact Eq.refl _
        · have n1 : 0 ≤ n := by omega
          have n2 : n ≤ 7 := by omega
          have d1 : decide (0 ≤ n) = true := by simp; omega
          have hj1 : j + 1 ≤ 8 := by omega
          have HJ1 := Lib.hid hj1
          have hb : s % 18446744073709551616 / 2 ^ (8 * n).toNat % 256 = ((sbyte s j : Nat) : Int) := by
            have hj7 : j < 8 := by omega
            rw [show (8 * n).toNat = 56 - 8 * j by omega]
            unfold sbyte
            rcases j with _ | _ | _ | _ | _ | _ | _ | _ | j
            all_goals first | omega | (simp only [Nat.zero_add, Nat.reduceAdd, Nat.reduceMul, Nat.reduceSub, Int.reducePow]; omega)
          have HSB := Lib.hid hb
          have HF := Lib.hid (fnv_int h' (sbyte s j) HHL'.out (sbyte_lt s j))
          have HST : Hid ((sbytes s (j + 1)).foldl fnv h = fnv h' (sbyte s j)) := by
            unfold Hid sbytes
            rw [List.range_succ, List.map_append, List.foldl_append, List.map_cons, List.map_nil, List.foldl_cons, List.foldl_nil]
            rw [HH'.out]; unfold sbytes; exact Eq.refl _
          clear hn hj hj8 hj1 hb
          go_wp2
          refine ⟨⟨j + 1, HJ1.out, ?_, ?_⟩, ?_⟩
          · rw [HNJ.out]; congr 1; omega
          · rw [HST.out, ← HF.out, ← HSB.out, IntKind.wrap_u64]
          · clear d1; simp [intOf]; omega
end Go.Proofs.YtpfaoiickmpmjaaDoor

/- A region that draws its order, by facts: as XFlow, but over any relation of worlds that is a preorder (a later operation may change what an earlier one made). -/
namespace Go.Proofs.YtpfaoiickmpmjaaDoor.Fr
open Go.RowKit

/-- What a later world keeps of an earlier one. -/
structure Rel where
  r : World → World → Prop
  refl : ∀ w, r w w
  trans : ∀ {a b c}, r a b → r b c → r a c
/-- A fact that later worlds keep. -/
def Mono (R : Rel) (p : Value → World → Prop) : Prop := ∀ v u u', p v u → R.r u u' → p v u'
theorem Mono.is {R : Rel} (c : Value) : Mono R (Is c) := fun _ _ _ h _ => h
theorem fact_mono {R : Rel} {φ : List (Value → World → Prop)} (h : ∀ p ∈ φ, Mono R p) (j : Nat) {v : Value} {u u' : World} (hf : fact φ j v u) (hu : R.r u u') : fact φ j v u' := by
  unfold fact at *
  by_cases hj : j < φ.length
  · have e : φ.getD j (fun _ _ => True) = φ[j] := by simp [List.getD, List.getElem?_eq_getElem hj]
    rw [e] at hf ⊢
    exact h _ (List.getElem_mem hj) _ _ _ hf hu
  · have e : φ.getD j (fun _ _ => True) = fun _ _ => True := by simp [List.getD, List.getElem?_eq_none (Nat.le_of_not_lt hj)]
    rw [e]; trivial

/-- Each operation gives its fact. -/
def Obls (R : Rel) (P : Program) (ops : Array Oper) (φ : List (Value → World → Prop)) (w0 : World) (f : Nat → Value) : Nat → List Oper → Act → Prop
  | _, [], _ => True
  | k, o :: rest, a => (∀ u, R.r w0 u → (∀ j, aft o j = true → fact φ j (f j) u) →
      if Region.wanted o (yielded ops a.tmps) = true then GivesR P ((execOp a.eval o).run P u) (fun v u' => R.r u u' ∧ fact φ k (kept o v) u') else fact φ k undef u) ∧ Obls R P ops φ w0 f (k + 1) rest (a.put o.dst (f k))
theorem Obls.at {R : Rel} {P : Program} {ops : Array Oper} {φ : List (Value → World → Prop)} {w0 : World} {f : Nat → Value} : ∀ (l : List Oper) (k : Nat) (a : Act), Obls R P ops φ w0 f k l a → ∀ (i : Nat) (o : Oper), l[i]? = some o →
    ∀ u, R.r w0 u → (∀ j, aft o j = true → fact φ j (f j) u) →
      if Region.wanted o (yielded ops (puts f k (l.take i) a).tmps) = true then GivesR P ((execOp (puts f k (l.take i) a).eval o).run P u) (fun v u' => R.r u u' ∧ fact φ (k + i) (kept o v) u') else fact φ (k + i) undef u := by
  intro l
  induction l with
  | nil => intro k a _ i o h; simp at h
  | cons o l ih =>
    intro k a h i oi hi
    cases i with
    | zero => simp at hi; subst hi; exact h.1
    | succ i =>
      have := ih (k + 1) _ h.2 i oi (by simpa using hi)
      simp only [List.take_succ_cons, puts]
      rw [show k + (i + 1) = k + 1 + i by omega]
      exact this

structure Inv (R : Rel) (ops : Array Oper) (φ : List (Value → World → Prop)) (a0 : Act) (w0 : World) (seen : Array Bool) (a : Act) (u : World) : Prop where
  ext : R.r w0 u
  size : seen.size = ops.size
  defs : a.defers = a0.defers
  tsz : a.tmps.size = a0.tmps.size
  old : ∀ s, (∀ (j : Nat) (oj : Oper), ops[j]? = some oj → seen.getD j false = true → oj.dst ≠ some s) → a.tmps[s]? = a0.tmps[s]?
  facts : ∀ (j : Nat) (oj : Oper), ops[j]? = some oj → seen.getD j false = true → fact φ j (slot a oj) u
  closed : ∀ (j : Nat) (oj : Oper), ops[j]? = some oj → seen.getD j false = true → ∀ k, aft oj k = true → seen.getD k false = true

section
variable {P : Program} {ops : Array Oper} {Q : Exit → Act → World → Prop} {φ : List (Value → World → Prop)} {a0 : Act} {w0 : World} {R : Rel}

theorem look_same {seen : Array Bool} {a : Act} {u : World} (hok : flowOk ops a0.tmps.size = true) (hI : Inv R ops φ a0 w0 seen a u) {i : Nat} {oi : Oper} (hi : ops[i]? = some oi) (hn : seen.getD i false = false)
    {t : Nat} (ht : t ∈ oi.looksAt ops) : a.tmps[t]? = (puts (held ops a) 0 (ops.toList.take i) a0).tmps[t]? := by
  by_cases hsz : t < a0.tmps.size
  · have hlen : i < ops.toList.length := by simpa using (Array.getElem?_eq_some_iff.1 hi).1
    have conv : ∀ (j : Nat) (o : Oper), (ops.toList.take i)[j]? = some o → j < i ∧ ops[j]? = some o := fun j o h => by
      rw [List.getElem?_take] at h
      split at h
      · rename_i hj; exact ⟨hj, by rw [← Array.getElem?_toList]; exact h⟩
      · cases h
    have huniq : ∀ (x y : Nat) (ox oy : Oper), (ops.toList.take i)[x]? = some ox → (ops.toList.take i)[y]? = some oy → ox.dst = some t → oy.dst = some t → x = y := fun x y ox oy hx hy h1 h2 => by
      rcases Nat.decEq x y with hne | he
      · exact absurd h1 (((flowOk_at hok (conv x ox hx).2).2.2.2 y oy t (conv y oy hy).2 h2).1 (fun e => hne e.symm))
      · exact he
    obtain ⟨h1, h2⟩ := puts_get (held ops a) (ops.toList.take i) 0 a0 t hsz huniq
    by_cases hex : ∃ (j : Nat) (oj : Oper), (ops.toList.take i)[j]? = some oj ∧ oj.dst = some t
    · obtain ⟨j, oj, hj, hd⟩ := hex
      rw [h2 j oj hj hd, Nat.zero_add]
      have hj' := (conv j oj hj).2
      have hlt := (conv j oj hj).1
      simp only [held, hj', slot, hd]
      have hts : t < a.tmps.size := by rw [hI.tsz]; exact hsz
      simp [Array.getD, hts]
    · have hex' : ∀ (j : Nat) (o : Oper), (ops.toList.take i)[j]? = some o → o.dst ≠ some t := fun j o hj hd => hex ⟨j, o, hj, hd⟩
      rw [h1 hex']
      refine hI.old t fun j oj hj hsj hd => ?_
      rcases ((flowOk_at hok hi).2.2.2 j oj t hj hd).2 ht with h | h
      · have hlt := aft_lt hok hi h
        refine hex' j oj ?_ hd
        rw [List.getElem?_take, if_pos hlt, Array.getElem?_toList]; exact hj
      · have := hI.closed j oj hj hsj i h
        rw [hn] at this; cases this
  · have e1 : a.tmps[t]? = none := Array.getElem?_eq_none (by rw [hI.tsz]; omega)
    have e2 : (puts (held ops a) 0 (ops.toList.take i) a0).tmps[t]? = none := Array.getElem?_eq_none (by rw [puts_size]; omega)
    rw [e1, e2]

theorem Inv.next {seen : Array Bool} {a : Act} {u u' : World} (hok : flowOk ops a0.tmps.size = true) (hmono : ∀ p ∈ φ, Mono R p) (hI : Inv R ops φ a0 w0 seen a u) {i : Nat} {oi : Oper} (hi : ops[i]? = some oi)
    (hs : ∀ k, aft oi k = true → seen.getD k false = true) {v : Value} (hu : R.r u u') (hf : fact φ i (kept oi v) u') : Inv R ops φ a0 w0 (seen.setIfInBounds i true) (a.put oi.dst v) u' := by
  refine ⟨R.trans hI.ext hu, by simp [hI.size], by rw [put_defers']; exact hI.defs, by rw [put_size]; exact hI.tsz, fun s h => ?_, fun j oj hj hsj => ?_, fun j oj hj hsj k hk => ?_⟩
  · have hlt : i < seen.size := by rw [hI.size]; exact (Array.getElem?_eq_some_iff.1 hi).1
    have hne : oi.dst ≠ some s := h i oi hi (by rw [set_getD, if_pos ⟨rfl, hlt⟩])
    rw [put_get, if_neg (fun h => hne h.1)]
    refine hI.old s fun j oj hj hsj => h j oj hj ?_
    rw [set_getD]
    split
    · rfl
    · exact hsj
  · rw [set_getD] at hsj
    by_cases hij : i = j
    · subst hij
      rw [hi] at hj
      injection hj with hj
      subst hj
      have e : slot (a.put oi.dst v) oi = kept oi v := by
        unfold slot kept
        cases hd : oi.dst with
        | none => rfl
        | some d =>
          have hds := (flowOk_at hok hi).2.2.1 d hd
          have hd2 : d < a.tmps.size := by rw [hI.tsz]; exact hds
          simp [Act.put, Array.getD, hd2]
      rw [e]; exact hf
    · rw [if_neg (fun h => hij h.1)] at hsj
      have e : slot (a.put oi.dst v) oj = slot a oj := by
        unfold slot
        cases hd : oj.dst with
        | none => rfl
        | some d =>
          have hne := ((flowOk_at hok hi).2.2.2 j oj d hj hd).1 (fun e => hij e.symm)
          have := put_get a oi.dst v d
          rw [if_neg (fun h => hne h.1)] at this
          show (a.put oi.dst v).tmps.getD d undef = a.tmps.getD d undef
          rw [Array.getD_eq_getD_getElem?, this, ← Array.getD_eq_getD_getElem?]
      rw [e]
      exact fact_mono hmono j (hI.facts j oj hj hsj) hu
  · rw [set_getD] at hsj ⊢
    split
    · rfl
    · rename_i hk2
      by_cases hij : i = j
      · subst hij
        rw [hi] at hj
        injection hj with hj
        subst hj
        exact hs k hk
      · rw [if_neg (fun h => hij h.1)] at hsj
        exact hI.closed j oj hj hsj k hk

theorem flow_step {seen : Array Bool} {a : Act} {u : World} {m : Nat} (hok : flowOk ops a0.tmps.size = true) (hsel : Region.noSelect ops = true) (hmono : ∀ p ∈ φ, Mono R p) (hobl : ∀ f, Obls R P ops φ w0 f 0 (ops.toList.take m) a0)
    (hI : Inv R ops φ a0 w0 seen a u) {i : Nat} (him : i < m) (hr : i ∈ Region.ready .any ops seen) : wpOp P ops Q i (fun b u' => Inv R ops φ a0 w0 (seen.setIfInBounds i true) b u') a u := by
  obtain ⟨hun, oi, hi, hall⟩ := mem_ready.1 hr
  have hlt : i < ops.size := (Array.getElem?_eq_some_iff.1 hi).1
  have hn : seen.getD i false = false := by rw [← getD_both seen (by rw [hI.size]; exact hlt)]; simpa using hun
  have hs : ∀ k, aft oi k = true → seen.getD k false = true := fun k hk => by
    unfold aft at hk
    obtain ⟨e, he, hb⟩ := Array.any_eq_true'.1 hk
    simp only [Bool.and_eq_true, beq_iff_eq] at hb
    rw [← hb.2]
    exact hall e he hb.1
  have hlook := fun {t : Nat} (ht : t ∈ oi.looksAt ops) => look_same hok hI hi hn ht
  have hfacts : ∀ j, aft oi j = true → fact φ j (held ops a j) u := fun j hj => by
    have hjl := aft_lt hok hi hj
    have hoj : ops[j]? = some ops[j] := Array.getElem?_eq_getElem (by omega)
    have := hI.facts j _ hoj (hs j hj)
    simp only [held, hoj]
    exact this
  have hO := Obls.at (ops.toList.take m) 0 a0 (hobl (held ops a)) i oi (by rw [List.getElem?_take, if_pos him, Array.getElem?_toList]; exact hi) u hI.ext hfacts
  rw [Nat.zero_add, List.take_take, Nat.min_eq_left (Nat.le_of_lt him)] at hO
  have hex : execOp (puts (held ops a) 0 (ops.toList.take i) a0).eval oi = execOp a.eval oi := by
    refine execOp_congr oi (fun cs b => Region.noSelect_spec hsel i oi cs b hi) fun x hx => ?_
    cases x with
    | tmp t =>
      have ht : t ∈ oi.looksAt ops := by
        unfold Oper.looksAt
        refine List.mem_append_left _ (List.mem_filterMap.2 ⟨.tmp t, by simpa using hx, rfl⟩)
      show Array.getD _ t undef = Array.getD _ t undef
      rw [Array.getD_eq_getD_getElem?, Array.getD_eq_getD_getElem?, hlook ht]
    | _ => rfl
  have hwt : Region.wanted oi (yielded ops (puts (held ops a) 0 (ops.toList.take i) a0).tmps) = Region.wanted oi (yielded ops a.tmps) := by
    unfold Region.wanted
    cases hg : oi.guard with
    | none => rfl
    | some gb =>
      obtain ⟨g, b⟩ := gb
      have e : yielded ops (puts (held ops a) 0 (ops.toList.take i) a0).tmps g = yielded ops a.tmps g := by
        unfold yielded
        cases hd : (ops[g]?).bind (·.dst) with
        | none => rfl
        | some d =>
          have ht : d ∈ oi.looksAt ops := by
            unfold Oper.looksAt
            rw [hg]
            refine List.mem_append_right _ ?_
            simp only [hd]
            simp
          show (match (puts (held ops a) 0 (ops.toList.take i) a0).tmps[d]? with | some (Value.bool b) => some b | _ => none) = _
          rw [← hlook ht]
          rfl
      simp only [e]
  rw [hex, hwt] at hO
  unfold wpOp
  simp only [hi]
  split
  · rename_i hw
    rw [if_pos hw] at hO
    exact .inl (gives_wp hO fun v u' h => hI.next hok hmono hi hs h.1 h.2)
  · rename_i hw
    rw [if_neg hw] at hO
    refine hI.next hok hmono hi hs (R.refl u) ?_
    have : kept oi undef = undef := by unfold kept; cases oi.dst <;> rfl
    rw [this]; exact hO

theorem all_seen {seen : Array Bool} {a : Act} {u : World} (hok : flowOk ops a0.tmps.size = true) (hI : Inv R ops φ a0 w0 seen a u) (hr : Region.ready .any ops seen = []) : ∀ i, i < ops.size → seen.getD i false = true := by
  intro i
  induction i using Nat.strongRecOn with
  | ind i ih =>
    intro hlt
    rcases h : seen.getD i false with _ | _
    · have hi : ops[i]? = some ops[i] := Array.getElem?_eq_getElem hlt
      have : i ∈ Region.ready .any ops seen := mem_ready.2 ⟨by rw [getD_both seen (by rw [hI.size]; exact hlt)]; exact h, ops[i], hi, fun e he hb => by
        have := (flowOk_at hok hi).1 e he hb
        exact ih e.on this (by omega)⟩
      rw [hr] at this; cases this
    · rfl

theorem act_is {seen : Array Bool} {a : Act} {u : World} (hok : flowOk ops a0.tmps.size = true) (hI : Inv R ops φ a0 w0 seen a u) : a = puts (held ops a) 0 ops.toList a0 := by
  have hd : a.defers = (puts (held ops a) 0 ops.toList a0).defers := by rw [puts_defers]; exact hI.defs
  have ht : a.tmps = (puts (held ops a) 0 ops.toList a0).tmps := by
    apply Array.ext_getElem?
    intro t
    by_cases hsz : t < a0.tmps.size
    · have conv : ∀ (j : Nat) (o : Oper), ops.toList[j]? = some o → ops[j]? = some o := fun j o h => by rw [← Array.getElem?_toList]; exact h
      have huniq : ∀ (x y : Nat) (ox oy : Oper), ops.toList[x]? = some ox → ops.toList[y]? = some oy → ox.dst = some t → oy.dst = some t → x = y := fun x y ox oy hx hy h1 h2 => by
        rcases Nat.decEq x y with hne | he
        · exact absurd h1 (((flowOk_at hok (conv x ox hx)).2.2.2 y oy t (conv y oy hy) h2).1 (fun e => hne e.symm))
        · exact he
      obtain ⟨h1, h2⟩ := puts_get (held ops a) ops.toList 0 a0 t hsz huniq
      by_cases hex : ∃ (j : Nat) (oj : Oper), ops.toList[j]? = some oj ∧ oj.dst = some t
      · obtain ⟨j, oj, hj, hd⟩ := hex
        rw [h2 j oj hj hd, Nat.zero_add]
        simp only [held, conv j oj hj, slot, hd]
        have hts : t < a.tmps.size := by rw [hI.tsz]; exact hsz
        simp [Array.getD, hts]
      · have hex' : ∀ (j : Nat) (o : Oper), ops.toList[j]? = some o → o.dst ≠ some t := fun j o hj hd => hex ⟨j, o, hj, hd⟩
        rw [h1 hex']
        exact hI.old t fun j oj hj _ => hex' j oj (by rw [Array.getElem?_toList]; exact hj)
    · rw [Array.getElem?_eq_none (by rw [hI.tsz]; omega), Array.getElem?_eq_none (by rw [puts_size]; omega)]
  have ext : ∀ x y : Act, x.tmps = y.tmps → x.defers = y.defers → x = y := by rintro ⟨_, _⟩ ⟨_, _⟩ rfl rfl; rfl
  exact ext _ _ ht hd

theorem flow_any (hok : flowOk ops a0.tmps.size = true) (hsel : Region.noSelect ops = true) (hmono : ∀ p ∈ φ, Mono R p) (hobl : ∀ f, Obls R P ops φ w0 f 0 ops.toList a0)
    (hfin : ∀ (g : Nat → Value) u, R.r w0 u → (∀ j, j < ops.size → fact φ j (g j) u) → Q .normal (puts g 0 ops.toList a0) u) :
    ∀ (n : Nat) (seen : Array Bool) (a : Act) (u : World), Inv R ops φ a0 w0 seen a u → left ops seen = n → wpAny P .any ops Q n seen a u := by
  have done : ∀ (seen : Array Bool) (a : Act) (u : World), Inv R ops φ a0 w0 seen a u → (∀ i, i < ops.size → seen.getD i false = true) → Q .normal a u := fun seen a u hI hall => by
    rw [act_is hok hI]
    refine hfin _ _ hI.ext fun j hj => ?_
    have hoj : ops[j]? = some ops[j] := Array.getElem?_eq_getElem hj
    simp only [held, hoj]
    exact hI.facts j _ hoj (hall j hj)
  intro n
  induction n with
  | zero =>
    intro seen a u hI hl
    have hall : ∀ i, i < ops.size → seen.getD i false = true := fun i hi => by
      have := List.countP_eq_zero.1 hl i (List.mem_range.2 hi)
      simpa using this
    refine ⟨?_, done seen a u hI hall⟩
    refine List.eq_nil_iff_forall_not_mem.2 fun i hi => ?_
    obtain ⟨hun, oi, hio, _⟩ := mem_ready.1 hi
    have hlt := (Array.getElem?_eq_some_iff.1 hio).1
    rw [getD_both seen (by rw [hI.size]; exact hlt), hall i hlt] at hun
    cases hun
  | succ n ih =>
    intro seen a u hI hl
    refine ⟨fun hr => done seen a u hI (all_seen hok hI hr), fun i hi => ?_⟩
    refine wpOp_mono (fun b u' hb => ih _ b u' hb ?_) (flow_step (m := ops.size) hok hsel hmono (fun f => by rw [List.take_of_length_le (by simp)]; exact hobl f) hI (Array.getElem?_eq_some_iff.1 (mem_ready.1 hi).2.choose_spec.1).1 hi)
    obtain ⟨hun, oi, hio, _⟩ := mem_ready.1 hi
    have hlt := (Array.getElem?_eq_some_iff.1 hio).1
    rw [getD_both seen (by rw [hI.size]; exact hlt)] at hun
    have := left_next hI.size hlt hun
    omega

/-- A region that draws its order, by facts. -/
theorem flow {id : Nat} {w : World} (hm : P.follows .mixedOrders = true) (φ : List (Value → World → Prop)) (hok : flowOk ops a0.tmps.size = true) (hsel : Region.noSelect ops = true) (hmono : ∀ p ∈ φ, Mono R p)
    (hobl : ∀ f, Obls R P ops φ w.drew f 0 ops.toList a0)
    (hfin : ∀ (g : Nat → Value) u, R.r w.drew u → (∀ j, j < ops.size → fact φ j (g j) u) → Q .normal (puts g 0 ops.toList a0) u) : (Code.region id ops true).wp P Q a0 w := by
  refine wp_region_any hm (flow_any hok hsel hmono hobl hfin _ _ _ _ ⟨R.refl _, by simp, rfl, rfl, fun _ _ => rfl, fun j oj hj hs => ?_, fun j oj hj hs => ?_⟩ ?_)
  · have hlt := (Array.getElem?_eq_some_iff.1 hj).1
    simp [Array.getD, hlt] at hs
  · have hlt := (Array.getElem?_eq_some_iff.1 hj).1
    simp [Array.getD, hlt] at hs
  · unfold left
    rw [List.countP_eq_length.2]
    · simp
    · intro i hi
      have hlt := List.mem_range.1 hi
      simp [Array.getD, hlt]

end
end Go.Proofs.YtpfaoiickmpmjaaDoor.Fr

/- Bytes written as a constant are marked: a relation of worlds that lets marks be; From, told so that its answer stays good under marks. -/
namespace Go.Proofs.YtpfaoiickmpmjaaDoor
open Go.ChangeShapes Go.WideShapes Go.ChangeAt Go.RowKit Go.Shelf

theorem freeze_chg (w : World) (g k : Nat) : Chg (fun i => i = g) w (w.freeze ⟨g, k, none⟩ 1) := by
  unfold World.freeze
  rw [if_neg (by decide)]
  exact ⟨rfl, rfl, rfl, by simp, fun i _ hne => by simp [Array.getElem?_modify, Ne.symm hne]⟩
theorem freeze_at {w : World} {g k : Nat} {C : Array Value} {t : TypeId} {fz : Nat × Nat} (h : w.heap[g]? = some (.cells C t fz)) : ∃ fz', (w.freeze ⟨g, k, none⟩ 1).heap[g]? = some (.cells C t fz') := by
  unfold World.freeze
  rw [if_neg (by decide)]
  exact ⟨_, by simp [Array.getElem?_modify, h]; rfl⟩
/-- Bytes that are written as a constant, wherever their block lies. -/
theorem conv_const {w : World} {g n c : Nat} {C : Array Value} {fz : Nat × Nat} (h : w.heap[g]? = some (.cells C 5 fz)) :
    (convert 22 22 (.slice (some ⟨g, 0, none⟩) n c)).run Tryd.prog w = .ok (.slice (some ⟨g, 0, none⟩) n c) (w.freeze ⟨g, C.size, none⟩ 1) := by
  have hsh : w.shape? g = some (5, C.size) := by unfold World.shape?; rw [h]
  simp [convert, run_underlying Tryd.underlying22, run_underlying Tryd.underlying5, markStringish, hsh]

/-- Nothing but marks of bytes from block B on is other. -/
def MarkR (B : Nat) : Fr.Rel where
  r u u' := u'.os = u.os ∧ u'.tape = u.tape ∧ u'.output = u.output ∧ u.heap.size ≤ u'.heap.size ∧ ∀ k, k < u.heap.size → u'.heap[k]? = u.heap[k]? ∨ (B ≤ k ∧ ∃ c fz fz', u.heap[k]? = some (.cells c 5 fz) ∧ u'.heap[k]? = some (.cells c 5 fz'))
  refl w := ⟨rfl, rfl, rfl, Nat.le_refl _, fun _ _ => .inl rfl⟩
  trans := by
    rintro a b c ⟨h1, h2, h3, h4, h5⟩ ⟨k1, k2, k3, k4, k5⟩
    refine ⟨k1.trans h1, k2.trans h2, k3.trans h3, Nat.le_trans h4 k4, fun k hk => ?_⟩
    rcases h5 k hk with h | ⟨hB, x, f, f', hx, hx'⟩
    · rcases k5 k (Nat.lt_of_lt_of_le hk h4) with h' | ⟨hB, x, f, f', hx, hx'⟩
      · exact .inl (h'.trans h)
      · exact .inr ⟨hB, x, f, f', h ▸ hx, hx'⟩
    · rcases k5 k (Nat.lt_of_lt_of_le hk h4) with h' | ⟨_, y, e, e', hy, hy'⟩
      · exact .inr ⟨hB, x, f, f', hx, h'.trans hx'⟩
      · rw [hx'] at hy
        injection hy with hy
        injection hy with q1 _ _
        subst q1
        exact .inr ⟨hB, x, f, e', hx, hy'⟩
section
variable {B : Nat} {u u' : World}
theorem mark_ext (h : Ext u u') : (MarkR B).r u u' := ⟨h.os, h.tape, h.output, h.size, fun k hk => .inl (h.block k hk)⟩
theorem mark_freeze {g k : Nat} {C : Array Value} {fz : Nat × Nat} (hg : u.heap[g]? = some (.cells C 5 fz)) (hB : B ≤ g) : (MarkR B).r u (u.freeze ⟨g, k, none⟩ 1) := by
  have hc := freeze_chg u g k
  refine ⟨hc.os, hc.tape, hc.output, hc.size, fun i hi => ?_⟩
  by_cases h : i = g
  · subst h
    obtain ⟨fz', h'⟩ := freeze_at (k := k) hg
    exact .inr ⟨hB, C, fz, fz', hg, h'⟩
  · exact .inl (hc.block i hi h)
theorem mark_heap {o : Obj} {k : Nat} (h : (MarkR B).r u u') (hk : u.heap[k]? = some o) (hn : k < B ∨ ∀ c fz, o ≠ .cells c 5 fz) : u'.heap[k]? = some o := by
  rcases h.2.2.2.2 k (Array.getElem?_eq_some_iff.1 hk).1 with h' | ⟨hB, x, f, f', hx, hx'⟩
  · exact h'.trans hk
  · rcases hn with hn | hn
    · omega
    · rw [hk] at hx; injection hx with hx; exact absurd hx (hn _ _)
theorem mark_cell {p : Addr} {v : Value} (h : (MarkR B).r u u') (hc : u.cell? p = some v) : u'.cell? p = some v := by
  rcases h.2.2.2.2 p.block (World.block_lt_of_cell? _ _ hc) with h' | ⟨hB, x, f, f', hx, hx'⟩
  · exact (World.cell?_of_block h').trans hc
  · unfold World.cell? at hc ⊢
    rw [hx] at hc
    rw [hx']
    exact hc
theorem mark_chg (h : (MarkR B).r u u') : Chg (fun i => B ≤ i) u u' := ⟨h.1, h.2.1, h.2.2.1, h.2.2.2.1, fun k hk hn => by
  rcases h.2.2.2.2 k hk with h' | ⟨hB, _⟩
  · exact h'
  · exact absurd hB hn⟩
theorem mark_bs {lo hi : Nat} {v : Value} {l : List Nat} (h : (MarkR B).r u u') (hb : Bs u lo hi v l) : Bs u' lo hi v l := by
  obtain ⟨A, c, e, h1, h2, h3, h4⟩ := hb
  refine ⟨A, c, e, h1, h2, h3, ?_⟩
  rcases h4 with h4 | ⟨b, o, e, h5, h6, h7⟩
  · exact .inl h4
  · exact .inr ⟨b, o, e, h5, h6, fun i x hx => mark_cell h (h7 i x hx)⟩
theorem mark_em {lo hi : Nat} {e : Ent} {g : Hd} (h : (MarkR B).r u u') (m : Em u lo hi e g) : Em u' lo hi e g := ⟨mark_bs h m.k, mark_bs h m.v, m.bk, m.bv, m.s1, m.s2, m.d1, m.d2⟩
end

/-- What stands behind From's answer. -/
structure FromRaw (w : World) (lb : Nat) (key : List Nat) (v : Value) : Prop where
  ex : ∃ bd b0 p kc lo hi : Nat, ∃ kA : Option Addr, v = .func (.func 61) #[] #[.pointer (some ⟨bd, 0, none⟩)] ∧
    w.heap[bd]? = some (.cells #[.func (.func 62) #[] #[.pointer (some ⟨b0, 0, none⟩), .pointer (some ⟨b0 + 1, 0, none⟩), .pointer (some ⟨b0 + 2, 0, none⟩)]] 35 (0, 0)) ∧
    w.heap[b0]? = some (.cells #[.pointer (some ⟨lb, 0, none⟩)] 28 (0, 0)) ∧ w.heap[b0 + 1]? = some (.cells #[.int .i64 0] 3 (0, 0)) ∧ w.heap[b0 + 2]? = some (.cells #[.func (.func 45) #[] #[.pointer (some ⟨p, 0, none⟩)]] 75 (0, 0)) ∧
    w.heap[p]? = some (.cells #[.slice kA key.length kc] 22 (0, 0)) ∧ Bs w lo hi (.slice kA key.length kc) key ∧ hi ≤ w.heap.size
theorem FromRaw.mark {B lb : Nat} {w w' : World} {key : List Nat} {v : Value} (h : FromRaw w lb key v) (k : (MarkR B).r w w') : FromRaw w' lb key v := by
  obtain ⟨bd, b0, p, kc, lo, hi, kA, h1, h2, h3, h4, h5, h6, h7, h8⟩ := h.ex
  have ne : ∀ {c : Array Value} {t : TypeId}, t ≠ 5 → ∀ c' fz, Obj.cells c t (0, 0) ≠ .cells c' 5 fz := fun ht c' fz e => by injection e with _ e _; exact ht e
  exact ⟨bd, b0, p, kc, lo, hi, kA, h1, mark_heap k h2 (.inr (ne (by decide))), mark_heap k h3 (.inr (ne (by decide))), mark_heap k h4 (.inr (ne (by decide))), mark_heap k h5 (.inr (ne (by decide))), mark_heap k h6 (.inr (ne (by decide))), mark_bs k h7, Nat.le_trans h8 k.2.2.2.1⟩
theorem FromRaw.iter {lb hb : Nat} {w : World} {D : Nat → Prop} {T : List Tw} {key : List Nat} {v : Value} (h : FromRaw w lb key v) (hs : Sk w D lb hb T) (bk : ∀ x ∈ key, x < 256) :
    ∃ bd, v = .func (.func 61) #[] #[.pointer (some ⟨bd, 0, none⟩)] ∧ Iter Tryd.prog 61 #[.pointer (some ⟨bd, 0, none⟩)] (rowOf T (belowK key) 0).length rowV (CopOk (rowOf T (belowK key) 0)) (fun A => Below w.heap.size w A) w := by
  obtain ⟨bd, b0, p, kc, lo, hi, kA, h1, h2, h3, h4, h5, h6, h7, h8⟩ := h.ex
  refine ⟨bd, h1, Iter.promise (copies_iter (row_iter (n := 0) hs (from1_fn h7 h8 bk h6) (hs.asc.belowK key) (by decide) (cell_of h3 rfl) (cell_of h4 rfl) (cell_of h5 rfl)) enters_row1 (Nat.le_refl _) (rowOf_ins hs.ins _ _) (cell_of h2 rfl)) fun A hA k _ hlt => hA.block k hlt⟩

set_option maxHeartbeats 2000000 in
theorem sfrom_raw {w : World} {D : Nat → Prop} {lb hb lo hi : Nat} {v : Value} {T : List Tw} {key : List Nat} (_h : Sk w D lb hb T) (hk : Bs w lo hi v key) (hhi : hi ≤ w.heap.size) (hl : key.length ≤ 1099511627776) :
    Calls Tryd.prog 19 #[.pointer (some ⟨lb, 0, none⟩), v] w fun e w' => Ext w w' ∧ ∃ x, e = .returned x ∧ FromRaw w' lb key x := by
  have HCL := Lib.hid (clone_any v lo hi key w hk hhi hl)
  clear _h hk hhi hl
  go_enter Tryd.func19, Tryd.ntmps19
  go_wp2_with fail
  refine Calls.mono HCL.out ?_
  rintro e w1 ⟨v1, rfl, hown, hb1⟩
  obtain ⟨kA, kc, rfl⟩ := Own.slice (B := w.heap.size) (l := key) hown
  have HX1 : Hid (Ext w w1) := hb1
  have HB1 := Lib.hid (Own.bs (B := w.heap.size) (l := key) hown)
  clear hown hb1
  go_wp2_with fail
  obtain ⟨w2, hw2⟩ : ∃ w2, w2 = w1.alloc (.cells #[.slice kA key.length kc] 22) := ⟨_, rfl⟩
  rw [← hw2]
  have HX2 : Hid (Ext w1 w2) := by rw [hw2]; exact ext_alloc _ _
  have HP2 : Hid (w2.heap[w1.heap.size]? = some (.cells #[.slice kA key.length kc] 22 (0, 0))) := by rw [hw2]; exact heap_at _ _ rfl
  clear hw2
  refine Calls.mono (srow_any _ _ _ _ _) ?_
  rintro e w5 ⟨rfl, hw5⟩
  have hx := row3 w2 (.pointer (some ⟨lb, 0, none⟩)) (.int .i64 0) (.func (.func 45) #[] #[.pointer (some ⟨w1.heap.size, 0, none⟩)]) 28 3 75
  rw [← hw5] at hx
  have HX5 := Lib.hid hx
  have h0 : w5.heap[w2.heap.size]? = some (.cells #[.pointer (some ⟨lb, 0, none⟩)] 28 (0, 0)) := by rw [hw5]; exact ext_heap (Ext.trans (ext_alloc _ _) (ext_alloc _ _)) (heap_at _ _ rfl)
  have h1 : w5.heap[w2.heap.size + 1]? = some (.cells #[.int .i64 0] 3 (0, 0)) := by rw [hw5]; exact ext_heap (ext_alloc _ _) (heap_at _ _ (by simp))
  have h2 : w5.heap[w2.heap.size + 2]? = some (.cells #[.func (.func 45) #[] #[.pointer (some ⟨w1.heap.size, 0, none⟩)]] 75 (0, 0)) := by rw [hw5]; exact heap_at _ _ (by simp)
  have H0 := Lib.hid h0
  have H1 := Lib.hid h1
  have H2 := Lib.hid h2
  clear hw5 hx h0 h1 h2
  go_wp2_with fail
  refine Calls.mono (scopies_any _ _ _) ?_
  rintro e w6 ⟨rfl, hw6⟩
  have HX6 : Hid (Ext w5 w6) := by rw [hw6]; exact ext_alloc _ _
  have HD6 : Hid (w6.heap[w5.heap.size]? = some (.cells #[.func (.func 62) #[] #[.pointer (some ⟨w2.heap.size, 0, none⟩), .pointer (some ⟨w2.heap.size + 1, 0, none⟩), .pointer (some ⟨w2.heap.size + 2, 0, none⟩)]] 35 (0, 0))) := by rw [hw6]; exact heap_at _ _ rfl
  clear hw6
  go_wp2_with fail
  go_ret
  have hx16 := Ext.trans (Ext.trans HX2.out HX5.out) HX6.out
  exact ⟨Ext.trans HX1.out hx16, _, rfl, w5.heap.size, w2.heap.size, w1.heap.size, kc, 0, w1.heap.size, kA, rfl, HD6.out, ext_heap HX6.out H0.out, ext_heap HX6.out H1.out, ext_heap HX6.out H2.out, ext_heap (Ext.trans HX5.out HX6.out) HP2.out, HB1.out.below hx16 (Nat.le_refl _), hx16.size⟩
end Go.Proofs.YtpfaoiickmpmjaaDoor
