import Derived.Test.YtkdidghfcfcpfaaGreatMc19
import Derived.Test.YtkdidghfcfcpfaaGreatMc4
import Derived.Test.YtkdidghfcfcpfaaGreatMc13
import Derived.Test.YtkdidghfcfcpfaaGreatMc18
import Derived.Test.YtkdidghfcfcpfaaGreatMc17
import Derived.Test.YtkdidghfcfcpfaaGreatMc16
import Derived.Test.YtkdidghfcfcpfaaGreatMc0
namespace Go.Proofs.YtkdidghfcfcpfaaGreat
open Go.ChangeShapes Go.WideShapes Go.ChangeAt Go.RowKit Go.Shelf
attribute [local go_sem] Oper.semAt_some
theorem all_some (g : Nat) (w : World) : (binOp .eql 34 (.func (.func 40) #[] #[.pointer (some ⟨g, 0, none⟩)]) .nilFunc).run Tryz.prog w = .ok (.bool false) w := by kernel_rfl
theorem IterQ.ext {P : Program} {α : Type} {gf : Nat} {lb : Array Value} {encs : α → Array Value} {Ok : (Nat → Prop) → (Nat → Prop) → Nat → α → World → Prop} {Done : Nat → Prop} {C : World → Prop} {w w' : World} (h : IterQ P gf lb encs Ok Done C w) (hx : Ext w w') : IterQ P gf lb encs Ok Done C w' :=
 fun m l J Jx W hW => h m l J Jx W (zEt hx hW)
structure TGoI (w : World) (X : Option Addr) (N c : Nat) (most : Int) (D K : Nat → Prop) (k : Nat) (A : World) : Prop where
 below : Ext w A
 num : Boxed A (w.heap.size + 3) 3 (.int .i64 (k : Int))
 res : Boxed A (w.heap.size + 2) 4 (.bool false)
 most : Boxed A (w.heap.size + 1) 3 (.int .i64 most)
 want : Boxed A w.heap.size 28 (.slice X N c)
 z : w.heap.size + 4 ≤ A.heap.size
 dz : ∀ i, D i → w.heap.size + 4 ≤ i
 kz : ∀ i, K i → w.heap.size + 4 ≤ i
theorem TGoI.chg {w : World} {X : Option Addr} {N c : Nat} {most : Int} {D K D' K' : Nat → Prop} {k : Nat} {A A' : World} (h : TGoI w X N c most D K k A) (hc : Chg D A A') (hD : ∀ i, D' i → D i ∨ A.heap.size ≤ i) (hK : ∀ i, K' i → K i ∨ A.heap.size ≤ i) : TGoI w X N c most D' K' k A' := by
 have hz := h.z
 exact ⟨Below.trans h.below (hc.below (fun i hi => by have := h.dz i hi; omega) h.below.size), boxed_chg h.num hc (fun hd => by have := h.dz _ hd; omega), boxed_chg h.res hc (fun hd => by have := h.dz _ hd; omega), boxed_chg h.most hc (fun hd => by have := h.dz _ hd; omega), boxed_chg h.want hc (fun hd => by have := h.dz _ hd; omega), zNt h.z hc.size,
  fun i hi => by rcases hD i hi with h2 | h2; exact h.dz i h2; omega, fun i hi => by rcases hK i hi with h2 | h2; exact h.kz i h2; omega⟩
set_option maxRecDepth 100000 in
set_option maxHeartbeats 8000000 in
theorem tgoes_any {w : World} {bx B lo2 hi2 c2 : Nat} {X : Option Addr} {L2 : List (Ent × Hd)} {V : List Ent} {C : World → Prop} {most : Int} (hseq : GoIter 40 #[.pointer (some ⟨bx, 0, none⟩)] B V C w) (hC : ∀ A, Ext w A → C A)
    (h2 : Es w lo2 hi2 X L2) (hhi2 : hi2 ≤ w.heap.size) (hl2 : L2.length ≤ 1000000000000) (hfit : V = L2.map Prod.fst) :
    Calls Tryz.prog 10 #[.func (.func 40) #[] #[.pointer (some ⟨bx, 0, none⟩)], .slice X L2.length c2, .int .i64 most] w fun e w' => e = .returned (.bool true) ∧ Below w.heap.size w w' := by
 obtain ⟨w1, hw1⟩ : ∃ w1, w1 = (((w.alloc (.cells #[.slice X L2.length c2] 28)).alloc (.cells #[.int .i64 most] 3)).alloc (.cells #[.bool false] 4)).alloc (.cells #[.int .i64 0] 3) := ⟨_, rfl⟩
 have HX1 : Hid (Ext w w1) := by rw [hw1]; exact zEt (zEt (zEt (ext_alloc _ _) (ext_alloc _ _)) (ext_alloc _ _)) (ext_alloc _ _)
 have HZ1 : Hid (w1.heap.size = w.heap.size + 4) := by rw [hw1]; simp [Hid]
 have HB0 : Hid (Boxed w1 w.heap.size 28 (.slice X L2.length c2)) := by rw [hw1]; exact ext_heap (zEt (zEt (ext_alloc _ _) (ext_alloc _ _)) (ext_alloc _ _)) (heap_at _ _ rfl)
 have HB1 : Hid (Boxed w1 (w.heap.size + 1) 3 (.int .i64 most)) := by rw [hw1]; exact ext_heap (zEt (ext_alloc _ _) (ext_alloc _ _)) (heap_at _ _ (by simp))
 have HB2 : Hid (Boxed w1 (w.heap.size + 2) 4 (.bool false)) := by rw [hw1]; exact ext_heap (ext_alloc _ _) (heap_at _ _ (by simp))
 have HB3 : Hid (Boxed w1 (w.heap.size + 3) 3 (.int .i64 0)) := by rw [hw1]; exact heap_at _ _ (by simp)
 have HSEQ := zHd hseq
 have HC := zHd hC
 have HE2 := zHd h2
 have HHI2 := zHd hhi2
 have HL2 := zHd hl2
 have HFIT := zHd hfit
 have hlen : V.length = L2.length := by rw [hfit, List.length_map]
 have HLEN := zHd hlen
 have hlI : (L2.length : Int) ≤ 1000000000000 := by omega
 have hfn := all_some bx
 clear hseq hC h2 hhi2 hl2 hfit hlen
 have hf2 : Fence.wide.fn 22 := trivial
 refine (callsIn_wide (n := 6)).1 ?_
 refine callsIn_of_wp_marks Tryz.func10 rfl trivial ?_
 simp only [Tryz.ntmps10, List.size_toArray, List.length_cons, List.length_nil, Nat.reduceAdd, Nat.reduceSub, Array.replicate_succ, Array.replicate_zero, List.push_toArray, List.append_toArray, List.nil_append, List.cons_append]
 gi_wp2_with fail
 rw [← hw1]
 clear hw1 hfn
 refine wpIn_overQ rfl enters_tall1 (IterQ.ext HSEQ.out HX1.out) (fun _ => rfl) (TGoI w X L2.length c2 most) (fun D c A => c = .ret ∧ Boxed A (w.heap.size + 2) 4 (.bool true) ∧ Ext w A ∧ ∀ i, D i → w.heap.size + 4 ≤ i) (fun _ _ _ _ h => HC.out _ h.below) ?hI ?hIx ?h0 ?rnd ?hok ?done ?stop
 case hI => exact fun D K k A D' K' A' h hc hD hK => h.chg hc hD hK
 case hIx =>
  rintro D c A1 A2 ⟨rfl, hb, hbl, hd⟩ hc
  exact ⟨rfl, boxed_chg hb hc (fun h => by have := hd _ h; omega), Below.trans hbl (hc.below (fun i h => by have := hd i h; omega) hbl.size), hd⟩
 case h0 =>
  intro A1 D K hx hD hK
  have z1 := HZ1.out
  have hs := hx.size
  exact ⟨zEt HX1.out hx, ext_heap hx HB3.out, ext_heap hx HB2.out, ext_heap hx HB1.out, ext_heap hx HB0.out, by omega, fun i h => by have := hD i h; omega, fun i h => by have := hK i h; omega⟩
 case hok =>
  rintro D1 K1 D2 K2 j x A1 ⟨h1, h2, h3, h4⟩ ⟨od, hd⟩ ⟨ol, hl⟩ hD' _ _ _
  have hfr : ∀ {l : List Nat} {v : Value}, Own B l v A1 → Free D1 v → Free D2 v := fun ho hf b hb hd' => by
   obtain ⟨_, _, cc, hcc⟩ := rowN_lt ho b hb
   rcases hD' b hd' with h | h | h
   · exact hf b hb h
   · rw [h, hd] at hcc; cases hcc
   · rw [h, hl] at hcc; cases hcc
  exact ⟨h1, h2, hfr h2.k h3, hfr h2.v h4⟩
 case rnd =>
  rintro l2 D K k ⟨e, g⟩ A1 rfl hDl hKl hDm hKm hDb hKb hi ⟨hek, hm, hf1', hf2'⟩
  have hk : k < V.length := (zLg.1 hek).1
  have hek' : V[k]? = some e := hek
  have HI1 := zHd hi
  have HM1 := zHd hm
  have HFR1 := zHd (And.intro hf1' hf2')
  have HLK := zHd (And.intro hDl hKl)
  have HDK := zHd (And.intro hDb hKb)
  have HK1 := zHd hk
  obtain ⟨q, hq⟩ : ∃ q, L2[k]? = some q := ⟨_, List.getElem?_eq_getElem (by have := HLEN.out; omega)⟩
  have heq : e = q.1 := by
   rw [HFIT.out, List.getElem?_map, hq] at hek'
   injection hek' with h1
   exact h1.symm
  have HQ := zHd hq
  have HEQ := zHd heq
  clear hDl hKl hDm hKm hDb hKb hi hm hf1' hf2' hk hek hek' hq heq
  dsimp only at HFR1
  dsimp only [rowV, Ent.at_]
  gi_wp2
  obtain ⟨A2, hA2⟩ : ∃ A2, A2 = A1.alloc (.cells #[.slice g.kA e.key.length g.kc, .int .i64 e.seq, .int .i64 e.kind, .slice g.vA e.val.length g.vc] 50) := ⟨_, rfl⟩
  rw [← hA2]
  have HX2 : Hid (Ext A1 A2) := by rw [hA2]; exact ext_alloc _ _
  have HBE : Hid (A2.heap[A1.heap.size]? = some (.cells #[.slice g.kA e.key.length g.kc, .int .i64 e.seq, .int .i64 e.kind, .slice g.vA e.val.length g.vc] 50 (0, 0))) := by rw [hA2]; exact heap_at _ _ rfl
  clear hA2
  refine ⟨StepK.of_chg (S := fun _ => False) (Chg.of_ext HX2.out) (fun _ _ _ h => h), fun A3 hc => ?_⟩
  have HCH : Hid (Chg D A1 A3) := ((Chg.of_ext (S := D) HX2.out).trans (hc.mono fun i _ e => by rw [e]; exact HLK.out.1))
  have HI3 := zHd (HI1.out.chg HCH.out (fun i h => .inl h) (fun i h => .inl h))
  have HMI : Hid (Mine B (e, g) A3) := ⟨row_kept HM1.out.k fun b hb => HCH.out.block b (row_lt HM1.out.k b hb).2 (HFR1.out.1 b hb), row_kept HM1.out.v fun b hb => HCH.out.block b (row_lt HM1.out.v b hb).2 (HFR1.out.2 b hb), HM1.out.good⟩
  have HM3 : Hid (Em A3 0 A3.heap.size e g) := HMI.out.em
  have HB3' : Hid (A3.heap[A1.heap.size]? = some (.cells #[.slice g.kA e.key.length g.kc, .int .i64 e.seq, .int .i64 e.kind, .slice g.vA e.val.length g.vc] 50 (0, 0))) :=
   (hc.block _ (zAg.1 HBE.out).1 (fun e => by have := HDK.out.2 _ HLK.out.2; omega)).trans HBE.out
  have HE3 := zHd (HE2.out.below HI3.out.below HHI2.out)
  obtain ⟨b, o, rfl⟩ := HE3.out.base (by have := (zLg.1 HQ.out).1; omega)
  obtain ⟨d0, d1, d2, d3⟩ := HE3.out.get HQ.out
  have HRS : Hid (∀ u, Ext A3 u → Calls Tryz.prog 22 #[.agg #[.slice g.kA e.key.length g.kc, .int .i64 e.seq, .int .i64 e.kind, .slice g.vA e.val.length g.vc], .agg #[.slice q.2.kA q.1.key.length q.2.kc, .int .i64 q.1.seq, .int .i64 q.1.kind, .slice q.2.vA q.1.val.length q.2.vc]] u fun x w' => x = .returned (.bool true) ∧ Ext u w') := fun u hu => by
   refine (rsame_any (HM3.out.below hu (zNr _)) (((HE3.out.below hu (zNt HHI2.out HI3.out.below.size)).each q (List.mem_of_getElem? HQ.out))) hu.size (zNt (zNt HHI2.out HI3.out.below.size) hu.size)).mono ?_
   rintro x w' ⟨z, hz, rfl, hx⟩
   have : z = true := hz.2 HEQ.out
   subst this
   exact ⟨rfl, hx⟩
  have b0 := HI3.out.num.cell
  have f0 := HI3.out.num.frozen
  have b1 := HI3.out.want.cell
  have b2 := HI3.out.most.cell
  have e0 := cell_of HB3'.out (k := 0) rfl
  have e1 := cell_of HB3'.out (k := 1) rfl
  have e2 := cell_of HB3'.out (k := 2) rfl
  have e3 := cell_of HB3'.out (k := 3) rfl
  have hkl : k < L2.length := (zLg.1 HQ.out).1
  have dk : decide ((L2.length : Int) ≤ (k : Int)) = false := by simp; omega
  have dkn : decide (L2.length ≤ k) = false := by simp; omega
  have n1 : (0 : Int) ≤ (k : Int) := by omega
  have n2 : (k : Int) < (L2.length : Int) := by omega
  have HKL := zHd hkl
  have HMIX : Tryz.prog.follows .mixedOrders = true := by kernel_rfl
  clear hc hkl
  gi_wp2
  refine flow_in HMIX (by kernel_rfl) (fun _ _ h => h) [Is (.int .i64 (k : Int)), Is (.slice (some ⟨b, o, none⟩) L2.length c2), Is (.int .i64 (L2.length : Int)), Is (.bool false), Is (.bool false), Is (.agg #[.slice g.kA e.key.length g.kc, .int .i64 e.seq, .int .i64 e.kind, .slice g.vA e.val.length g.vc]), Is (.slice (some ⟨b, o, none⟩) L2.length c2), Is (.int .i64 (k : Int)), Is (.pointer (some ⟨b, o + k * 4, none⟩)), Is (.agg #[.slice q.2.kA q.1.key.length q.2.kc, .int .i64 q.1.seq, .int .i64 q.1.kind, .slice q.2.vA q.1.val.length q.2.vc]), Is (.bool true), Is (.bool false), Is (.bool false)] (by kernel_rfl) (by kernel_rfl) ?mono (fun f1 => ?obl) ?fin
  case mono =>
   simp only [List.forall_mem_cons, List.not_mem_nil, false_imp_iff, implies_true, and_true]
   and_intros <;> exact .is _
  case fin =>
   intro g1 u hu hg
   simp only [puts, Act.put, zq]
   have h12 : g1 12 = _ := hg 12 (by decide)
   rw [h12]
   have HU : Hid (Ext A3 u) := zEt (Ext.drew A3) hu
   have b0 := ext_cell HU.out b0
   have b2 := ext_cell HU.out b2
   have f0 : u.frozen? ⟨w.heap.size + 3, 0, none⟩ = false := Boxed.frozen (ext_heap HU.out HI3.out.num)
   have hres := ext_heap HU.out HI3.out.res
   have r0 := Boxed.cell hres
   have rf := Boxed.frozen hres
   have HRES := zHd hres
   clear h12 hg hu e0 e1 e2 e3 d0 d1 d2 d3 hres
   have hi := HI3.out
   have hnum : Boxed u (w.heap.size + 3) 3 (.int .i64 (k : Int)) := ext_heap HU.out hi.num
   have HNUM := zHd hnum
   clear hi hnum
   by_cases hm : (k : Int) + 1 = most
   · have dm : ((k : Int) + 1 == most) = true := by simpa using hm
     clear hm
     gi_wp2
     have hi := HI3.out
     have z1 := HZ1.out
     have hS : Chg (fun i => i = w.heap.size + 3 ∨ i = w.heap.size + 2) A3 ((u.setCell ⟨w.heap.size + 3, 0, none⟩ (.int .i64 ((k : Int) + 1))).setCell ⟨w.heap.size + 2, 0, none⟩ (.bool true)) := ((Chg.of_ext HU.out).trans (Chg.setCell _ _ _ (.inl rfl))).trans (Chg.setCell _ _ _ (.inr rfl))
     have hb2 : Boxed (u.setCell ⟨w.heap.size + 3, 0, none⟩ (.int .i64 ((k : Int) + 1))) (w.heap.size + 2) 4 (.bool false) := (Below.heap_setCell _ _ _ _ (by show w.heap.size + 2 ≠ w.heap.size + 3; omega)).trans HRES.out
     exact ⟨StepK.of_chg hS (fun i _ hk h3 => by have := hi.kz i hk; omega), rfl, hb2.set _, Below.trans hi.below (hS.below (fun i hb => by omega) hi.below.size), hi.dz⟩
   · have dm : ((k : Int) + 1 == most) = false := by simpa using hm
     clear hm
     gi_wp2
     have hi := HI3.out
     have hS : Chg (fun i => i = w.heap.size + 3) A3 (u.setCell ⟨w.heap.size + 3, 0, none⟩ (.int .i64 ((k : Int) + 1))) := (Chg.of_ext HU.out).trans (Chg.setCell _ _ _ rfl)
     have z1 := HZ1.out
     exact ⟨StepK.of_chg hS (fun i _ hk h3 => by have := hi.kz i hk; omega), Below.trans hi.below (hS.below (fun i hb => by omega) hi.below.size), HNUM.out.set _, boxed_chg hi.res hS (fun hb => by omega),
      boxed_chg hi.most hS (fun hb => by omega), boxed_chg hi.want hS (fun hb => by omega), zNt hi.z hS.size, hi.dz, hi.kz⟩
  case obl =>
   refine ⟨fun u hu hd => ?_, fun u hu hd => ?_, fun u hu hd => ?_, fun u hu hd => ?_, fun u hu hd => ?_, fun u hu hd => ?_, fun u hu hd => ?_, fun u hu hd => ?_, fun u hu hd => ?_, fun u hu hd => ?_, fun u hu hd => ?_, fun u hu hd => ?_, fun u hu hd => ?_, trivial⟩
   all_goals try simp only [Act.put, zq]
   · have hu2 := zEt (Ext.drew A3) hu
     have q1 := ext_cell hu2 b0
     go_simp
     exact zEr
   · have hu2 := zEt (Ext.drew A3) hu
     have q1 := ext_cell hu2 b1
     go_simp
     exact zEr
   · have e1 : f1 1 = _ := hd 1 (by kernel_rfl)
     go_simp
     exact zEr
   · have e0 : f1 0 = _ := hd 0 (by kernel_rfl)
     have e2 : f1 2 = _ := hd 2 (by kernel_rfl)
     go_simp
     exact zEr
   · have e3 : f1 3 = _ := hd 3 (by kernel_rfl)
     go_simp
     exact zEr
   · have e4' : f1 4 = _ := hd 4 (by kernel_rfl)
     have hu2 := zEt (Ext.drew A3) hu
     have q0 := ext_cell hu2 e0
     have q1 := ext_cell hu2 e1
     have q2 := ext_cell hu2 e2
     have q3 := ext_cell hu2 e3
     go_simp
     exact zEr
   · have e4' : f1 4 = _ := hd 4 (by kernel_rfl)
     have hu2 := zEt (Ext.drew A3) hu
     have q1 := ext_cell hu2 b1
     go_simp
     exact zEr
   · have e4' : f1 4 = _ := hd 4 (by kernel_rfl)
     have hu2 := zEt (Ext.drew A3) hu
     have q1 := ext_cell hu2 b0
     go_simp
     exact zEr
   · have e4' : f1 4 = _ := hd 4 (by kernel_rfl)
     have e6 : f1 6 = _ := hd 6 (by kernel_rfl)
     have e7 : f1 7 = _ := hd 7 (by kernel_rfl)
     go_simp
     exact zEr
   · have e4' : f1 4 = _ := hd 4 (by kernel_rfl)
     have e8 : f1 8 = _ := hd 8 (by kernel_rfl)
     have hu2 := zEt (Ext.drew A3) hu
     have q0 := ext_cell hu2 d0
     have q1 := ext_cell hu2 d1
     have q2 := ext_cell hu2 d2
     have q3 := ext_cell hu2 d3
     go_simp
     exact zEr
   · have e4' : f1 4 = _ := hd 4 (by kernel_rfl)
     have e5 : f1 5 = _ := hd 5 (by kernel_rfl)
     have e9 : f1 9 = _ := hd 9 (by kernel_rfl)
     have hu2 := zEt (Ext.drew A3) hu
     go_simp
     refine (HRS.out u hu2).mono ?_
     rintro x w9 ⟨rfl, hx9⟩
     exact ⟨_, rfl, hx9, rfl⟩
   · have e4' : f1 4 = _ := hd 4 (by kernel_rfl)
     have e10 : f1 10 = _ := hd 10 (by kernel_rfl)
     go_simp
     exact zEr
   · have e4' : f1 4 = _ := hd 4 (by kernel_rfl)
     have e11 : f1 11 = _ := hd 11 (by kernel_rfl)
     go_simp
     exact zEr
 case done =>
  rintro D' k W' D0 K0 hDl _ _ hi hdn hD
  have hdn2 : k = V.length := hdn
  rw [hdn2, HLEN.out] at hi
  have HDL := zHd hDl
  have HDD := zHd hD
  have HI := zHd hi
  have q0 := hi.num.cell
  have q1 := hi.want.cell
  have q2 := hi.res.cell
  have f2 := hi.res.frozen
  clear hDl hi hdn hdn2 hD
  gi_wp2
  have hne : D' ≠ w.heap.size + 2 := by have h1 := HDL.out; have h2 := HZ1.out; omega
  have HD2 : Hid ((W'.setCell ⟨w.heap.size + 2, 0, none⟩ (.bool true)).heap[D']? = some (.deferred (some []))) := (Below.heap_setCell _ _ _ _ hne).trans HDD.out
  have HBR : Hid (Boxed (W'.setCell ⟨w.heap.size + 2, 0, none⟩ (.bool true)) (w.heap.size + 2) 4 (.bool true)) := HI.out.res.set _
  have HBW : Hid (Below w.heap.size w (W'.setCell ⟨w.heap.size + 2, 0, none⟩ (.bool true))) := Below.setCell HI.out.below (show w.heap.size ≤ w.heap.size + 2 by omega) _
  refine ⟨by simp, .inl ⟨_, _, rfl, run_takeDeferred HD2.out, ?_⟩⟩
  refine ⟨_, results_cell_bool Tryz.results10 _ _ (w.heap.size + 2) true rfl (Boxed.cell (boxed_chg HBR.out (putObj_chg _ D' _) (fun e => hne e.symm))), ⟨rfl, ?_⟩⟩
  exact Below.trans HBW.out ((putObj_chg _ D' _).below (fun i e => by have h1 := HDL.out; have h2 := HZ1.out; omega) HBW.out.size)
 case stop =>
  rintro D0 D' c W' hDl _ ⟨rfl, hbr, hbl, _⟩ hD
  have HDL := zHd hDl
  have HBR := zHd hbr
  have HBW := zHd hbl
  have HDD := zHd hD
  clear hDl hbr hbl hD
  gi_wp2
  have hne : D' ≠ w.heap.size + 2 := by have h1 := HDL.out; have h2 := HZ1.out; omega
  refine ⟨by simp, .inl ⟨_, _, rfl, run_takeDeferred HDD.out, ?_⟩⟩
  refine ⟨_, results_cell_bool Tryz.results10 _ _ (w.heap.size + 2) true rfl (Boxed.cell (boxed_chg HBR.out (putObj_chg _ D' _) (fun e => hne e.symm))), ⟨rfl, ?_⟩⟩
  exact Below.trans HBW.out ((putObj_chg _ D' _).below (fun i e => by have h1 := HDL.out; have h2 := HZ1.out; omega) HBW.out.size)
end Go.Proofs.YtkdidghfcfcpfaaGreat
namespace Go.Proofs.YtkdidghfcfcpfaaGreat
open Go.ChangeShapes Go.WideShapes Go.ChangeAt Go.RowKit
def TWAns (w : World) (L : List Ent) (x : Ending) (w' : World) : Prop :=
 Ext w w' ∧ ((MayT L ∧ ∃ C A c, C.flatten = L ∧ Cuts C ∧ x = .returned (.tuple #[.slice A (tb C L).length c, .int .i64 0]) ∧ Own w.heap.size (tb C L) (.slice A (tb C L).length c) w') ∨ (¬ MayT L ∧ x = .returned (.tuple #[.slice none 0 0, .int .i64 2])))
set_option maxRecDepth 100000 in
set_option maxHeartbeats 4000000 in
theorem twrite_any {w : World} {lo hi c : Nat} {A : Option Addr} {L : List (Ent × Hd)} (h : Es w lo hi A L) (hhi : hi ≤ w.heap.size) (hlc : L.length ≤ c) (hlen : L.length ≤ 1000000000000) :
    Calls Tryz.prog 31 #[.slice A L.length c] w (TWAns w (L.map Prod.fst)) := by
 have HM := zHd (made_any h hhi hlc hlen)
 clear h hhi hlc hlen
 go_enter Tryz.func31, Tryz.ntmps31
 go_wp2_with fail
 refine HM.out.mono ?_
 rintro x w2 ⟨hx2, (⟨hm, C, bv_, pv_, fv_, hf, hc, rfl, ht⟩ | ⟨hm, rfl⟩)⟩
 · obtain ⟨PA, pc, P, rfl, _, _, _⟩ := ht.ex
   obtain ⟨TA, tc, rfl⟩ := ht.bytes.slice
   obtain ⟨FA, fc, rfl⟩ := ht.filt.slice
   have HMT := zHd hm
   have HX2 := zHd hx2
   have HC := zHd (And.intro hf hc)
   have HO := zHd ht.bytes
   unfold tbcells
   clear hm hx2 hf hc ht
   go_wp2_with fail
   go_ret2
   exact ⟨zEt HX2.out (ext_alloc _ _), .inl ⟨HMT.out, C, TA, tc, HC.out.1, HC.out.2, rfl, HO.out.below (ext_alloc _ _)⟩⟩
 · have HMT := zHd hm
   have HX2 := zHd hx2
   unfold tbcells
   clear hm hx2
   go_wp2_with fail
   go_ret2
   exact ⟨zEt HX2.out (ext_alloc _ _), .inr ⟨HMT.out, rfl⟩⟩
end Go.Proofs.YtkdidghfcfcpfaaGreat
namespace Go.Proofs.YtkdidghfcfcpfaaGreat
open Go.ChangeShapes Go.WideShapes Go.ChangeAt Go.RowKit Go.Lib Go.Joins
theorem unum (n : Int) (w : World) : Calls Tryz.prog 9 #[.int .i64 n] w fun e w' => e = .returned (.int .i64 n) ∧ w = w' := by
 go_enter Tryz.func9, Tryz.ntmps9
 go_wp2
 go_ret
 exact ⟨rfl, rfl⟩
set_option maxRecDepth 100000 in
set_option maxHeartbeats 2000000 in
theorem uput_any (k : List Nat) (s : Int) (hk : ∀ x ∈ k, x < 256) (hkl : k.length ≤ 1000) (h1 : -9223372036854775808 ≤ s) (h2 : s ≤ 9223372036854775807) (w : World) :
    Calls Tryz.prog 32 #[.string (tx k), .int .i64 s] w (LitAns w ⟨k, s, 1, [118]⟩) := by
 obtain ⟨w1, hw1⟩ : ∃ w1, w1 = w.alloc (.cells #[.slice none 0 0, .int .i64 0, .int .i64 0, .slice none 0 0] 50) := ⟨_, rfl⟩
 have HX : Hid (Ext w w1) := by rw [hw1]; exact ext_alloc _ _
 have HBX : Hid (w1.heap[w.heap.size]? = some (.cells #[.slice none 0 0, .int .i64 0, .int .i64 0, .slice none 0 0] 50 (0, 0))) := by rw [hw1]; exact heap_at _ _ rfl
 have HZ : Hid (w1.heap.size = w.heap.size + 1) := by rw [hw1]; simp [Hid]
 obtain ⟨A2, c2, w2, e2, x2, b2⟩ := conv_new w1 k hk hkl
 have cv1 : (convert 22 22 (.slice (some ⟨w2.heap.size, 0, none⟩) 1 1)).run Tryz.prog (w2.alloc (.cells #[.int .u8 118] 5)) = .ok (.slice (some ⟨w2.heap.size, 0, none⟩) 1 1) (w2.alloc (.cells #[.int .u8 118] 5 (1, 2))) := run_convert_bytes_const_at _ _ _ _ _ _ _ (rfl) Tryz.underlying22 Tryz.underlying5
 obtain ⟨w3, hw3⟩ : ∃ w3, w3 = w2.alloc (.cells #[.int .u8 118] 5 (1, 2)) := ⟨_, rfl⟩
 have hx3 : Ext w2 w3 := by rw [hw3]; exact ext_alloc _ _
 have hb3 : Bs w3 w2.heap.size w3.heap.size (.slice (some ⟨w2.heap.size, 0, none⟩) 1 1) [118] := by
  rw [hw3]; exact (bs_mark w2 [118] (by simp) (1, 2)).wide (zNr _) (by simp)
 have hb := ext_heap (zEt x2 hx3) HBX.out
 rw [← hw3] at cv1
 clear hw3
 have q0 := cell_of hb (k := 0) rfl
 have q1 := cell_of hb (k := 1) rfl
 have q2 := cell_of hb (k := 2) rfl
 have q3 := cell_of hb (k := 3) rfl
 have z0 := frozen_four hb (j := 0)
 have z1 := frozen_four hb (j := 1)
 have z2 := frozen_four hb (j := 2)
 have z3 := frozen_four hb (j := 3)
 have HB := zHd hb
 have HK := zHd ((b2.below hx3 (zNr _)).wide (zNr _) hx3.size)
 have HV := zHd (hb3.wide (lo' := w1.heap.size) x2.size (zNr _))
 have HX3 : Hid (Ext w w3) := zEt HX.out (zEt x2 hx3)
 have HBY := zHd hk
 have HS := zHd (And.intro h1 h2)
 clear x2 hx3 b2 hb3 hb hk hkl h1 h2
 go_enter Tryz.func32, Tryz.ntmps32
 rw [hw1] at e2
 go_wp2_with fail
 refine entry_ret1 (p := 4) (by kernel_rfl) rfl rfl (set_four HB.out) ?_
 have far : ∀ {l : List Nat} {v : Value} {u : World} {p : Addr} {x : Value}, p.block < w1.heap.size → Bs u w1.heap.size w3.heap.size v l → Bs (u.setCell p x) w1.heap.size w3.heap.size v l := fun hp h => h.setCell (.inl hp) _
 have hlt : w.heap.size < w1.heap.size := by rw [HZ.out]; omega
 refine ⟨Below.setCell (Below.setCell (Below.setCell (Below.setCell HX3.out (zNr _) _) (zNr _) _) (zNr _) _) (zNr _) _, ⟨A2, c2, some ⟨w2.heap.size, 0, none⟩, 1⟩, rfl, ⟨?_, ?_, HBY.out, (fun x hx => by have h9 : x ∈ [118] := hx; rw [List.mem_singleton] at h9; omega), HS.out.1, HS.out.2, (by show (-9223372036854775808 : Int) ≤ _; dsimp only; omega), (by dsimp only; omega)⟩⟩
 · exact (far hlt (far hlt (far hlt (far hlt HK.out)))).wide HX.out.size (by simp [World.setCell])
 · exact (far hlt (far hlt (far hlt (far hlt HV.out)))).wide HX.out.size (by simp [World.setCell])
def uE (k : Nat) (s : Int) : Ent := ⟨[k], s, 1, [118]⟩
theorem ulit_any {e : Ent} {k : Nat} {kb : ByteArray} {s : Int} (he : e = uE k s) (hkb : kb = tx [k]) (hk : k < 256) (h1 : 0 ≤ s) (h2 : s ≤ 9000) (w : World) :
    Calls Tryz.prog 32 #[.string kb, .int .i64 s] w (LitAns w e) := by
 subst he hkb
 exact uput_any [k] s (fun x hx => by rw [List.mem_singleton] at hx; omega) (by simp) (by omega) (by omega) w
theorem three_es {u : World} {b : Nat} {e e' e2 : Ent} {g g' g2 : Hd} (h : u.heap[b]? = some (.cells (ecells (e, g) ++ (ecells (e', g') ++ ecells (e2, g2))).toArray 50 (0, 0))) (hm : Em u 0 u.heap.size e g) (hm' : Em u 0 u.heap.size e' g') (hm2 : Em u 0 u.heap.size e2 g2) : Es u 0 u.heap.size (some ⟨b, 0, none⟩) [(e, g), (e', g'), (e2, g2)] := by
 refine ⟨.inr ⟨b, 0, rfl, Nat.zero_le _, (zAg.1 h).1, fun i x hx => ?_⟩, fun p hp => ?_⟩
 · rw [Nat.zero_add]
   exact cell_of h (by simpa [erow] using hx)
 · simp only [List.mem_cons, List.not_mem_nil, or_false] at hp
   rcases hp with rfl | rfl | rfl
   · exact hm
   · exact hm'
   · exact hm2
def uT : List Ent := [uE 97 5, uE 97 3, uE 98 9]
theorem umay : MayT uT := by
 refine ⟨by decide, by decide, fun j a b ha hb => ?_, by decide⟩
 rcases j with _ | _ | _ | j
 · simp [uT] at ha hb; subst ha hb; decide
 · simp [uT] at ha hb; subst ha hb; decide
 · simp [uT] at hb
 · simp [uT] at hb
theorem uno : ¬ MayT [uE 98 1, uE 97 1] := fun h => by
 have := h.2.2.1 0 (uE 98 1) (uE 97 1) rfl rfl
 exact absurd this (by decide)
theorem uno0 : ¬ MayT [] := fun h => absurd h.1 (by decide)
theorem upiece : Piece uT := by
 refine ⟨by decide, fun m h1 h2 => ?_⟩
 have h3 : uT.length = 3 := rfl
 rcases m with _ | _ | _ | m
 · omega
 · simp [wr, upto, pieceOf, kform, ahOf, ats, be4, uT, uE, shr, bytesForm, form_lo, List.range, List.range.loop, List.flatMap_cons, List.filter]
 · simp [wr, upto, pieceOf, kform, ahOf, ats, be4, uT, uE, shr, bytesForm, form_lo, List.range, List.range.loop, List.flatMap_cons, List.filter]
 · omega
theorem ucuts : Cuts [uT] := ⟨upiece, fun _ _ h => (by cases h), trivial⟩
theorem ucut {C : List (List Ent)} (h : Cuts C) (hf : C.flatten = uT) : C = [uT] := cut_unique h ucuts (by rw [hf]; rfl)
theorem unot (L : List Ent) : ¬ IsT [] L := fun ⟨_, C, _, _, h⟩ => by
 have := tb_len C L
 rw [h] at this
 simp at this
theorem ulen {C : List (List Ent)} {L : List Ent} (h : MayT L) (hc : Cuts C) (hf : C.flatten = L) : (tb C L).length ≤ 1000000000 := by
 have := (few h hc hf).a
 rw [tb_len]; omega
theorem ulen1 : (tb [uT] uT).length ≤ 1000000000 := ulen umay ucuts rfl
theorem utb_lt {C : List (List Ent)} {L : List Ent} (hm : MayT L) (hc : Cuts C) (hf : C.flatten = L) (hb : ∀ e ∈ L, (∀ x ∈ e.key, x < 256) ∧ ∀ x ∈ e.val, x < 256) : ∀ x ∈ tb C L, x < 256 := by
 subst hf
 intro x hx
 unfold tb at hx
 rcases List.mem_append.1 hx with hx | hx
 · exact ahd_lt hc hm.2.2.2 hm.2.2.1 hb _ x hx
 · rcases List.mem_append.1 hx with hx | hx
   · unfold foot24 at hx
     simp only [List.mem_append] at hx
     rcases hx with hx | hx | hx | hx | hx | hx <;> exact be4_lt _ x hx
   · exact be4_lt _ x hx
theorem open_is {w w' : World} {C : List (List Ent)} {L : List Ent} {x : Ending} (hm : MayT L) (hc : Cuts C) (hf : C.flatten = L) (h : TOpenAns w (tb C L) x w') : Ext w w' ∧ ∃ g, x = .returned (.tuple #[.pointer (some ⟨g, 0, none⟩), .int .i64 0]) ∧ TV w' g C L [] [] false := by
 obtain ⟨hx, (⟨C', L', g, h1, h2, h3, h4, h5, rfl, _, h6⟩ | ⟨hno, _⟩)⟩ := h
 · have hL : L' = L := IsT.unique (b := tb C L) ⟨h1, C', h3, h2, h4⟩ ⟨hm, C, hf, hc, rfl⟩
   subst hL
   have hC : C' = C := cut_unique h2 hc (by rw [h3, hf])
   subst hC
   exact ⟨hx, g, rfl, TV.whole h1 h2 h3 h5 h6⟩
 · exact absurd ⟨hm, C, hf, hc, rfl⟩ (hno L)
theorem open_not {w w' : World} {b : List Nat} {x : Ending} (hn : ∀ L, ¬ IsT b L) (h : TOpenAns w b x w') : Ext w w' ∧ x = .returned (.tuple #[.pointer none, .int .i64 10]) := by
 obtain ⟨hx, (⟨C', L', g, h1, h2, h3, h4, h5, rfl, _, h6⟩ | ⟨_, rfl⟩)⟩ := h
 · exact absurd ⟨h1, C', h3, h2, h4⟩ (hn L')
 · exact ⟨hx, rfl⟩
theorem get_is {w w' : World} {L : List Ent} {fr tt key : List Nat} {en : Bool} {s : Int} {x : Ending} (h : TGetAns w L (hasV fr tt en key && Bl.mayB (Bl.mk (keysT L)) key) key s x w') : Ext w w' ∧ match (inV fr tt en L).find? (seenE key s) with
    | some e => ∃ g : Hd, x = .returned (.tuple #[e.at_ g, .int .i64 0]) ∧ Em w' 0 w'.heap.size e g
    | none => x = .returned (.tuple #[noE, .int .i64 6]) := by
 obtain ⟨h1, h2⟩ := h
 have h3 := get_view fr tt en key s L
 rw [h3] at h2
 exact ⟨h1, h2⟩
theorem mark_ps {B lo hi : Nat} {u u' : World} {A : Option Addr} {P : List (Pl × PHd)} (h : (MarkR B).r u u') (hP : Ps u lo hi A P) : Ps u' lo hi A P := by
 refine ⟨?_, fun p hp => mark_bs h (hP.each p hp)⟩
 rcases hP.outer with h0 | ⟨b, o, e, h1, h2, h3⟩
 · exact .inl h0
 · exact .inr ⟨b, o, e, h1, h2, fun i x hx => mark_cell h (h3 i x hx)⟩
theorem TV.mark {B : Nat} {u u' : World} {g : Nat} {C : List (List Ent)} {L : List Ent} {fr tt : List Nat} {en : Bool} (h : TV u g C L fr tt en) (hm : (MarkR B).r u u') : TV u' g C L fr tt en := by
 obtain ⟨fA, fc, tA, tc, ⟨bv_, fv_, PA, pc, P, h1, h2, h3, h4, h5, h6⟩, h7, h8⟩ := h.at_
 have hz := hm.2.2.2.1
 exact ⟨h.may, h.cuts, h.flat, ⟨fA, fc, tA, tc, ⟨bv_, fv_, PA, pc, P, mark_heap hm h1 (.inr fun _ _ e => by injection e with _ e _; exact absurd e (by decide)), (mark_bs hm h2).wide (zNr _) hz, (mark_bs hm h3).wide (zNr _) hz, (mark_ps hm h4).wide (zNr _) hz, h5, h6⟩, (mark_bs hm h7).wide (zNr _) hz, (mark_bs hm h8).wide (zNr _) hz⟩, h.bf, h.bt, h.good⟩
def ViewF (C : List (List Ent)) (L : List Ent) (fr tt : List Nat) (en : Bool) (v : Value) (u : World) : Prop := ∃ g, v = .pointer (some ⟨g, 0, none⟩) ∧ TV u g C L fr tt en
theorem Fr.Mono.view (B : Nat) (C : List (List Ent)) (L : List Ent) (fr tt : List Nat) (en : Bool) : Fr.Mono (MarkR B) (ViewF C L fr tt en) := fun _ _ _ ⟨g, h, hv⟩ hu => ⟨g, h, hv.mark hu⟩
end Go.Proofs.YtkdidghfcfcpfaaGreat
namespace Go.Proofs.YtkdidghfcfcpfaaGreat
open Go.ChangeShapes Go.WideShapes Go.ChangeAt Go.RowKit
def ROpenAns (w : World) (b : List Nat) (x : Ending) (w' : World) : Prop :=
 Ext w w' ∧ ((∃ (A : Option Addr) (c : Nat) (R : List (Ent × Hd)), x = .returned (.tuple #[.slice A R.length c, .int .i64 0]) ∧ Es w' w.heap.size w'.heap.size A R ∧ R.length ≤ c ∧ IsT b (R.map Prod.fst)) ∨
  ((∀ L, ¬ IsT b L) ∧ x = .returned (.tuple #[.slice none 0 0, .int .i64 10])))
theorem ridxs_at {C : List (List Ent)} {k : Nat} {q : List Ent} (hq : C[k]? = some q) : idxs (offB C k) (C.drop k) = idx1 q (offB C k) (wr q).length ++ idxs (offB C (k + 1)) (C.drop (k + 1)) := by
 obtain ⟨hk, rfl⟩ := zLg.1 hq
 rw [List.drop_eq_getElem_cons hk]
 show idx1 C[k] _ _ ++ idxs (offB C k + (wr C[k]).length) _ = _
 congr 2
 unfold offB
 rw [offB_succ hq, List.length_append]
structure RoSt (w : World) (B q lo hi : Nat) (b : List Nat) (v : Value) (R : List (Ent × Hd)) (k : Nat) (rest : List Nat) (u : World) : Prop where
 ent : ∀ C L, MayT L → Cuts C → C.flatten = L → tb C L = b → R.map Prod.fst = (C.take k).flatten ∧ rest = idxs (offB C k) (C.drop k)
 qd : Qd u q lo hi rest
 held : Held B v R u
 may : ∀ p ∈ R, p.1.may = true
 few : R.length ≤ 4096
 x : Ext w u
 size : B ≤ u.heap.size
 len : rest.length ≤ 1000000000
set_option maxRecDepth 100000 in
set_option maxHeartbeats 16000000 in
theorem ropen_any {w : World} {lo hi c : Nat} {A : Option Addr} {b : List Nat} (hv : Bs w lo hi (.slice A b.length c) b) (hhi : hi ≤ w.heap.size) (hb : ∀ x ∈ b, x < 256) (hl : b.length ≤ 1000000000) :
    Calls Tryz.prog 8 #[.slice A b.length c] w (ROpenAns w b) := by
 have HV := zHd hv
 have HHI := zHd hhi
 have HBY := zHd hb
 have HL := zHd hl
 have HC : Hid (b.length ≤ c ∧ c ≤ maxLen) := hv.len.2
 have HT28 : Hid (∀ L, IsT b L → 28 ≤ b.length) := fun L ⟨h1, C, h2, h3, h4⟩ => by have := (tb_index h1 h3 h2).1; rw [h4] at this; exact this
 clear hv hhi hb hl
 go_enter Tryz.func8, Tryz.ntmps8
 by_cases h28 : b.length < 28
 · have d : decide ((b.length : Int) < 28) = true := by simp; omega
   have dn : decide (b.length < 28) = true := decide_eq_true h28
   have HNO : Hid (∀ L, ¬ IsT b L) := fun L h => by have := HT28.out L h; omega
   clear h28
   go_wp2_with fail
   go_ret2
   exact ⟨Ext.refl _, .inr ⟨HNO.out, rfl⟩⟩
 have d28 : decide ((b.length : Int) < 28) = false := by simp; omega
 have d28n : decide (b.length < 28) = false := decide_eq_false h28
 obtain ⟨m, hm⟩ : ∃ m, m = b.length - 28 := ⟨_, rfl⟩
 have HM : Hid (m + 28 = b.length) := by unfold Hid; omega
 have hw : wrap64 ((b.length : Int) - 28) = (m : Int) := by have := HL.out; unfold wrap64; omega
 obtain ⟨fo, hfo⟩ : ∃ fo, fo = b.drop m := ⟨_, rfl⟩
 have hfl : fo.length = b.length - m := by rw [hfo, List.length_drop]
 have HFL : Hid (fo.length = 28) := by unfold Hid; omega
 obtain ⟨A2, hA2, hA2n, hrun⟩ := tail_run A b.length c m (by omega) HC.out.1
 have hrun' : ∀ w, (Instr.slice 22 (.slice A b.length c) (some (.int .i64 (m : Int))) none none).run Tryz.prog w = .ok (.slice A2 fo.length (c - m)) w := by rw [hfl]; exact hrun
 have HF : Hid (Bs w lo hi (.slice A2 fo.length (c - m)) fo) := by
  obtain ⟨A', c', e1, h1, h2, h3, h4⟩ := HV.out
  injection e1 with e1 e2 e3
  subst e1 e3
  have h6 := hA2 b rfl _ _ _ h4
  rw [← hfo] at h6
  exact ⟨A2, _, rfl, by rw [hfl]; omega, by omega, fun e => by have := h3 (hA2n e); omega, h6⟩
 have HFB : Hid (∀ x ∈ fo, x < 256) := fun x hx => HBY.out x (List.mem_of_mem_drop (by rw [← hfo]; exact hx))
 obtain ⟨at_, hat⟩ : ∃ at_, at_ = num4 (fo.take 4) := ⟨_, rfl⟩
 obtain ⟨n, hn⟩ : ∃ n, n = num4 ((fo.drop 4).take 4) := ⟨_, rfl⟩
 have HN4 : Hid (at_ < 4294967296 ∧ n < 4294967296) := by
  rw [hat, hn]
  have h1 := HFL.out
  exact ⟨num4_lt (by rw [List.length_take]; omega) (fun x hx => HFB.out x (List.mem_of_mem_take hx)), num4_lt (by rw [List.length_take, List.length_drop]; omega) (fun x hx => HFB.out x (List.mem_of_mem_drop (List.mem_of_mem_take hx)))⟩
 have HTI : Hid (∀ C L, MayT L → Cuts C → C.flatten = L → tb C L = b → at_ = (blks C).length ∧ n = (index C).length ∧ at_ + n ≤ m ∧ (b.drop at_).take n = index C) := fun C L h1 h2 h3 h4 => by
  obtain ⟨_, k2, k3, k4, k5, k6⟩ := tb_index h1 h2 h3
  rw [h4, ← hm] at k2 k3 k4
  rw [← hfo] at k3 k4
  have hal := congrArg List.length k2
  rw [List.length_take, Nat.min_eq_left (by omega)] at hal
  have e1 : at_ = (blks C).length := by rw [hat, k3]
  have e2 : n = (index C).length := by rw [hn, k4]
  refine ⟨e1, e2, by omega, ?_⟩
  rw [← k2, ← e1, ← e2, List.drop_take, List.take_take, Nat.min_eq_left (by omega)] at k6
  exact k6
 have HAT := zHd hat
 have HN := zHd hn
 obtain ⟨A3, hA3, hA3n, hrun3⟩ := tail_run A2 fo.length (c - m) 4 (by omega) (by have := HF.out.len; omega)
 have hfd : (fo.drop 4).length = fo.length - 4 := List.length_drop
 have hrun4 : ∀ w, (Instr.slice 22 (.slice A2 fo.length (c - m)) (some (.int .i64 4)) none none).run Tryz.prog w = .ok (.slice A3 (fo.drop 4).length (c - m - 4)) w := by rw [hfd]; exact hrun3
 have HF3 : Hid (Bs w lo hi (.slice A3 (fo.drop 4).length (c - m - 4)) (fo.drop 4)) := by
  obtain ⟨A', c', e1, h1, h2, h3, h4⟩ := HF.out
  injection e1 with e1 e2 e3
  subst e1 e3
  have h6 := hA3 fo rfl _ _ _ h4
  exact ⟨A3, _, rfl, by rw [hfd]; omega, by omega, fun e => by have := h3 (hA3n e); omega, h6⟩
 have HR1 : Hid (∀ u, Ext w u → Calls Tryz.prog 36 #[.slice A2 fo.length (c - m)] u fun x w' => x = .returned (.int .i64 (at_ : Int)) ∧ Ext u w') := fun u hu => by
  rw [HAT.out]
  exact rnum9_any (HF.out.below hu HHI.out) (by have := HFL.out; omega) HFB.out
 have HR2 : Hid (∀ u, Ext w u → Calls Tryz.prog 36 #[.slice A3 (fo.drop 4).length (c - m - 4)] u fun x w' => x = .returned (.int .i64 (n : Int)) ∧ Ext u w') := fun u hu => by
  rw [HN.out]
  exact rnum9_any (HF3.out.below hu HHI.out) (by rw [List.length_drop]; have := HFL.out; omega) (fun x hx => HFB.out x (List.mem_of_mem_drop hx))
 obtain ⟨fl, hfl2⟩ : ∃ fl, fl = fo.length := ⟨_, rfl⟩
 obtain ⟨gl, hgl⟩ : ∃ gl, gl = (fo.drop 4).length := ⟨_, rfl⟩
 rw [← hfl2] at hrun' HR1
 rw [← hfl2, ← hgl] at hrun4
 rw [← hgl] at HR2
 clear h28 hA2 hA2n hrun hm hfo hfl hat hn hA3 hA3n hrun3 hfd hfl2 hgl
 go_upto_region 4 with (fail)
 refine flow (by kernel_rfl) [Is (.slice A2 fl (c - m)), Is (.int .i64 (at_ : Int)), Is (.slice A2 fl (c - m)), Is (.slice A3 gl (c - m - 4)), Is (.int .i64 (n : Int)), Is (.int .i64 (at_ : Int)), Is (.int .i64 (n : Int))] (by kernel_rfl) (by kernel_rfl) ?mono (fun f1 => ?obl) ?fin
 case mono =>
  simp only [List.forall_mem_cons, List.not_mem_nil, false_imp_iff, implies_true, and_true]
  and_intros <;> exact .is _
 case fin =>
  intro g1 u hu hg
  simp only [puts, Act.put, zq]
  have HRX : g1 5 = .int .i64 (at_ : Int) ∧ g1 6 = .int .i64 (n : Int) := ⟨hg 5 (by decide), hg 6 (by decide)⟩
  rw [HRX.1, HRX.2]
  have HX1 : Hid (Ext w u) := zEt (Ext.drew w) hu
  clear HRX hg hu hrun' hrun4
  by_cases hc : at_ ≤ m
  rotate_left
  · have HNO : Hid (∀ L, ¬ IsT b L) := fun L ⟨h1, C, h2, h3, h4⟩ => by have := HTI.out C L h1 h3 h2 h4; omega
    have g : decide ((m : Int) < (at_ : Int)) = true := by simp; omega
    have gn : decide (m < at_) = true := by simp; omega
    clear hc
    go_wp2_with fail
    go_ret2
    exact ⟨HX1.out, .inr ⟨HNO.out, rfl⟩⟩
  have g1 : decide ((m : Int) < (at_ : Int)) = false := by simp; omega
  have g1n : decide (m < at_) = false := by simp; omega
  obtain ⟨k, hk⟩ : ∃ k, k = m - at_ := ⟨_, rfl⟩
  have hw2 : wrap64 ((m : Int) - (at_ : Int)) = (k : Int) := by have := HL.out; have := HM.out; unfold wrap64; omega
  have HK : Hid (at_ + k = m) := by unfold Hid; omega
  clear hc hk
  by_cases hc : n ≤ k
  rotate_left
  · have HNO : Hid (∀ L, ¬ IsT b L) := fun L ⟨h1, C, h2, h3, h4⟩ => by have := HTI.out C L h1 h3 h2 h4; have := HK.out; omega
    have g : decide ((k : Int) < (n : Int)) = true := by simp; omega
    have gn : decide (k < n) = true := by simp; omega
    clear hc
    go_wp2_with fail
    go_ret2
    exact ⟨HX1.out, .inr ⟨HNO.out, rfl⟩⟩
  have g2 : decide ((k : Int) < (n : Int)) = false := by simp; omega
  have g2n : decide (k < n) = false := by simp; omega
  obtain ⟨e, he⟩ : ∃ e, e = at_ + n := ⟨_, rfl⟩
  have hw3 : wrap64 ((at_ : Int) + (n : Int)) = (e : Int) := by have := HN4.out; unfold wrap64; omega
  have HE : Hid (e = at_ + n ∧ e ≤ m ∧ at_ ≤ e) := by have := HK.out; unfold Hid; omega
  obtain ⟨A4, hA4, hrun4, _⟩ := cut_run A b.length c at_ e (by omega) (by have := HM.out; have := HE.out; omega) HC.out.1
  obtain ⟨ix, hix⟩ : ∃ ix, ix = (b.drop at_).take (e - at_) := ⟨_, rfl⟩
  have hixl : ix.length = e - at_ := by rw [hix, List.length_take, List.length_drop]; have := HM.out; have := HE.out; omega
  have HIX : Hid (Bs u lo hi (.slice A4 ix.length (c - at_)) ix) := by
   have h := hA4 _ _ _ _ (HV.out.below HX1.out HHI.out)
   rw [← hix, ← hixl] at h
   exact h
  have hrun5 : ∀ w, (Instr.slice 22 (.slice A b.length c) (some (.int .i64 (at_ : Int))) (some (.int .i64 (e : Int))) none).run Tryz.prog w = .ok (.slice A4 ix.length (c - at_)) w := by rw [hixl]; exact hrun4
  have HIXB : Hid (∀ x ∈ ix, x < 256) := fun x hx => HBY.out x (List.mem_of_mem_drop (List.mem_of_mem_take (by rw [← hix]; exact hx)))
  have HIXT : Hid (∀ C L, MayT L → Cuts C → C.flatten = L → tb C L = b → ix = index C) := fun C L h1 h2 h3 h4 => by
   have h := (HTI.out C L h1 h2 h3 h4).2.2.2
   rw [hix, show e - at_ = n by have := HE.out; omega]
   exact h
  have HIXL : Hid (ix.length ≤ 1000000000) := by rw [hixl]; have := HE.out; have := HM.out; have := HL.out; unfold Hid; omega
  clear hc he hA4 hrun4 hix hixl
  go_upto_region 8 with (fail)
  obtain ⟨w2, hw2'⟩ : ∃ w2, w2 = u.alloc (.cells #[.slice A4 ix.length (c - at_)] 73) := ⟨_, rfl⟩
  rw [← hw2']
  have HX2 : Hid (Ext w w2) := by rw [hw2']; exact zEt HX1.out (ext_alloc _ _)
  obtain ⟨q, hq⟩ : ∃ q, q = u.heap.size := ⟨_, rfl⟩
  rw [← hq]
  have HZ2 : Hid (w2.heap.size = q + 1 ∧ w.heap.size ≤ q) := ⟨by rw [hw2', hq]; simp, by rw [hq]; exact HX1.out.size⟩
  have HQ2 : Hid (Qd w2 q lo hi ix) := ⟨⟨.slice A4 ix.length (c - at_), by rw [hw2', hq]; exact heap_at _ _ rfl, by rw [hw2']; exact HIX.out.below (ext_alloc _ _) (zNt HHI.out HX1.out.size)⟩, by have := HHI.out; have := HZ2.out; omega, by have := HHI.out; have := HZ2.out; omega, HIXB.out⟩
  clear hw2' hq hrun5 hw hw2 hw3 d28 d28n g1 g1n g2 g2n
  go_wp2_with fail
  refine (RNumber_out HQ2.out).mono ?_
  rintro x w3 ⟨cnt, k1, l1, ho, rfl, hqd, hg⟩
  have HO1 := zHd ho
  have HQ3 := zHd hqd
  have HX3 : Hid (Ext w w3) := HX2.out.grown hg HX2.out.size (fun k hk => by injection hk with hk; have := HZ2.out; omega)
  have HZ3 : Hid (w2.heap.size ≤ w3.heap.size) := hg.size
  have HCNT : Hid (∀ C L, MayT L → Cuts C → C.flatten = L → tb C L = b → cnt = C.length ∧ k1 = 0 ∧ l1 = idxs 0 C) := fun C L h1 h2 h3 h4 => by
   have hix := HIXT.out C L h1 h2 h3 h4
   have hcl := (few h1 h2 h3).c
   exact HO1.out.same (.inl ⟨rfl, ⟨by omega⟩, by rw [hix]; rfl⟩)
  have HL1 : Hid (l1.length ≤ 1000000000) := by
   have hle : l1.length ≤ ix.length := by
    rcases HO1.out with ⟨_, hb⟩ | ⟨_, _, rfl, _⟩
    · have := congrArg List.length hb.eq; simp at this; omega
    · exact zNr _
   exact zNt hle HIXL.out
  clear ho hqd hg
  by_cases hk : k1 = 0
  rotate_left
  · have hk1 : (k1 != 0) = true := by simpa using hk
    have HNO : Hid (∀ L, ¬ IsT b L) := fun L ⟨h1, C, h2, h3, h4⟩ => hk (HCNT.out C L h1 h3 h2 h4).2.1
    clear hk
    go_wp2_with fail
    go_ret2
    exact ⟨HX3.out, .inr ⟨HNO.out, rfl⟩⟩
  subst hk
  by_cases hc : cnt ≤ 4096
  rotate_left
  · have HNO : Hid (∀ L, ¬ IsT b L) := fun L ⟨h1, C, h2, h3, h4⟩ => by have := (HCNT.out C L h1 h3 h2 h4).1; have := (few h1 h3 h2).c; omega
    have g : decide ((4096 : Int) < (cnt : Int)) = true := by simp; omega
    have gn : decide (4096 < cnt) = true := by simp; omega
    clear hc
    go_wp2_with fail
    go_ret2
    exact ⟨HX3.out, .inr ⟨HNO.out, rfl⟩⟩
  have g1 : decide ((4096 : Int) < (cnt : Int)) = false := by simp; omega
  have g1n : decide (4096 < cnt) = false := by simp; omega
  have HCL := zHd hc
  have hcv : IntKind.i64.wrap (cnt : Int) = (cnt : Int) := by rw [IntKind.wrap_i64]; omega
  clear hc
  go_upto_region 10 with (fail)
  clear g1 g1n
  go_upto_region 12 with (fail)
  go_wp2_with fail
  go_loopw [10, 11, 12, 13, 14, 15, 16, 17, 18, 19, 20, 21, 22] (fun v iv _ _ _ _ _ _ _ _ _ _ _ wv => ∃ (k : Nat) (R : List (Ent × Hd)) (vA : Option Addr) (vc : Nat) (rest : List Nat), v = .slice vA R.length vc ∧ iv = .int .i64 (k : Int) ∧ k ≤ cnt ∧ Hid (RoSt w w2.heap.size q lo hi b (.slice vA R.length vc) R k rest wv)) (fun _ iv _ _ _ _ _ _ _ _ _ _ _ _ => cnt - (intOf iv).toNat)
  case atStart => exact ⟨0, [], none, 0, l1, rfl, rfl, Nat.zero_le _, ⟨fun C L h1 h2 h3 h4 => ⟨by simp, by rw [(HCNT.out C L h1 h2 h3 h4).2.2]; simp [offB, blks]⟩, HQ3.out, Held.nil _ _, by simp, by simp, HX3.out, HZ3.out, HL1.out⟩⟩
  case round =>
   rename World => wv
   obtain ⟨k, R, vA, vc, rest, rfl, rfl, hkc, HST⟩ := hrel
   by_cases hlt : k < cnt
   rotate_left
   · have d : decide ((k : Int) < (cnt : Int)) = false := decide_eq_false (by omega)
     have dn : decide (k < cnt) = false := decide_eq_false hlt
     have HALL : Hid (∀ L, IsT b L → R.map Prod.fst = L) := fun L ⟨h1, C, h2, h3, h4⟩ => by
      have hk2 : k = C.length := by have := (HCNT.out C L h1 h3 h2 h4).1; omega
      have h := (HST.out.ent C L h1 h3 h2 h4).1
      rw [hk2, List.take_length] at h
      rw [h, h2]
     have hes := HST.out.held.es
     have HES := zHd hes
     have HMB : Hid (∀ u, Ext wv u → Calls Tryz.prog 18 #[.slice vA R.length vc] u fun x w' => ∃ z : Bool, (z = true ↔ MayT (R.map Prod.fst)) ∧ x = .returned (.bool z) ∧ Ext u w') := fun u hu => rtmay_any (hes.below hu (zNr _)) hu.size (by have := HST.out.few; omega) (fun p hp => by have := mayN_iff.1 (HST.out.may p hp); omega)
     have HVB : Hid (∀ u, Ext wv u → (convert 22 9 (.slice A b.length c)).run Tryz.prog u = .ok (.string (tx b)) u) := fun u hu => cv_any (HV.out.below (zEt HST.out.x hu) HHI.out)
     clear hlt hkc hes
     go_upto_region 25 with (fail)
     clear d dn
     by_cases hmay : MayT (R.map Prod.fst)
     rotate_left
     · have HNM := zHd hmay
       have HNO : Hid (∀ L, ¬ IsT b L) := fun L h => HNM.out (by rw [HALL.out L h]; exact h.1)
       clear hmay
       refine flow (by kernel_rfl) [Is (.slice vA R.length vc), Is (.bool false), Is (.bool true), Is (.bool true), Is undef, Is undef, Is undef, Is undef, Is undef, Is undef, Is (.bool true)] (by kernel_rfl) (by kernel_rfl) ?mono25 (fun f1 => ?obl25) ?fin25
       case mono25 =>
        simp only [List.forall_mem_cons, List.not_mem_nil, false_imp_iff, implies_true, and_true]
        and_intros <;> exact .is _
       case fin25 =>
        intro g1 u9 hu hg
        simp only [puts, Act.put, zq]
        have h10 : g1 10 = _ := hg 10 (by decide)
        rw [h10]
        have HXU : Hid (Ext wv u9) := zEt (Ext.drew wv) hu
        clear h10 hg hu
        go_wp2_with fail
        go_ret2
        exact ⟨zEt HST.out.x HXU.out, .inr ⟨HNO.out, rfl⟩⟩
       case obl25 =>
        refine ⟨fun u hu hd => ?_, fun u hu hd => ?_, fun u hu hd => ?_, fun u hu hd => ?_, fun u hu hd => ?_, fun u hu hd => ?_, fun u hu hd => ?_, fun u hu hd => ?_, fun u hu hd => ?_, fun u hu hd => ?_, fun u hu hd => ?_, trivial⟩
        all_goals try simp only [Act.put, zq]
        · go_simp
          exact zEr
        · have e0 : f1 0 = _ := hd 0 (by kernel_rfl)
          have hu2 := zEt (Ext.drew wv) hu
          go_simp
          refine (HMB.out u hu2).mono ?_
          rintro x9 w9 ⟨z9, hz9, rfl, hx9⟩
          have hz : z9 = false := by rcases z9 with _ | _; rfl; exact absurd (hz9.1 rfl) HNM.out
          subst hz
          exact ⟨_, rfl, hx9, rfl⟩
        · have e1 : f1 1 = _ := hd 1 (by kernel_rfl)
          go_simp
          exact zEr
        · have e2 : f1 2 = _ := hd 2 (by kernel_rfl)
          go_simp
          exact zEr
        · have e3 : f1 3 = _ := hd 3 (by kernel_rfl)
          go_simp
          rfl
        · have e3 : f1 3 = _ := hd 3 (by kernel_rfl)
          go_simp
          rfl
        · have e3 : f1 3 = _ := hd 3 (by kernel_rfl)
          go_simp
          rfl
        · have e3 : f1 3 = _ := hd 3 (by kernel_rfl)
          go_simp
          rfl
        · have e3 : f1 3 = _ := hd 3 (by kernel_rfl)
          go_simp
          rfl
        · have e3 : f1 3 = _ := hd 3 (by kernel_rfl)
          go_simp
          rfl
        · have e3 : f1 3 = _ := hd 3 (by kernel_rfl)
          go_simp
          exact zEr
     · have HM := zHd hmay
       obtain ⟨C0, hC0, hC0f⟩ := cuts_exists _ (R.map Prod.fst) (zNr _)
       obtain ⟨D, hD⟩ : ∃ D, D = tb C0 (R.map Prod.fst) := ⟨_, rfl⟩
       have HD := zHd hD
       have HC0 := zHd (And.intro hC0 hC0f)
       have HDB : Hid (∀ x ∈ D, x < 256) := by rw [hD]; exact utb_lt hmay hC0 hC0f (fun e he => by obtain ⟨p, hp, rfl⟩ := List.mem_map.1 he; exact ⟨(HES.out.each p hp).bk, (HES.out.each p hp).bv⟩)
       have HRW : Hid (∀ u, Ext wv u → Calls Tryz.prog 30 #[.slice vA R.length vc] u fun x w' => ∃ v, x = .returned v ∧ Ext u w' ∧ Own wv.heap.size D v w') := fun u hu => by
        refine (rtwrite_any (c := vc) (HES.out.below hu (zNr _)) hu.size HM.out).mono ?_
        rintro x w' ⟨hx, C', v, rfl, h1, h2, h3⟩
        obtain rfl : C' = C0 := cut_unique h2 HC0.out.1 (by rw [h1, HC0.out.2])
        rw [← HD.out] at h3
        exact ⟨v, rfl, hx, h3.base hu.size⟩
       have t1 := tx_same HDB.out HBY.out
       clear hmay hC0 hC0f hD
       by_cases hDb : D = b
       · rw [decide_eq_true hDb] at t1
         have HIS : Hid (IsT b (R.map Prod.fst)) := ⟨HM.out, C0, HC0.out.2, HC0.out.1, by rw [← HD.out]; exact hDb⟩
         clear hDb
         refine flow (by kernel_rfl) [Is (.slice vA R.length vc), Is (.bool true), Is (.bool false), Is (.bool false), Is (.slice vA R.length vc), Own wv.heap.size D, Is (.string (tx D)), Is (.slice A b.length c), Is (.string (tx b)), Is (.bool false), Is (.bool false)] (by kernel_rfl) (by kernel_rfl) ?mono25 (fun f1 => ?obl25) ?fin25
         case mono25 =>
          simp only [List.forall_mem_cons, List.not_mem_nil, false_imp_iff, implies_true, and_true]
          exact ⟨.is _, .is _, .is _, .is _, .is _, .own _ _, .is _, .is _, .is _, .is _, .is _⟩
         case fin25 =>
          intro g1 u9 hu hg
          simp only [puts, Act.put, zq]
          have h10 : g1 10 = _ := hg 10 (by decide)
          rw [h10]
          have HXU : Hid (Ext wv u9) := zEt (Ext.drew wv) hu
          clear h10 hg hu
          go_wp2_with fail
          go_ret2
          exact ⟨zEt HST.out.x HXU.out, .inl ⟨vA, vc, R, rfl, (HST.out.held.esB.below HXU.out (zNr _)).wide HX2.out.size HXU.out.size, HST.out.held.cap, HIS.out⟩⟩
         case obl25 =>
          refine ⟨fun u hu hd => ?_, fun u hu hd => ?_, fun u hu hd => ?_, fun u hu hd => ?_, fun u hu hd => ?_, fun u hu hd => ?_, fun u hu hd => ?_, fun u hu hd => ?_, fun u hu hd => ?_, fun u hu hd => ?_, fun u hu hd => ?_, trivial⟩
          all_goals try simp only [Act.put, zq]
          · go_simp
            exact zEr
          · have e0 : f1 0 = _ := hd 0 (by kernel_rfl)
            have hu2 := zEt (Ext.drew wv) hu
            go_simp
            refine (HMB.out u hu2).mono ?_
            rintro x9 w9 ⟨z9, hz9, rfl, hx9⟩
            have hz : z9 = true := by exact hz9.2 HM.out
            subst hz
            exact ⟨_, rfl, hx9, rfl⟩
          · have e1 : f1 1 = _ := hd 1 (by kernel_rfl)
            go_simp
            exact zEr
          · have e2 : f1 2 = _ := hd 2 (by kernel_rfl)
            go_simp
            exact zEr
          · have e3 : f1 3 = _ := hd 3 (by kernel_rfl)
            go_simp
            exact zEr
          · have e3 : f1 3 = _ := hd 3 (by kernel_rfl)
            have e4 : f1 4 = _ := hd 4 (by kernel_rfl)
            have hu2 := zEt (Ext.drew wv) hu
            go_simp
            refine (HRW.out u hu2).mono ?_
            rintro x9 w9 ⟨v9, rfl, hx9, hown⟩
            exact ⟨_, rfl, hx9, hown⟩
          · have e3 : f1 3 = _ := hd 3 (by kernel_rfl)
            have h5 : Own wv.heap.size D (f1 5) u := hd 5 (by kernel_rfl)
            obtain ⟨XX, dd, e5x⟩ := h5.slice
            rw [e5x] at h5
            have cv := cv_any h5.bs
            have H3 := zHd h5
            clear h5
            go_simp
            exact zEr
          · have e3 : f1 3 = _ := hd 3 (by kernel_rfl)
            go_simp
            exact zEr
          · have e3 : f1 3 = _ := hd 3 (by kernel_rfl)
            have e7 : f1 7 = _ := hd 7 (by kernel_rfl)
            have hu2 := zEt (Ext.drew wv) hu
            have cv := HVB.out u hu2
            go_simp
            exact zEr
          · have e3 : f1 3 = _ := hd 3 (by kernel_rfl)
            have e6 : f1 6 = _ := hd 6 (by kernel_rfl)
            have e8 : f1 8 = _ := hd 8 (by kernel_rfl)
            go_simp
            exact zEr
          · have e3 : f1 3 = _ := hd 3 (by kernel_rfl)
            have e9 : f1 9 = _ := hd 9 (by kernel_rfl)
            go_simp
            exact zEr
       · rw [decide_eq_false hDb] at t1
         have HNE := zHd hDb
         have HNO : Hid (∀ L, ¬ IsT b L) := fun L h => by
          have he := HALL.out L h
          obtain ⟨h1, C, h2, h3, h4⟩ := h
          refine HNE.out ?_
          obtain rfl : C = C0 := cut_unique h3 HC0.out.1 (by rw [h2, HC0.out.2, he])
          rw [HD.out, he]
          exact h4
         clear hDb
         refine flow (by kernel_rfl) [Is (.slice vA R.length vc), Is (.bool true), Is (.bool false), Is (.bool false), Is (.slice vA R.length vc), Own wv.heap.size D, Is (.string (tx D)), Is (.slice A b.length c), Is (.string (tx b)), Is (.bool true), Is (.bool true)] (by kernel_rfl) (by kernel_rfl) ?mono25 (fun f1 => ?obl25) ?fin25
         case mono25 =>
          simp only [List.forall_mem_cons, List.not_mem_nil, false_imp_iff, implies_true, and_true]
          exact ⟨.is _, .is _, .is _, .is _, .is _, .own _ _, .is _, .is _, .is _, .is _, .is _⟩
         case fin25 =>
          intro g1 u9 hu hg
          simp only [puts, Act.put, zq]
          have h10 : g1 10 = _ := hg 10 (by decide)
          rw [h10]
          have HXU : Hid (Ext wv u9) := zEt (Ext.drew wv) hu
          clear h10 hg hu
          go_wp2_with fail
          go_ret2
          exact ⟨zEt HST.out.x HXU.out, .inr ⟨HNO.out, rfl⟩⟩
         case obl25 =>
          refine ⟨fun u hu hd => ?_, fun u hu hd => ?_, fun u hu hd => ?_, fun u hu hd => ?_, fun u hu hd => ?_, fun u hu hd => ?_, fun u hu hd => ?_, fun u hu hd => ?_, fun u hu hd => ?_, fun u hu hd => ?_, fun u hu hd => ?_, trivial⟩
          all_goals try simp only [Act.put, zq]
          · go_simp
            exact zEr
          · have e0 : f1 0 = _ := hd 0 (by kernel_rfl)
            have hu2 := zEt (Ext.drew wv) hu
            go_simp
            refine (HMB.out u hu2).mono ?_
            rintro x9 w9 ⟨z9, hz9, rfl, hx9⟩
            have hz : z9 = true := by exact hz9.2 HM.out
            subst hz
            exact ⟨_, rfl, hx9, rfl⟩
          · have e1 : f1 1 = _ := hd 1 (by kernel_rfl)
            go_simp
            exact zEr
          · have e2 : f1 2 = _ := hd 2 (by kernel_rfl)
            go_simp
            exact zEr
          · have e3 : f1 3 = _ := hd 3 (by kernel_rfl)
            go_simp
            exact zEr
          · have e3 : f1 3 = _ := hd 3 (by kernel_rfl)
            have e4 : f1 4 = _ := hd 4 (by kernel_rfl)
            have hu2 := zEt (Ext.drew wv) hu
            go_simp
            refine (HRW.out u hu2).mono ?_
            rintro x9 w9 ⟨v9, rfl, hx9, hown⟩
            exact ⟨_, rfl, hx9, hown⟩
          · have e3 : f1 3 = _ := hd 3 (by kernel_rfl)
            have h5 : Own wv.heap.size D (f1 5) u := hd 5 (by kernel_rfl)
            obtain ⟨XX, dd, e5x⟩ := h5.slice
            rw [e5x] at h5
            have cv := cv_any h5.bs
            have H3 := zHd h5
            clear h5
            go_simp
            exact zEr
          · have e3 : f1 3 = _ := hd 3 (by kernel_rfl)
            go_simp
            exact zEr
          · have e3 : f1 3 = _ := hd 3 (by kernel_rfl)
            have e7 : f1 7 = _ := hd 7 (by kernel_rfl)
            have hu2 := zEt (Ext.drew wv) hu
            have cv := HVB.out u hu2
            go_simp
            exact zEr
          · have e3 : f1 3 = _ := hd 3 (by kernel_rfl)
            have e6 : f1 6 = _ := hd 6 (by kernel_rfl)
            have e8 : f1 8 = _ := hd 8 (by kernel_rfl)
            go_simp
            exact zEr
          · have e3 : f1 3 = _ := hd 3 (by kernel_rfl)
            have e9 : f1 9 = _ := hd 9 (by kernel_rfl)
            go_simp
            exact zEr
   have d : decide ((k : Int) < (cnt : Int)) = true := decide_eq_true (by omega)
   have dn : decide (k < cnt) = true := decide_eq_true hlt
   have HLT := zHd hlt
   clear hlt hkc
   go_upto_region 15 with (fail)
   clear d dn
   go_wp2_with fail
   refine (RBytes_slice HST.out.qd (by have := HST.out.len; omega) (by decide) (by decide)).mono ?_
   rintro x u2 ⟨sA, sc, sb, k2, l2, ho, _, rfl, hqd, hg⟩
   have HO2 := zHd ho
   have HQ4 := zHd hqd
   have HG2 := zHd hg
   clear ho hqd hg
   go_upto_region 16 with (fail)
   go_wp2_with fail
   refine (RNumber_out HQ4.out).mono ?_
   rintro x u3 ⟨sq, k3, l3, ho, rfl, hqd, hg⟩
   have HO3 := zHd ho
   have HQ5 := zHd hqd
   have HG3 := zHd (HG2.out.trans hg)
   clear ho hqd hg HQ4
   go_upto_region 17 with (fail)
   go_wp2_with fail
   refine (RNumber_out HQ5.out).mono ?_
   rintro x u4 ⟨fr, k4, l4, ho, rfl, hqd, hg⟩
   have HO4 := zHd ho
   have HQ6 := zHd hqd
   have HG4 := zHd (HG3.out.trans hg)
   clear ho hqd hg HQ5
   go_upto_region 18 with (fail)
   go_wp2_with fail
   refine (RNumber_out HQ6.out).mono ?_
   rintro x u5 ⟨sz, k5, l5, ho, rfl, hqd, hg⟩
   have HO5 := zHd ho
   have HQ7 := zHd hqd
   have HG5 := zHd (HG4.out.trans hg)
   clear ho hqd hg HQ6
   have HX5 : Hid (Ext w u5) := HST.out.x.grown HG5.out HST.out.x.size (fun k hk => by injection hk with hk; have := HZ2.out; omega)
   have HH5 := zHd (HST.out.held.grown HG5.out (by have := HZ2.out; omega))
   have HALL : Hid (∀ C L, MayT L → Cuts C → C.flatten = L → tb C L = b → ∃ qb, C[k]? = some qb ∧ k2 = 0 ∧ k3 = 0 ∧ k4 = 0 ∧ k5 = 0 ∧ fr = offB C k ∧ sz = (wr qb).length ∧ l5 = idxs (offB C (k + 1)) (C.drop (k + 1)) ∧ fr + sz ≤ at_ ∧ (b.drop fr).take sz = wr qb ∧ MayB qb) := fun C L h1 h2 h3 h4 => by
    have hkl : k < C.length := by have := (HCNT.out C L h1 h2 h3 h4).1; have := HLT.out; omega
    obtain ⟨qb, hqb⟩ : ∃ qb, C[k]? = some qb := ⟨_, List.getElem?_eq_getElem hkl⟩
    have hrest := (HST.out.ent C L h1 h2 h3 h4).2
    rw [ridxs_at hqb] at hrest
    obtain ⟨e, e1, e2, _⟩ := last_at h2 hqb
    have hem : e.may = true := h1.2.2.2 e (by rw [← h3]; exact List.mem_of_getElem? e2)
    obtain ⟨u1, u2, u3, u4⟩ := Ent.may_u64 hem
    have hidx : idx1 qb (offB C k) (wr qb).length = bytesForm e.key ++ (form e.seq.toNat ++ (form (offB C k) ++ form (wr qb).length)) := by unfold idx1; rw [e1]; rfl
    rw [hidx] at hrest
    simp only [List.append_assoc] at hrest
    obtain ⟨_, m2, m3, m4, m5⟩ := mayN_iff.1 hem
    have hfw := few h1 h2 h3
    have hs := offB_succ hqb
    have hbl := blks_take_le C (k + 1)
    have hbl2 : offB C k + (wr qb).length ≤ (blks C).length := by unfold offB; rw [hs, List.length_append] at hbl; exact hbl
    obtain ⟨a1, a2, a3⟩ := HO2.out.same (.inl ⟨rfl, by omega, u1, hrest⟩)
    obtain ⟨b1, b2, b3⟩ := HO3.out.same (.inl ⟨rfl, u2, a3⟩)
    obtain ⟨c1, c2, c3⟩ := HO4.out.same (.inl ⟨rfl, ⟨by have := hfw.b; omega⟩, b3⟩)
    obtain ⟨d1, d2, d3⟩ := HO5.out.same (.inl ⟨rfl, ⟨by have := hfw.b; omega⟩, c3⟩)
    have hat := (HTI.out C L h1 h2 h3 h4).1
    have het : EntTo b k (R.map Prod.fst) fr := fun C' L' j1 j2 j3 j4 => by
     have hLL : L' = L := IsT.unique (b := b) ⟨j1, C', j3, j2, j4⟩ ⟨h1, C, h3, h2, h4⟩
     subst hLL
     have hCC : C' = C := cut_unique j2 h2 (by rw [j3, h3])
     subst hCC
     exact ⟨(HST.out.ent C' L' h1 h2 h3 h4).1, c1⟩
    obtain ⟨q2, y1, y2, _, y4, y5⟩ := het.at_ (pls_at hqb) h1 h2 h3 h4 rfl
    rw [hqb] at y1
    injection y1 with y1
    subst y1
    rw [← y2] at d1
    have y4' : (b.drop fr).take sz = wr qb := by rw [d1]; exact y4
    exact ⟨qb, hqb, a2, b2, c2, d2, c1, by rw [d1, y2], d3, by rw [c1, d1, y2, hat]; exact hbl2, y4', y5⟩
   have HL5 : Hid (l5.length ≤ 1000000000) := by
    have t2 : l2.length ≤ rest.length := by
     rcases HO2.out with ⟨_, _, _, h⟩ | ⟨_, _, rfl, _⟩
     · have := congrArg List.length h; simp at this; omega
     · exact zNr _
    have tn : ∀ {l r : List Nat} {n : Nat} {k : Int}, OutNum l n k r → r.length ≤ l.length := fun h => by
     rcases h with ⟨_, hb⟩ | ⟨_, _, rfl, _⟩
     · have := congrArg List.length hb.eq; simp at this; omega
     · exact zNr _
    have := tn HO3.out
    have := tn HO4.out
    have := tn HO5.out
    have := HST.out.len
    unfold Hid; omega
   have HU64 : Hid (fr < 18446744073709551616 ∧ sz < 18446744073709551616) := by
    have tn : ∀ {l r : List Nat} {n : Nat} {k : Int}, OutNum l n k r → n < 18446744073709551616 := fun h => by
     rcases h with ⟨_, hb⟩ | ⟨_, _, _, rfl⟩
     · exact hb.n64.lt
     · decide
    exact ⟨tn HO4.out, tn HO5.out⟩
   go_upto_region 19 with (fail)
   by_cases hk : k2 = 0
   rotate_left
   · have hk1 : (k2 != 0) = true := by simpa using hk
     have HNO : Hid (∀ L, ¬ IsT b L) := fun L ⟨h1, C, h2, h3, h4⟩ => by obtain ⟨_, _, x2, x3, x4, x5, _⟩ := HALL.out C L h1 h3 h2 h4; exact hk x2
     clear hk
     go_wp2_with fail
     go_ret2
     exact ⟨HX5.out, .inr ⟨HNO.out, rfl⟩⟩
   subst hk
   by_cases hk : k3 = 0
   rotate_left
   · have hk1 : (k3 != 0) = true := by simpa using hk
     have HNO : Hid (∀ L, ¬ IsT b L) := fun L ⟨h1, C, h2, h3, h4⟩ => by obtain ⟨_, _, x2, x3, x4, x5, _⟩ := HALL.out C L h1 h3 h2 h4; exact hk x3
     clear hk
     go_wp2_with fail
     go_ret2
     exact ⟨HX5.out, .inr ⟨HNO.out, rfl⟩⟩
   subst hk
   by_cases hk : k4 = 0
   rotate_left
   · have hk1 : (k4 != 0) = true := by simpa using hk
     have HNO : Hid (∀ L, ¬ IsT b L) := fun L ⟨h1, C, h2, h3, h4⟩ => by obtain ⟨_, _, x2, x3, x4, x5, _⟩ := HALL.out C L h1 h3 h2 h4; exact hk x4
     clear hk
     go_wp2_with fail
     go_ret2
     exact ⟨HX5.out, .inr ⟨HNO.out, rfl⟩⟩
   subst hk
   by_cases hk : k5 = 0
   rotate_left
   · have hk1 : (k5 != 0) = true := by simpa using hk
     have HNO : Hid (∀ L, ¬ IsT b L) := fun L ⟨h1, C, h2, h3, h4⟩ => by obtain ⟨_, _, x2, x3, x4, x5, _⟩ := HALL.out C L h1 h3 h2 h4; exact hk x5
     clear hk
     go_wp2_with fail
     go_ret2
     exact ⟨HX5.out, .inr ⟨HNO.out, rfl⟩⟩
   subst hk
   have hcu : IntKind.u64.wrap (at_ : Int) = (at_ : Int) := by have := HN4.out; rw [IntKind.wrap_u64]; omega
   by_cases hc : fr ≤ at_
   rotate_left
   · have HNO : Hid (∀ L, ¬ IsT b L) := fun L ⟨h1, C, h2, h3, h4⟩ => by obtain ⟨_, _, _, _, _, _, _, _, _, y, _⟩ := HALL.out C L h1 h3 h2 h4; omega
     have g : decide ((at_ : Int) < (fr : Int)) = true := by simp; omega
     have gn : decide (at_ < fr) = true := by simp; omega
     clear hc
     go_wp2_with fail
     go_ret2
     exact ⟨HX5.out, .inr ⟨HNO.out, rfl⟩⟩
   have g1 : decide ((at_ : Int) < (fr : Int)) = false := by simp; omega
   have g1n : decide (at_ < fr) = false := by simp; omega
   obtain ⟨kk, hkk⟩ : ∃ kk, kk = at_ - fr := ⟨_, rfl⟩
   have hws : IntKind.u64.wrap ((at_ : Int) - (fr : Int)) = (kk : Int) := by have := HN4.out; rw [IntKind.wrap_u64]; omega
   have HKK : Hid (fr + kk = at_) := by unfold Hid; omega
   clear hc hkk
   by_cases hc : sz ≤ kk
   rotate_left
   · have HNO : Hid (∀ L, ¬ IsT b L) := fun L ⟨h1, C, h2, h3, h4⟩ => by obtain ⟨_, _, _, _, _, _, _, _, _, y, _⟩ := HALL.out C L h1 h3 h2 h4; have := HKK.out; omega
     have g : decide ((kk : Int) < (sz : Int)) = true := by simp; omega
     have gn : decide (kk < sz) = true := by simp; omega
     clear hc
     go_wp2_with fail
     go_ret2
     exact ⟨HX5.out, .inr ⟨HNO.out, rfl⟩⟩
   have g2 : decide ((kk : Int) < (sz : Int)) = false := by simp; omega
   have g2n : decide (kk < sz) = false := by simp; omega
   obtain ⟨ee, hee⟩ : ∃ ee, ee = fr + sz := ⟨_, rfl⟩
   have HEE : Hid (ee = fr + sz ∧ ee ≤ at_ ∧ at_ ≤ b.length ∧ fr ≤ ee) := by have := HKK.out; have := HK.out; have := HM.out; unfold Hid; omega
   have hwe : IntKind.u64.wrap ((fr : Int) + (sz : Int)) = (ee : Int) := by have := HN4.out; have := HEE.out; rw [IntKind.wrap_u64]; omega
   obtain ⟨A6, hA6, hrun6⟩ := cutU_run A b.length c fr ee HEE.out.2.2.2 (by have := HEE.out; omega) HC.out.1
   obtain ⟨bl, hbl⟩ : ∃ bl, bl = (b.drop fr).take (ee - fr) := ⟨_, rfl⟩
   have hbll : bl.length = ee - fr := by rw [hbl, List.length_take, List.length_drop]; have := HEE.out; omega
   have HBL : Hid (Bs u5 lo hi (.slice A6 bl.length (c - fr)) bl) := by
    have h := hA6 _ _ _ _ (HV.out.below HX5.out HHI.out)
    rw [← hbl, ← hbll] at h
    exact h
   have hrun7 : ∀ w, (Instr.slice 22 (.slice A b.length c) (some (.int .u64 (fr : Int))) (some (.int .u64 (ee : Int))) none).run Tryz.prog w = .ok (.slice A6 bl.length (c - fr)) w := by rw [hbll]; exact hrun6
   have HRB := zHd (rread_any HBL.out (zNt HHI.out HX5.out.size) (fun x hx => HBY.out x (List.mem_of_mem_drop (List.mem_of_mem_take (by rw [← hbl]; exact hx)))) (by rw [hbll]; have := HEE.out; have := HL.out; omega))
   have HBLT : Hid (∀ C L, MayT L → Cuts C → C.flatten = L → tb C L = b → ∃ qb, C[k]? = some qb ∧ IsB bl qb ∧ l5 = idxs (offB C (k + 1)) (C.drop (k + 1))) := fun C L h1 h2 h3 h4 => by
    obtain ⟨qb, x1, _, _, _, _, _, _, x8, _, x10, x11⟩ := HALL.out C L h1 h2 h3 h4
    have e9 : ee - fr = sz := by have := HEE.out; omega
    exact ⟨qb, x1, ⟨x11, by rw [hbl, e9]; exact x10.symm⟩, x8⟩
   clear hc hee hA6 hrun6 hbl hbll
   go_upto_region 21 with (fail)
   clear g1 g1n g2 g2n
   go_wp2_with fail
   refine HRB.out.mono ?_
   rintro x u6 ⟨hx6, (⟨X, XA, RA, xc, rc, hisb, rfl, hesX, _, hxc⟩ | ⟨hno, rfl⟩)⟩
   rotate_left
   · have HX6 : Hid (Ext w u6) := zEt HX5.out hx6
     have HNO : Hid (∀ L, ¬ IsT b L) := fun L ⟨h1, C, h2, h3, h4⟩ => by obtain ⟨qb, _, h, _⟩ := HBLT.out C L h1 h3 h2 h4; exact hno _ h
     clear hx6 hno
     go_upto_region 22 with (fail)
     go_wp2_with fail
     go_ret2
     exact ⟨HX6.out, .inr ⟨HNO.out, rfl⟩⟩
   have HX6 : Hid (Ext w u6) := zEt HX5.out hx6
   have HX56 : Hid (Ext u5 u6) := hx6
   have HISB := zHd hisb
   have HEX := zHd hesX
   have HXL : Hid (1 ≤ X.length ∧ X.length ≤ 1024) := by have h := hisb.1; have h1 := h.1; have h2 := h.2.1; rw [List.length_map] at h1 h2; exact ⟨h1, h2⟩
   have HH6 := zHd (HH5.out.below hx6)
   have HQ8 := zHd (HQ7.out.below hx6 HQ7.out.top HQ7.out.lt)
   clear hx6 hisb hesX hxc
   have HNEW : Hid (∀ C L, MayT L → Cuts C → C.flatten = L → tb C L = b → (R ++ X).map Prod.fst = (C.take (k + 1)).flatten ∧ l5 = idxs (offB C (k + 1)) (C.drop (k + 1))) := fun C L h1 h2 h3 h4 => by
    obtain ⟨qb, x1, x2, x3⟩ := HBLT.out C L h1 h2 h3 h4
    refine ⟨?_, x3⟩
    obtain ⟨hk, rfl⟩ := zLg.1 x1
    rw [List.map_append, (HST.out.ent C L h1 h2 h3 h4).1, HISB.out.unique x2, List.take_succ_eq_append_getElem hk, List.flatten_append]; simp
   have hsum : wrap64 ((R.length : Int) + (X.length : Int)) = ((R.length + X.length : Nat) : Int) := by have := HST.out.few; have := HXL.out; unfold wrap64; omega
   obtain ⟨ln, hln⟩ : ∃ ln, ln = R.length + X.length := ⟨_, rfl⟩
   rw [← hln] at hsum
   have HLN := zHd hln
   clear hln
   go_upto_region 22 with (fail)
   by_cases hc : ln ≤ 4096
   rotate_left
   · have HNO : Hid (∀ L, ¬ IsT b L) := fun L ⟨h1, C, h2, h3, h4⟩ => by
       have h := congrArg List.length (HNEW.out C L h1 h3 h2 h4).1
       rw [List.length_map, List.length_append, ← HLN.out] at h
       have h5 : (C.take (k + 1)).flatten.length ≤ L.length := by
        rw [← h2]
        conv => rhs; rw [← List.take_append_drop (k + 1) C, List.flatten_append, List.length_append]
        omega
       have := h1.2.1
       omega
     have g : decide ((4096 : Int) < (ln : Int)) = true := by simp; omega
     have gn : decide (4096 < ln) = true := by simp; omega
     clear hc
     go_wp2_with fail
     go_ret2
     exact ⟨HX6.out, .inr ⟨HNO.out, rfl⟩⟩
   have g3 : decide ((4096 : Int) < (ln : Int)) = false := by simp; omega
   have g3n : decide (4096 < ln) = false := by simp; omega
   have HLE := zHd hc
   clear hc
   obtain ⟨xb, xo, hXA⟩ := HEX.out.base (by have := HXL.out; omega)
   subst hXA
   have HROW := zHd (rowN_lt HH5.out.row)
   have HSZ : Hid (w2.heap.size ≤ u5.heap.size ∧ u5.heap.size ≤ u6.heap.size) := ⟨zNt HST.out.size HG5.out.size, HX56.out.size⟩
   go_upto_region 24 with (fail)
   clear g3 g3n
   go_wp2_with (at_builtin; refine wpList_addheld rfl (.tmp 144) (.tmp 145) rfl w2.heap.size _ R rfl HH6.out X ⟨xb, xo, none⟩ xc u5.heap.size u6.heap.size rfl HEX.out HSZ.out.1 (zNr _) (fun g hg => .inl (HROW.out g hg).2.1) (by have := HXL.out; omega) (by have := HLN.out; have := HLE.out; omega) (zNt HSZ.out.1 HSZ.out.2) ?_)
   intro A7 c7 w7 hh7 hg7
   have HX7 : Hid (Ext w w7) := HX6.out.grown hg7 HX6.out.size (fun k hk => by have := (HROW.out k hk).1; have := HZ2.out; omega)
   have HQ9 := zHd (show Qd w7 q lo hi l5 from HQ8.out.below (B := w2.heap.size) ((Below.refl w2.heap.size u6).grown hg7 (zNt HSZ.out.1 HSZ.out.2) (fun k hk => (HROW.out k hk).1)) (by have := HQ2.out.top; omega) (by have := HZ2.out; omega))
   have HH7 := zHd hh7
   have HSZ7 : Hid (u6.heap.size ≤ w7.heap.size) := hg7.size
   have hkb : k < 4096 := by have := HLT.out; have := HCL.out; omega
   clear hh7 hg7
   go_wp2_with fail
   go_roundw
   case rel =>
    have hlen : (R ++ X).length = R.length + X.length := by simp
    refine ⟨k + 1, R ++ X, A7, c7, l5, by rw [hlen], by go_num, HLT.out, ?_⟩
    rw [hlen]
    have hh7 := HH7.out
    refine ⟨HNEW.out, HQ9.out, by simpa using hh7, fun p hp => ?_, ?_, HX7.out, ?_, HL5.out⟩
    · rcases List.mem_append.1 hp with hp | hp
      · exact HST.out.may p hp
      · exact HISB.out.1.2.2.2 p.1 (List.mem_map_of_mem hp)
    · rw [hlen, ← HLN.out]; exact HLE.out
    · exact zNt HSZ.out.1 (zNt HSZ.out.2 HSZ7.out)
   case measure => have := HLT.out; simp [intOf]; omega
 case obl =>
  refine ⟨fun u hu hd => ?_, fun u hu hd => ?_, fun u hu hd => ?_, fun u hu hd => ?_, fun u hu hd => ?_, fun u hu hd => ?_, fun u hu hd => ?_, trivial⟩
  all_goals try simp only [Act.put, zq]
  · go_simp
    exact zEr
  · have e0 : f1 0 = _ := hd 0 (by kernel_rfl)
    have hu2 := zEt (Ext.drew w) hu
    go_simp
    refine (HR1.out u hu2).mono ?_
    rintro x9 w9 ⟨rfl, hx9⟩
    exact ⟨_, rfl, hx9, rfl⟩
  · go_simp
    exact zEr
  · have e2 : f1 2 = _ := hd 2 (by kernel_rfl)
    go_simp
    exact zEr
  · have e3 : f1 3 = _ := hd 3 (by kernel_rfl)
    have hu2 := zEt (Ext.drew w) hu
    go_simp
    refine (HR2.out u hu2).mono ?_
    rintro x9 w9 ⟨rfl, hx9⟩
    exact ⟨_, rfl, hx9, rfl⟩
  · have e1 : f1 1 = _ := hd 1 (by kernel_rfl)
    go_simp
    exact zEr
  · have e4 : f1 4 = _ := hd 4 (by kernel_rfl)
    go_simp
    exact zEr
end Go.Proofs.YtkdidghfcfcpfaaGreat
