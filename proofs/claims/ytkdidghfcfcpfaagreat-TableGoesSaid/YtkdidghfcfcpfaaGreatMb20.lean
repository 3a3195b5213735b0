import Derived.Test.YtkdidghfcfcpfaaGreatMb15
import Derived.Test.YtkdidghfcfcpfaaGreatMb3
import Derived.Test.YtkdidghfcfcpfaaGreatMb11
import Derived.Test.YtkdidghfcfcpfaaGreatMb14
import Derived.Test.YtkdidghfcfcpfaaGreatMb19
import Derived.Test.YtkdidghfcfcpfaaGreatMb7
import Derived.Test.YtkdidghfcfcpfaaGreatMb4
import Derived.Test.YtkdidghfcfcpfaaGreatMb18
import Derived.Test.YtkdidghfcfcpfaaGreatMb0
namespace Go.Proofs.YtkdidghfcfcpfaaGreat
open Go.ChangeShapes Go.WideShapes Go.ChangeAt Go.RowKit Go.Shelf
attribute [local go_sem] Oper.semAt_some
theorem all_some (g : Nat) (w : World) : (binOp .eql 34 (.func (.func 40) #[] #[.pointer (some ⟨g, 0, none⟩)]) .nilFunc).run Tryz.prog w = .ok (.bool false) w := by kernel_rfl
theorem IterQ.ext {P : Program} {α : Type} {gf : Nat} {lb : Array Value} {encs : α → Array Value} {Ok : (Nat → Prop) → (Nat → Prop) → Nat → α → World → Prop} {Done : Nat → Prop} {C : World → Prop} {w w' : World} (h : IterQ P gf lb encs Ok Done C w) (hx : Ext w w') : IterQ P gf lb encs Ok Done C w' :=
 fun m l J Jx W hW => h m l J Jx W (zEt hx hW)
structure TGoI (w : World) (X : Option Addr) (N c : Nat) (most : Int) (D K : Nat → Prop) (k : Nat) (A : World) : Prop where
 below : Ext w A
 num : Boxed A (w.heap.size + 3) 3 (.int .i64 (k : Int))
 res : Boxed A (w.heap.size + 2) 4 (.bool false)
 most : Boxed A (w.heap.size + 1) 3 (.int .i64 most)
 want : Boxed A w.heap.size 28 (.slice X N c)
 z : w.heap.size + 4 ≤ A.heap.size
 dz : ∀ i, D i → w.heap.size + 4 ≤ i
 kz : ∀ i, K i → w.heap.size + 4 ≤ i
theorem TGoI.chg {w : World} {X : Option Addr} {N c : Nat} {most : Int} {D K D' K' : Nat → Prop} {k : Nat} {A A' : World} (h : TGoI w X N c most D K k A) (hc : Chg D A A') (hD : ∀ i, D' i → D i ∨ A.heap.size ≤ i) (hK : ∀ i, K' i → K i ∨ A.heap.size ≤ i) : TGoI w X N c most D' K' k A' := by
 have hz := h.z
 exact ⟨Below.trans h.below (hc.below (fun i hi => by have := h.dz i hi; omega) h.below.size), boxed_chg h.num hc (fun hd => by have := h.dz _ hd; omega), boxed_chg h.res hc (fun hd => by have := h.dz _ hd; omega), boxed_chg h.most hc (fun hd => by have := h.dz _ hd; omega), boxed_chg h.want hc (fun hd => by have := h.dz _ hd; omega), zNt h.z hc.size,
  fun i hi => by rcases hD i hi with h2 | h2; exact h.dz i h2; omega, fun i hi => by rcases hK i hi with h2 | h2; exact h.kz i h2; omega⟩
set_option maxRecDepth 100000 in
set_option maxHeartbeats 8000000 in
theorem tgoes_any {w : World} {bx B lo2 hi2 c2 : Nat} {X : Option Addr} {L2 : List (Ent × Hd)} {V : List Ent} {C : World → Prop} {most : Int} (hseq : GoIter 40 #[.pointer (some ⟨bx, 0, none⟩)] B V C w) (hC : ∀ A, Ext w A → C A)
    (h2 : Es w lo2 hi2 X L2) (hhi2 : hi2 ≤ w.heap.size) (hl2 : L2.length ≤ 1000000000000) (hfit : V = L2.map Prod.fst) :
    Calls Tryz.prog 10 #[.func (.func 40) #[] #[.pointer (some ⟨bx, 0, none⟩)], .slice X L2.length c2, .int .i64 most] w fun e w' => e = .returned (.bool true) ∧ Below w.heap.size w w' := by
 obtain ⟨w1, hw1⟩ : ∃ w1, w1 = (((w.alloc (.cells #[.slice X L2.length c2] 28)).alloc (.cells #[.int .i64 most] 3)).alloc (.cells #[.bool false] 4)).alloc (.cells #[.int .i64 0] 3) := ⟨_, rfl⟩
 have HX1 : Hid (Ext w w1) := by rw [hw1]; exact zEt (zEt (zEt (ext_alloc _ _) (ext_alloc _ _)) (ext_alloc _ _)) (ext_alloc _ _)
 have HZ1 : Hid (w1.heap.size = w.heap.size + 4) := by rw [hw1]; simp [Hid]
 have HB0 : Hid (Boxed w1 w.heap.size 28 (.slice X L2.length c2)) := by rw [hw1]; exact ext_heap (zEt (zEt (ext_alloc _ _) (ext_alloc _ _)) (ext_alloc _ _)) (heap_at _ _ rfl)
 have HB1 : Hid (Boxed w1 (w.heap.size + 1) 3 (.int .i64 most)) := by rw [hw1]; exact ext_heap (zEt (ext_alloc _ _) (ext_alloc _ _)) (heap_at _ _ (by simp))
 have HB2 : Hid (Boxed w1 (w.heap.size + 2) 4 (.bool false)) := by rw [hw1]; exact ext_heap (ext_alloc _ _) (heap_at _ _ (by simp))
 have HB3 : Hid (Boxed w1 (w.heap.size + 3) 3 (.int .i64 0)) := by rw [hw1]; exact heap_at _ _ (by simp)
 have HSEQ := zHd hseq
 have HC := zHd hC
 have HE2 := zHd h2
 have HHI2 := zHd hhi2
 have HL2 := zHd hl2
 have HFIT := zHd hfit
 have hlen : V.length = L2.length := by rw [hfit, List.length_map]
 have HLEN := zHd hlen
 have hlI : (L2.length : Int) ≤ 1000000000000 := by omega
 have hfn := all_some bx
 clear hseq hC h2 hhi2 hl2 hfit hlen
 have hf2 : Fence.wide.fn 22 := trivial
 refine (callsIn_wide (n := 6)).1 ?_
 refine callsIn_of_wp_marks Tryz.func10 rfl trivial ?_
 simp only [Tryz.ntmps10, List.size_toArray, List.length_cons, List.length_nil, Nat.reduceAdd, Nat.reduceSub, Array.replicate_succ, Array.replicate_zero, List.push_toArray, List.append_toArray, List.nil_append, List.cons_append]
 gi_wp2_with fail
 rw [← hw1]
 clear hw1 hfn
 refine wpIn_overQ rfl enters_tall1 (IterQ.ext HSEQ.out HX1.out) (fun _ => rfl) (TGoI w X L2.length c2 most) (fun D c A => c = .ret ∧ Boxed A (w.heap.size + 2) 4 (.bool true) ∧ Ext w A ∧ ∀ i, D i → w.heap.size + 4 ≤ i) (fun _ _ _ _ h => HC.out _ h.below) ?hI ?hIx ?h0 ?rnd ?hok ?done ?stop
 case hI => exact fun D K k A D' K' A' h hc hD hK => h.chg hc hD hK
 case hIx =>
  rintro D c A1 A2 ⟨rfl, hb, hbl, hd⟩ hc
  exact ⟨rfl, boxed_chg hb hc (fun h => by have := hd _ h; omega), Below.trans hbl (hc.below (fun i h => by have := hd i h; omega) hbl.size), hd⟩
 case h0 =>
  intro A1 D K hx hD hK
  have z1 := HZ1.out
  have hs := hx.size
  exact ⟨zEt HX1.out hx, ext_heap hx HB3.out, ext_heap hx HB2.out, ext_heap hx HB1.out, ext_heap hx HB0.out, by omega, fun i h => by have := hD i h; omega, fun i h => by have := hK i h; omega⟩
 case hok =>
  rintro D1 K1 D2 K2 j x A1 ⟨h1, h2, h3, h4⟩ ⟨od, hd⟩ ⟨ol, hl⟩ hD' _ _ _
  have hfr : ∀ {l : List Nat} {v : Value}, Own B l v A1 → Free D1 v → Free D2 v := fun ho hf b hb hd' => by
   obtain ⟨_, _, cc, hcc⟩ := rowN_lt ho b hb
   rcases hD' b hd' with h | h | h
   · exact hf b hb h
   · rw [h, hd] at hcc; cases hcc
   · rw [h, hl] at hcc; cases hcc
  exact ⟨h1, h2, hfr h2.k h3, hfr h2.v h4⟩
 case rnd =>
  rintro l2 D K k ⟨e, g⟩ A1 rfl hDl hKl hDm hKm hDb hKb hi ⟨hek, hm, hf1', hf2'⟩
  have hk : k < V.length := (zLg.1 hek).1
  have hek' : V[k]? = some e := hek
  have HI1 := zHd hi
  have HM1 := zHd hm
  have HFR1 := zHd (And.intro hf1' hf2')
  have HLK := zHd (And.intro hDl hKl)
  have HDK := zHd (And.intro hDb hKb)
  have HK1 := zHd hk
  obtain ⟨q, hq⟩ : ∃ q, L2[k]? = some q := ⟨_, List.getElem?_eq_getElem (by have := HLEN.out; omega)⟩
  have heq : e = q.1 := by
   rw [HFIT.out, List.getElem?_map, hq] at hek'
   injection hek' with h1
   exact h1.symm
  have HQ := zHd hq
  have HEQ := zHd heq
  clear hDl hKl hDm hKm hDb hKb hi hm hf1' hf2' hk hek hek' hq heq
  dsimp only at HFR1
  dsimp only [rowV, Ent.at_]
  gi_wp2
  obtain ⟨A2, hA2⟩ : ∃ A2, A2 = A1.alloc (.cells #[.slice g.kA e.key.length g.kc, .int .i64 e.seq, .int .i64 e.kind, .slice g.vA e.val.length g.vc] 50) := ⟨_, rfl⟩
  rw [← hA2]
  have HX2 : Hid (Ext A1 A2) := by rw [hA2]; exact ext_alloc _ _
  have HBE : Hid (A2.heap[A1.heap.size]? = some (.cells #[.slice g.kA e.key.length g.kc, .int .i64 e.seq, .int .i64 e.kind, .slice g.vA e.val.length g.vc] 50 (0, 0))) := by rw [hA2]; exact heap_at _ _ rfl
  clear hA2
  refine ⟨StepK.of_chg (S := fun _ => False) (Chg.of_ext HX2.out) (fun _ _ _ h => h), fun A3 hc => ?_⟩
  have HCH : Hid (Chg D A1 A3) := ((Chg.of_ext (S := D) HX2.out).trans (hc.mono fun i _ e => by rw [e]; exact HLK.out.1))
  have HI3 := zHd (HI1.out.chg HCH.out (fun i h => .inl h) (fun i h => .inl h))
  have HMI : Hid (Mine B (e, g) A3) := ⟨row_kept HM1.out.k fun b hb => HCH.out.block b (row_lt HM1.out.k b hb).2 (HFR1.out.1 b hb), row_kept HM1.out.v fun b hb => HCH.out.block b (row_lt HM1.out.v b hb).2 (HFR1.out.2 b hb), HM1.out.good⟩
  have HM3 : Hid (Em A3 0 A3.heap.size e g) := HMI.out.em
  have HB3' : Hid (A3.heap[A1.heap.size]? = some (.cells #[.slice g.kA e.key.length g.kc, .int .i64 e.seq, .int .i64 e.kind, .slice g.vA e.val.length g.vc] 50 (0, 0))) :=
   (hc.block _ (zAg.1 HBE.out).1 (fun e => by have := HDK.out.2 _ HLK.out.2; omega)).trans HBE.out
  have HE3 := zHd (HE2.out.below HI3.out.below HHI2.out)
  obtain ⟨b, o, rfl⟩ := HE3.out.base (by have := (zLg.1 HQ.out).1; omega)
  obtain ⟨d0, d1, d2, d3⟩ := HE3.out.get HQ.out
  have HRS : Hid (∀ u, Ext A3 u → Calls Tryz.prog 22 #[.agg #[.slice g.kA e.key.length g.kc, .int .i64 e.seq, .int .i64 e.kind, .slice g.vA e.val.length g.vc], .agg #[.slice q.2.kA q.1.key.length q.2.kc, .int .i64 q.1.seq, .int .i64 q.1.kind, .slice q.2.vA q.1.val.length q.2.vc]] u fun x w' => x = .returned (.bool true) ∧ Ext u w') := fun u hu => by
   refine (rsame_any (HM3.out.below hu (zNr _)) (((HE3.out.below hu (zNt HHI2.out HI3.out.below.size)).each q (List.mem_of_getElem? HQ.out))) hu.size (zNt (zNt HHI2.out HI3.out.below.size) hu.size)).mono ?_
   rintro x w' ⟨z, hz, rfl, hx⟩
   have : z = true := hz.2 HEQ.out
   subst this
   exact ⟨rfl, hx⟩
  have b0 := HI3.out.num.cell
  have f0 := HI3.out.num.frozen
  have b1 := HI3.out.want.cell
  have b2 := HI3.out.most.cell
  have e0 := cell_of HB3'.out (k := 0) rfl
  have e1 := cell_of HB3'.out (k := 1) rfl
  have e2 := cell_of HB3'.out (k := 2) rfl
  have e3 := cell_of HB3'.out (k := 3) rfl
  have hkl : k < L2.length := (zLg.1 HQ.out).1
  have dk : decide ((L2.length : Int) ≤ (k : Int)) = false := by simp; omega
  have dkn : decide (L2.length ≤ k) = false := by simp; omega
  have n1 : (0 : Int) ≤ (k : Int) := by omega
  have n2 : (k : Int) < (L2.length : Int) := by omega
  have HKL := zHd hkl
  have HMIX : Tryz.prog.follows .mixedOrders = true := by kernel_rfl
  clear hc hkl
  gi_wp2
  refine flow_in HMIX (by kernel_rfl) (fun _ _ h => h) [Is (.int .i64 (k : Int)), Is (.slice (some ⟨b, o, none⟩) L2.length c2), Is (.int .i64 (L2.length : Int)), Is (.bool false), Is (.bool false), Is (.agg #[.slice g.kA e.key.length g.kc, .int .i64 e.seq, .int .i64 e.kind, .slice g.vA e.val.length g.vc]), Is (.slice (some ⟨b, o, none⟩) L2.length c2), Is (.int .i64 (k : Int)), Is (.pointer (some ⟨b, o + k * 4, none⟩)), Is (.agg #[.slice q.2.kA q.1.key.length q.2.kc, .int .i64 q.1.seq, .int .i64 q.1.kind, .slice q.2.vA q.1.val.length q.2.vc]), Is (.bool true), Is (.bool false), Is (.bool false)] (by kernel_rfl) (by kernel_rfl) ?mono (fun f1 => ?obl) ?fin
  case mono =>
   simp only [List.forall_mem_cons, List.not_mem_nil, false_imp_iff, implies_true, and_true]
   and_intros <;> exact .is _
  case fin =>
   intro g1 u hu hg
   simp only [puts, Act.put, zq]
   have h12 : g1 12 = _ := hg 12 (by decide)
   rw [h12]
   have HU : Hid (Ext A3 u) := zEt (Ext.drew A3) hu
   have b0 := ext_cell HU.out b0
   have b2 := ext_cell HU.out b2
   have f0 : u.frozen? ⟨w.heap.size + 3, 0, none⟩ = false := Boxed.frozen (ext_heap HU.out HI3.out.num)
   have hres := ext_heap HU.out HI3.out.res
   have r0 := Boxed.cell hres
   have rf := Boxed.frozen hres
   have HRES := zHd hres
   clear h12 hg hu e0 e1 e2 e3 d0 d1 d2 d3 hres
   have hi := HI3.out
   have hnum : Boxed u (w.heap.size + 3) 3 (.int .i64 (k : Int)) := ext_heap HU.out hi.num
   have HNUM := zHd hnum
   clear hi hnum
   by_cases hm : (k : Int) + 1 = most
   · have dm : ((k : Int) + 1 == most) = true := by simpa using hm
     clear hm
     gi_wp2
     have hi := HI3.out
     have z1 := HZ1.out
     have hS : Chg (fun i => i = w.heap.size + 3 ∨ i = w.heap.size + 2) A3 ((u.setCell ⟨w.heap.size + 3, 0, none⟩ (.int .i64 ((k : Int) + 1))).setCell ⟨w.heap.size + 2, 0, none⟩ (.bool true)) := ((Chg.of_ext HU.out).trans (Chg.setCell _ _ _ (.inl rfl))).trans (Chg.setCell _ _ _ (.inr rfl))
     have hb2 : Boxed (u.setCell ⟨w.heap.size + 3, 0, none⟩ (.int .i64 ((k : Int) + 1))) (w.heap.size + 2) 4 (.bool false) := (Below.heap_setCell _ _ _ _ (by show w.heap.size + 2 ≠ w.heap.size + 3; omega)).trans HRES.out
     exact ⟨StepK.of_chg hS (fun i _ hk h3 => by have := hi.kz i hk; omega), rfl, hb2.set _, Below.trans hi.below (hS.below (fun i hb => by omega) hi.below.size), hi.dz⟩
   · have dm : ((k : Int) + 1 == most) = false := by simpa using hm
     clear hm
     gi_wp2
     have hi := HI3.out
     have hS : Chg (fun i => i = w.heap.size + 3) A3 (u.setCell ⟨w.heap.size + 3, 0, none⟩ (.int .i64 ((k : Int) + 1))) := (Chg.of_ext HU.out).trans (Chg.setCell _ _ _ rfl)
     have z1 := HZ1.out
     exact ⟨StepK.of_chg hS (fun i _ hk h3 => by have := hi.kz i hk; omega), Below.trans hi.below (hS.below (fun i hb => by omega) hi.below.size), HNUM.out.set _, boxed_chg hi.res hS (fun hb => by omega),
      boxed_chg hi.most hS (fun hb => by omega), boxed_chg hi.want hS (fun hb => by omega), zNt hi.z hS.size, hi.dz, hi.kz⟩
  case obl =>
   refine ⟨fun u hu hd => ?_, fun u hu hd => ?_, fun u hu hd => ?_, fun u hu hd => ?_, fun u hu hd => ?_, fun u hu hd => ?_, fun u hu hd => ?_, fun u hu hd => ?_, fun u hu hd => ?_, fun u hu hd => ?_, fun u hu hd => ?_, fun u hu hd => ?_, fun u hu hd => ?_, trivial⟩
   all_goals try simp only [Act.put, zq]
   · have hu2 := zEt (Ext.drew A3) hu
     have q1 := ext_cell hu2 b0
     go_simp
     exact zEr
   · have hu2 := zEt (Ext.drew A3) hu
     have q1 := ext_cell hu2 b1
     go_simp
     exact zEr
   · have e1 : f1 1 = _ := hd 1 (by kernel_rfl)
     go_simp
     exact zEr
   · have e0 : f1 0 = _ := hd 0 (by kernel_rfl)
     have e2 : f1 2 = _ := hd 2 (by kernel_rfl)
     go_simp
     exact zEr
   · have e3 : f1 3 = _ := hd 3 (by kernel_rfl)
     go_simp
     exact zEr
   · have e4' : f1 4 = _ := hd 4 (by kernel_rfl)
     have hu2 := zEt (Ext.drew A3) hu
     have q0 := ext_cell hu2 e0
     have q1 := ext_cell hu2 e1
     have q2 := ext_cell hu2 e2
     have q3 := ext_cell hu2 e3
     go_simp
     exact zEr
   · have e4' : f1 4 = _ := hd 4 (by kernel_rfl)
     have hu2 := zEt (Ext.drew A3) hu
     have q1 := ext_cell hu2 b1
     go_simp
     exact zEr
   · have e4' : f1 4 = _ := hd 4 (by kernel_rfl)
     have hu2 := zEt (Ext.drew A3) hu
     have q1 := ext_cell hu2 b0
     go_simp
     exact zEr
   · have e4' : f1 4 = _ := hd 4 (by kernel_rfl)
     have e6 : f1 6 = _ := hd 6 (by kernel_rfl)
     have e7 : f1 7 = _ := hd 7 (by kernel_rfl)
     go_simp
     exact zEr
   · have e4' : f1 4 = _ := hd 4 (by kernel_rfl)
     have e8 : f1 8 = _ := hd 8 (by kernel_rfl)
     have hu2 := zEt (Ext.drew A3) hu
     have q0 := ext_cell hu2 d0
     have q1 := ext_cell hu2 d1
     have q2 := ext_cell hu2 d2
     have q3 := ext_cell hu2 d3
     go_simp
     exact zEr
   · have e4' : f1 4 = _ := hd 4 (by kernel_rfl)
     have e5 : f1 5 = _ := hd 5 (by kernel_rfl)
     have e9 : f1 9 = _ := hd 9 (by kernel_rfl)
     have hu2 := zEt (Ext.drew A3) hu
     go_simp
     refine (HRS.out u hu2).mono ?_
     rintro x w9 ⟨rfl, hx9⟩
     exact ⟨_, rfl, hx9, rfl⟩
   · have e4' : f1 4 = _ := hd 4 (by kernel_rfl)
     have e10 : f1 10 = _ := hd 10 (by kernel_rfl)
     go_simp
     exact zEr
   · have e4' : f1 4 = _ := hd 4 (by kernel_rfl)
     have e11 : f1 11 = _ := hd 11 (by kernel_rfl)
     go_simp
     exact zEr
 case done =>
  rintro D' k W' D0 K0 hDl _ _ hi hdn hD
  have hdn2 : k = V.length := hdn
  rw [hdn2, HLEN.out] at hi
  have HDL := zHd hDl
  have HDD := zHd hD
  have HI := zHd hi
  have q0 := hi.num.cell
  have q1 := hi.want.cell
  have q2 := hi.res.cell
  have f2 := hi.res.frozen
  clear hDl hi hdn hdn2 hD
  gi_wp2
  have hne : D' ≠ w.heap.size + 2 := by have h1 := HDL.out; have h2 := HZ1.out; omega
  have HD2 : Hid ((W'.setCell ⟨w.heap.size + 2, 0, none⟩ (.bool true)).heap[D']? = some (.deferred (some []))) := (Below.heap_setCell _ _ _ _ hne).trans HDD.out
  have HBR : Hid (Boxed (W'.setCell ⟨w.heap.size + 2, 0, none⟩ (.bool true)) (w.heap.size + 2) 4 (.bool true)) := HI.out.res.set _
  have HBW : Hid (Below w.heap.size w (W'.setCell ⟨w.heap.size + 2, 0, none⟩ (.bool true))) := Below.setCell HI.out.below (show w.heap.size ≤ w.heap.size + 2 by omega) _
  refine ⟨by simp, .inl ⟨_, _, rfl, run_takeDeferred HD2.out, ?_⟩⟩
  refine ⟨_, results_cell_bool Tryz.results10 _ _ (w.heap.size + 2) true rfl (Boxed.cell (boxed_chg HBR.out (putObj_chg _ D' _) (fun e => hne e.symm))), ⟨rfl, ?_⟩⟩
  exact Below.trans HBW.out ((putObj_chg _ D' _).below (fun i e => by have h1 := HDL.out; have h2 := HZ1.out; omega) HBW.out.size)
 case stop =>
  rintro D0 D' c W' hDl _ ⟨rfl, hbr, hbl, _⟩ hD
  have HDL := zHd hDl
  have HBR := zHd hbr
  have HBW := zHd hbl
  have HDD := zHd hD
  clear hDl hbr hbl hD
  gi_wp2
  have hne : D' ≠ w.heap.size + 2 := by have h1 := HDL.out; have h2 := HZ1.out; omega
  refine ⟨by simp, .inl ⟨_, _, rfl, run_takeDeferred HDD.out, ?_⟩⟩
  refine ⟨_, results_cell_bool Tryz.results10 _ _ (w.heap.size + 2) true rfl (Boxed.cell (boxed_chg HBR.out (putObj_chg _ D' _) (fun e => hne e.symm))), ⟨rfl, ?_⟩⟩
  exact Below.trans HBW.out ((putObj_chg _ D' _).below (fun i e => by have h1 := HDL.out; have h2 := HZ1.out; omega) HBW.out.size)
end Go.Proofs.YtkdidghfcfcpfaaGreat
namespace Go.Proofs.YtkdidghfcfcpfaaGreat
open Go.ChangeShapes Go.WideShapes Go.ChangeAt Go.RowKit
def TWAns (w : World) (L : List Ent) (x : Ending) (w' : World) : Prop :=
 Ext w w' ∧ ((MayT L ∧ ∃ C A c, C.flatten = L ∧ Cuts C ∧ x = .returned (.tuple #[.slice A (tb C L).length c, .int .i64 0]) ∧ Own w.heap.size (tb C L) (.slice A (tb C L).length c) w') ∨ (¬ MayT L ∧ x = .returned (.tuple #[.slice none 0 0, .int .i64 2])))
set_option maxRecDepth 100000 in
set_option maxHeartbeats 4000000 in
theorem twrite_any {w : World} {lo hi c : Nat} {A : Option Addr} {L : List (Ent × Hd)} (h : Es w lo hi A L) (hhi : hi ≤ w.heap.size) (hlc : L.length ≤ c) (hlen : L.length ≤ 1000000000000) :
    Calls Tryz.prog 31 #[.slice A L.length c] w (TWAns w (L.map Prod.fst)) := by
 have HM := zHd (made_any h hhi hlc hlen)
 clear h hhi hlc hlen
 go_enter Tryz.func31, Tryz.ntmps31
 go_wp2_with fail
 refine HM.out.mono ?_
 rintro x w2 ⟨hx2, (⟨hm, C, bv_, pv_, fv_, hf, hc, rfl, ht⟩ | ⟨hm, rfl⟩)⟩
 · obtain ⟨PA, pc, P, rfl, _, _, _⟩ := ht.ex
   obtain ⟨TA, tc, rfl⟩ := ht.bytes.slice
   obtain ⟨FA, fc, rfl⟩ := ht.filt.slice
   have HMT := zHd hm
   have HX2 := zHd hx2
   have HC := zHd (And.intro hf hc)
   have HO := zHd ht.bytes
   unfold tbcells
   clear hm hx2 hf hc ht
   go_wp2_with fail
   go_ret2
   exact ⟨zEt HX2.out (ext_alloc _ _), .inl ⟨HMT.out, C, TA, tc, HC.out.1, HC.out.2, rfl, HO.out.below (ext_alloc _ _)⟩⟩
 · have HMT := zHd hm
   have HX2 := zHd hx2
   unfold tbcells
   clear hm hx2
   go_wp2_with fail
   go_ret2
   exact ⟨zEt HX2.out (ext_alloc _ _), .inr ⟨HMT.out, rfl⟩⟩
end Go.Proofs.YtkdidghfcfcpfaaGreat
namespace Go.Proofs.YtkdidghfcfcpfaaGreat
open Go.ChangeShapes Go.WideShapes Go.ChangeAt Go.RowKit Go.Lib Go.Joins
theorem unum (n : Int) (w : World) : Calls Tryz.prog 9 #[.int .i64 n] w fun e w' => e = .returned (.int .i64 n) ∧ w = w' := by
 go_enter Tryz.func9, Tryz.ntmps9
 go_wp2
 go_ret
 exact ⟨rfl, rfl⟩
set_option maxRecDepth 100000 in
set_option maxHeartbeats 2000000 in
theorem uput_any (k : List Nat) (s : Int) (hk : ∀ x ∈ k, x < 256) (hkl : k.length ≤ 1000) (h1 : -9223372036854775808 ≤ s) (h2 : s ≤ 9223372036854775807) (w : World) :
    Calls Tryz.prog 32 #[.string (tx k), .int .i64 s] w (LitAns w ⟨k, s, 1, [118]⟩) := by
 obtain ⟨w1, hw1⟩ : ∃ w1, w1 = w.alloc (.cells #[.slice none 0 0, .int .i64 0, .int .i64 0, .slice none 0 0] 50) := ⟨_, rfl⟩
 have HX : Hid (Ext w w1) := by rw [hw1]; exact ext_alloc _ _
 have HBX : Hid (w1.heap[w.heap.size]? = some (.cells #[.slice none 0 0, .int .i64 0, .int .i64 0, .slice none 0 0] 50 (0, 0))) := by rw [hw1]; exact heap_at _ _ rfl
 have HZ : Hid (w1.heap.size = w.heap.size + 1) := by rw [hw1]; simp [Hid]
 obtain ⟨A2, c2, w2, e2, x2, b2⟩ := conv_new w1 k hk hkl
 have cv1 : (convert 22 22 (.slice (some ⟨w2.heap.size, 0, none⟩) 1 1)).run Tryz.prog (w2.alloc (.cells #[.int .u8 118] 5)) = .ok (.slice (some ⟨w2.heap.size, 0, none⟩) 1 1) (w2.alloc (.cells #[.int .u8 118] 5 (1, 2))) := run_convert_bytes_const_at _ _ _ _ _ _ _ (rfl) Tryz.underlying22 Tryz.underlying5
 obtain ⟨w3, hw3⟩ : ∃ w3, w3 = w2.alloc (.cells #[.int .u8 118] 5 (1, 2)) := ⟨_, rfl⟩
 have hx3 : Ext w2 w3 := by rw [hw3]; exact ext_alloc _ _
 have hb3 : Bs w3 w2.heap.size w3.heap.size (.slice (some ⟨w2.heap.size, 0, none⟩) 1 1) [118] := by
  rw [hw3]; exact (bs_mark w2 [118] (by simp) (1, 2)).wide (zNr _) (by simp)
 have hb := ext_heap (zEt x2 hx3) HBX.out
 rw [← hw3] at cv1
 clear hw3
 have q0 := cell_of hb (k := 0) rfl
 have q1 := cell_of hb (k := 1) rfl
 have q2 := cell_of hb (k := 2) rfl
 have q3 := cell_of hb (k := 3) rfl
 have z0 := frozen_four hb (j := 0)
 have z1 := frozen_four hb (j := 1)
 have z2 := frozen_four hb (j := 2)
 have z3 := frozen_four hb (j := 3)
 have HB := zHd hb
 have HK := zHd ((b2.below hx3 (zNr _)).wide (zNr _) hx3.size)
 have HV := zHd (hb3.wide (lo' := w1.heap.size) x2.size (zNr _))
 have HX3 : Hid (Ext w w3) := zEt HX.out (zEt x2 hx3)
 have HBY := zHd hk
 have HS := zHd (And.intro h1 h2)
 clear x2 hx3 b2 hb3 hb hk hkl h1 h2
 go_enter Tryz.func32, Tryz.ntmps32
 rw [hw1] at e2
 go_wp2_with fail
 refine entry_ret1 (p := 4) (by kernel_rfl) rfl rfl (set_four HB.out) ?_
 have far : ∀ {l : List Nat} {v : Value} {u : World} {p : Addr} {x : Value}, p.block < w1.heap.size → Bs u w1.heap.size w3.heap.size v l → Bs (u.setCell p x) w1.heap.size w3.heap.size v l := fun hp h => h.setCell (.inl hp) _
 have hlt : w.heap.size < w1.heap.size := by rw [HZ.out]; omega
 refine ⟨Below.setCell (Below.setCell (Below.setCell (Below.setCell HX3.out (zNr _) _) (zNr _) _) (zNr _) _) (zNr _) _, ⟨A2, c2, some ⟨w2.heap.size, 0, none⟩, 1⟩, rfl, ⟨?_, ?_, HBY.out, (fun x hx => by have h9 : x ∈ [118] := hx; rw [List.mem_singleton] at h9; omega), HS.out.1, HS.out.2, (by show (-9223372036854775808 : Int) ≤ _; dsimp only; omega), (by dsimp only; omega)⟩⟩
 · exact (far hlt (far hlt (far hlt (far hlt HK.out)))).wide HX.out.size (by simp [World.setCell])
 · exact (far hlt (far hlt (far hlt (far hlt HV.out)))).wide HX.out.size (by simp [World.setCell])
def uE (k : Nat) (s : Int) : Ent := ⟨[k], s, 1, [118]⟩
theorem ulit_any {e : Ent} {k : Nat} {kb : ByteArray} {s : Int} (he : e = uE k s) (hkb : kb = tx [k]) (hk : k < 256) (h1 : 0 ≤ s) (h2 : s ≤ 9000) (w : World) :
    Calls Tryz.prog 32 #[.string kb, .int .i64 s] w (LitAns w e) := by
 subst he hkb
 exact uput_any [k] s (fun x hx => by rw [List.mem_singleton] at hx; omega) (by simp) (by omega) (by omega) w
theorem three_es {u : World} {b : Nat} {e e' e2 : Ent} {g g' g2 : Hd} (h : u.heap[b]? = some (.cells (ecells (e, g) ++ (ecells (e', g') ++ ecells (e2, g2))).toArray 50 (0, 0))) (hm : Em u 0 u.heap.size e g) (hm' : Em u 0 u.heap.size e' g') (hm2 : Em u 0 u.heap.size e2 g2) : Es u 0 u.heap.size (some ⟨b, 0, none⟩) [(e, g), (e', g'), (e2, g2)] := by
 refine ⟨.inr ⟨b, 0, rfl, Nat.zero_le _, (zAg.1 h).1, fun i x hx => ?_⟩, fun p hp => ?_⟩
 · rw [Nat.zero_add]
   exact cell_of h (by simpa [erow] using hx)
 · simp only [List.mem_cons, List.not_mem_nil, or_false] at hp
   rcases hp with rfl | rfl | rfl
   · exact hm
   · exact hm'
   · exact hm2
def uT : List Ent := [uE 97 5, uE 97 3, uE 98 9]
theorem umay : MayT uT := by
 refine ⟨by decide, by decide, fun j a b ha hb => ?_, by decide⟩
 rcases j with _ | _ | _ | j
 · simp [uT] at ha hb; subst ha hb; decide
 · simp [uT] at ha hb; subst ha hb; decide
 · simp [uT] at hb
 · simp [uT] at hb
theorem uno : ¬ MayT [uE 98 1, uE 97 1] := fun h => by
 have := h.2.2.1 0 (uE 98 1) (uE 97 1) rfl rfl
 exact absurd this (by decide)
theorem uno0 : ¬ MayT [] := fun h => absurd h.1 (by decide)
theorem upiece : Piece uT := by
 refine ⟨by decide, fun m h1 h2 => ?_⟩
 have h3 : uT.length = 3 := rfl
 rcases m with _ | _ | _ | m
 · omega
 · simp [wr, upto, pieceOf, kform, ahOf, ats, be4, uT, uE, shr, bytesForm, form_lo, List.range, List.range.loop, List.flatMap_cons, List.filter]
 · simp [wr, upto, pieceOf, kform, ahOf, ats, be4, uT, uE, shr, bytesForm, form_lo, List.range, List.range.loop, List.flatMap_cons, List.filter]
 · omega
theorem ucuts : Cuts [uT] := ⟨upiece, fun _ _ h => (by cases h), trivial⟩
theorem ucut {C : List (List Ent)} (h : Cuts C) (hf : C.flatten = uT) : C = [uT] := cut_unique h ucuts (by rw [hf]; rfl)
theorem unot (L : List Ent) : ¬ IsT [] L := fun ⟨_, C, _, _, h⟩ => by
 have := tb_len C L
 rw [h] at this
 simp at this
theorem ulen {C : List (List Ent)} {L : List Ent} (h : MayT L) (hc : Cuts C) (hf : C.flatten = L) : (tb C L).length ≤ 1000000000 := by
 have := (few h hc hf).a
 rw [tb_len]; omega
theorem ulen1 : (tb [uT] uT).length ≤ 1000000000 := ulen umay ucuts rfl
theorem utb_lt {C : List (List Ent)} {L : List Ent} (hm : MayT L) (hc : Cuts C) (hf : C.flatten = L) (hb : ∀ e ∈ L, (∀ x ∈ e.key, x < 256) ∧ ∀ x ∈ e.val, x < 256) : ∀ x ∈ tb C L, x < 256 := by
 subst hf
 intro x hx
 unfold tb at hx
 rcases List.mem_append.1 hx with hx | hx
 · exact ahd_lt hc hm.2.2.2 hm.2.2.1 hb _ x hx
 · rcases List.mem_append.1 hx with hx | hx
   · unfold foot24 at hx
     simp only [List.mem_append] at hx
     rcases hx with hx | hx | hx | hx | hx | hx <;> exact be4_lt _ x hx
   · exact be4_lt _ x hx
theorem open_is {w w' : World} {C : List (List Ent)} {L : List Ent} {x : Ending} (hm : MayT L) (hc : Cuts C) (hf : C.flatten = L) (h : TOpenAns w (tb C L) x w') : Ext w w' ∧ ∃ g, x = .returned (.tuple #[.pointer (some ⟨g, 0, none⟩), .int .i64 0]) ∧ TV w' g C L [] [] false := by
 obtain ⟨hx, (⟨C', L', g, h1, h2, h3, h4, h5, rfl, _, h6⟩ | ⟨hno, _⟩)⟩ := h
 · have hL : L' = L := IsT.unique (b := tb C L) ⟨h1, C', h3, h2, h4⟩ ⟨hm, C, hf, hc, rfl⟩
   subst hL
   have hC : C' = C := cut_unique h2 hc (by rw [h3, hf])
   subst hC
   exact ⟨hx, g, rfl, TV.whole h1 h2 h3 h5 h6⟩
 · exact absurd ⟨hm, C, hf, hc, rfl⟩ (hno L)
theorem open_not {w w' : World} {b : List Nat} {x : Ending} (hn : ∀ L, ¬ IsT b L) (h : TOpenAns w b x w') : Ext w w' ∧ x = .returned (.tuple #[.pointer none, .int .i64 10]) := by
 obtain ⟨hx, (⟨C', L', g, h1, h2, h3, h4, h5, rfl, _, h6⟩ | ⟨_, rfl⟩)⟩ := h
 · exact absurd ⟨h1, C', h3, h2, h4⟩ (hn L')
 · exact ⟨hx, rfl⟩
theorem get_is {w w' : World} {L : List Ent} {fr tt key : List Nat} {en : Bool} {s : Int} {x : Ending} (h : TGetAns w L (hasV fr tt en key && Bl.mayB (Bl.mk (keysT L)) key) key s x w') : Ext w w' ∧ match (inV fr tt en L).find? (seenE key s) with
    | some e => ∃ g : Hd, x = .returned (.tuple #[e.at_ g, .int .i64 0]) ∧ Em w' 0 w'.heap.size e g
    | none => x = .returned (.tuple #[noE, .int .i64 6]) := by
 obtain ⟨h1, h2⟩ := h
 have h3 := get_view fr tt en key s L
 rw [h3] at h2
 exact ⟨h1, h2⟩
theorem mark_ps {B lo hi : Nat} {u u' : World} {A : Option Addr} {P : List (Pl × PHd)} (h : (MarkR B).r u u') (hP : Ps u lo hi A P) : Ps u' lo hi A P := by
 refine ⟨?_, fun p hp => mark_bs h (hP.each p hp)⟩
 rcases hP.outer with h0 | ⟨b, o, e, h1, h2, h3⟩
 · exact .inl h0
 · exact .inr ⟨b, o, e, h1, h2, fun i x hx => mark_cell h (h3 i x hx)⟩
theorem TV.mark {B : Nat} {u u' : World} {g : Nat} {C : List (List Ent)} {L : List Ent} {fr tt : List Nat} {en : Bool} (h : TV u g C L fr tt en) (hm : (MarkR B).r u u') : TV u' g C L fr tt en := by
 obtain ⟨fA, fc, tA, tc, ⟨bv_, fv_, PA, pc, P, h1, h2, h3, h4, h5, h6⟩, h7, h8⟩ := h.at_
 have hz := hm.2.2.2.1
 exact ⟨h.may, h.cuts, h.flat, ⟨fA, fc, tA, tc, ⟨bv_, fv_, PA, pc, P, mark_heap hm h1 (.inr fun _ _ e => by injection e with _ e _; exact absurd e (by decide)), (mark_bs hm h2).wide (zNr _) hz, (mark_bs hm h3).wide (zNr _) hz, (mark_ps hm h4).wide (zNr _) hz, h5, h6⟩, (mark_bs hm h7).wide (zNr _) hz, (mark_bs hm h8).wide (zNr _) hz⟩, h.bf, h.bt, h.good⟩
def ViewF (C : List (List Ent)) (L : List Ent) (fr tt : List Nat) (en : Bool) (v : Value) (u : World) : Prop := ∃ g, v = .pointer (some ⟨g, 0, none⟩) ∧ TV u g C L fr tt en
theorem Fr.Mono.view (B : Nat) (C : List (List Ent)) (L : List Ent) (fr tt : List Nat) (en : Bool) : Fr.Mono (MarkR B) (ViewF C L fr tt en) := fun _ _ _ ⟨g, h, hv⟩ hu => ⟨g, h, hv.mark hu⟩
end Go.Proofs.YtkdidghfcfcpfaaGreat
namespace Go.Proofs.YtkdidghfcfcpfaaGreat
open Go.ChangeShapes Go.WideShapes Go.ChangeAt Go.RowKit
set_option maxRecDepth 100000 in
set_option maxHeartbeats 8000000 in
theorem tfill_any {w : World} {lo hi c : Nat} {A : Option Addr} {L : List (Ent × Hd)} (h : Es w lo hi A L) (hhi : hi ≤ w.heap.size) (hm : MayT (L.map Prod.fst)) :
    Calls Tryz.prog 50 #[.slice A L.length c] w fun x w' => Ext w w' ∧ ∃ (g : Nat) (C : List (List Ent)), x = .returned (.pointer (some ⟨g, 0, none⟩)) ∧ TV w' g C (L.map Prod.fst) [] [] false := by
 have HW := zHd (rtwrite_any (c := c) h hhi hm)
 obtain ⟨Ls, hLs⟩ : ∃ Ls, Ls = L.map Prod.fst := ⟨_, rfl⟩
 have HG : Hid (∀ e ∈ Ls, (∀ x ∈ e.key, x < 256) ∧ ∀ x ∈ e.val, x < 256) := by
  rw [hLs]
  intro e he
  obtain ⟨p, hp, rfl⟩ := List.mem_map.1 he
  exact ⟨(h.each p hp).bk, (h.each p hp).bv⟩
 rw [← hLs] at HW hm ⊢
 have HM := zHd hm
 clear h hhi hm hLs
 go_enter Tryz.func50, Tryz.ntmps50
 go_wp2_with fail
 refine HW.out.mono ?_
 rintro x w2 ⟨hx2, C, v, rfl, hf, hc, ho⟩
 obtain ⟨B, bc, rfl⟩ := ho.slice
 obtain ⟨D, hD⟩ : ∃ D, D = tb C Ls := ⟨_, rfl⟩
 have HX2 := zHd hx2
 have HD := zHd hD
 have HF := zHd hf
 have HC := zHd hc
 have HOP := zHd (topen_any ho.bs (zNr _) (utb_lt HM.out hc hf HG.out) (ulen HM.out hc hf))
 rw [← hD] at HOP ⊢
 clear hx2 hf hc ho hD HW
 go_wp2_with fail
 refine HOP.out.mono ?_
 intro x w3 hop
 rw [HD.out] at hop
 obtain ⟨hx3, g, rfl, hv⟩ := open_is HM.out HC.out HF.out hop
 have HX3 : Hid (Ext w w3) := zEt HX2.out hx3
 have HV := zHd hv
 clear hop hx3 hv HOP
 go_wp2_with fail
 refine (unum _ _).mono ?_
 rintro x wz ⟨rfl, hwz⟩
 have hwz := hwz.symm
 subst hwz
 go_wp2_with fail
 refine bodyPost_ret (results_tmp rfl _ _ _) rfl ?_
 exact ⟨HX3.out, g, C, rfl, HV.out⟩
end Go.Proofs.YtkdidghfcfcpfaaGreat
namespace Go.Proofs.YtkdidghfcfcpfaaGreat
open Go.ChangeShapes Go.WideShapes Go.ChangeAt Go.RowKit Go.Joins
structure Prt where
 fr : List Nat
 tt : List Nat
 en : Bool
structure PrtH where
 frA : Option Addr
 frc : Nat
 ttA : Option Addr
 ttc : Nat
def prtcells (p : Prt × PrtH) : List Value := [.slice p.2.frA p.1.fr.length p.2.frc, .slice p.2.ttA p.1.tt.length p.2.ttc, .bool p.1.en]
theorem prtcells_length (p : Prt × PrtH) : (prtcells p).length = 3 := rfl
def prtrow (L : List (Prt × PrtH)) : List Value := L.flatMap prtcells
theorem prtrow_length (L : List (Prt × PrtH)) : (prtrow L).length = L.length * 3 := by
 unfold prtrow
 induction L with
 | nil => rfl
 | cons a l ih => rw [List.flatMap_cons, List.length_append, ih, prtcells_length, List.length_cons]; omega
theorem prtrow_at (L : List (Prt × PrtH)) {k j : Nat} (hk : k < L.length) (hj : j < 3) : (prtrow L)[k * 3 + j]? = (prtcells L[k])[j]? := by
 unfold prtrow
 induction L generalizing k with
 | nil => simp at hk
 | cons a l ih =>
  rw [List.flatMap_cons]
  cases k with
  | zero => rw [List.getElem?_append_left (by rw [prtcells_length]; omega)]; simp
  | succ k =>
   rw [List.getElem?_append_right (by rw [prtcells_length]; omega), prtcells_length, show (k + 1) * 3 + j - 3 = k * 3 + j by omega]
   simpa using ih (k := k) (by simpa using hk)
structure prtAt (w : World) (lo hi : Nat) (p : Prt × PrtH) : Prop where
 fr : Bs w lo hi (.slice p.2.frA p.1.fr.length p.2.frc) p.1.fr
 frb : ∀ x ∈ p.1.fr, x < 256
 tt : Bs w lo hi (.slice p.2.ttA p.1.tt.length p.2.ttc) p.1.tt
 ttb : ∀ x ∈ p.1.tt, x < 256
theorem prtAt.below {w w' : World} {lo hi B : Nat} {p : Prt × PrtH} (m : prtAt w lo hi p) (hb : Below B w w') (hB : hi ≤ B) : prtAt w' lo hi p := ⟨m.fr.below hb hB, m.frb, m.tt.below hb hB, m.ttb⟩
structure prts (w : World) (lo hi : Nat) (A : Option Addr) (L : List (Prt × PrtH)) : Prop where
 outer : Sl w lo hi A (prtrow L)
 each : ∀ p ∈ L, prtAt w lo hi p
theorem prts.below {w w' : World} {lo hi B : Nat} {A : Option Addr} {L : List (Prt × PrtH)} (h : prts w lo hi A L) (hb : Below B w w') (hB : hi ≤ B) : prts w' lo hi A L := ⟨h.outer.below hb hB, fun p hp => (h.each p hp).below hb hB⟩
theorem prts.base {w : World} {lo hi : Nat} {A : Option Addr} {L : List (Prt × PrtH)} (h : prts w lo hi A L) (h0 : 0 < L.length) : ∃ b o, A = some ⟨b, o, none⟩ ∧ lo ≤ b ∧ b < hi := by
 rcases h.outer with h1 | ⟨b, o, rfl, h1, h2, _⟩
 · have := congrArg List.length h1
   rw [prtrow_length] at this
   simp at this; omega
 · exact ⟨b, o, rfl, h1, h2⟩
theorem prts.get {w : World} {lo hi b o : Nat} {L : List (Prt × PrtH)} (h : prts w lo hi (some ⟨b, o, none⟩) L) {k : Nat} {p : Prt × PrtH} (hk : L[k]? = some p) :
    w.cell? ⟨b, o + k * 3, none⟩ = some (.slice p.2.frA p.1.fr.length p.2.frc) ∧ w.cell? ⟨b, o + k * 3 + 1, none⟩ = some (.slice p.2.ttA p.1.tt.length p.2.ttc) ∧ w.cell? ⟨b, o + k * 3 + 2, none⟩ = some (.bool p.1.en) := by
 obtain ⟨hlt, rfl⟩ := zLg.1 hk
 have hc : ∀ j u, (prtrow L)[j]? = some u → w.cell? ⟨b, o + j, none⟩ = some u := by
  rcases h.outer with h0 | ⟨b', o', he, _, _, hc⟩
  · have := congrArg List.length h0
    rw [prtrow_length] at this
    simp at this; omega
  · injection he with he
    injection he with e1 e2
    subst e1 e2
    exact hc
 have hj := fun (j : Nat) (hj : j < 3) (u : Value) (hu : (prtcells L[k])[j]? = some u) => hc (k * 3 + j) u ((prtrow_at L hlt hj).trans hu)
 refine ⟨hj 0 (by decide) _ rfl, ?_, ?_⟩
 · rw [Nat.add_assoc]; exact hj 1 (by decide) _ rfl
 · rw [Nat.add_assoc]; exact hj 2 (by decide) _ rfl
section
variable {H : Type} {enc : TypeId × Value → H} {W : World}
set_option maxRecDepth 100000 in
theorem cells_prt {fuel : Nat} {cs : List Value} {y : DataW H × List MemPlace} (h : DataW.trod enc Tryz.prog W 0 (fun _ => true) true fuel 98 cs = some y) :
    ∃ p : Prt × PrtH, cs = prtcells p ∧ prtAt W 0 W.heap.size p ∧ ((∀ n ∈ y.1.weights Tryz.prog 98, n ≤ reachBytes) → p.1.fr.length ≤ reachBytes ∧ p.1.tt.length ≤ reachBytes) := by
 obtain ⟨xs, n, _, hx, hl, hlen, hf⟩ := DataW.trod_struct Tryz.underlying98 h
 obtain ⟨y0, y1, y2, rfl⟩ : ∃ y0 y1 y2, xs = [y0, y1, y2] := by
  match xs, hlen with
  | [y0, y1, y2], _ => exact ⟨y0, y1, y2, rfl⟩
 have h0 : DataW.trod enc Tryz.prog W 0 (fun _ => true) true n 22 ((cs.drop 0).take (Tryz.prog.cellsOf 22)) = some y0 := hf 0 _ rfl
 have h1 : DataW.trod enc Tryz.prog W 0 (fun _ => true) true n 22 ((cs.drop 1).take (Tryz.prog.cellsOf 22)) = some y1 := hf 1 _ rfl
 have h2 : DataW.trod enc Tryz.prog W 0 (fun _ => true) true n 4 ((cs.drop 2).take (Tryz.prog.cellsOf 4)) = some y2 := hf 2 _ rfl
 have hC : Tryz.prog.cellsOf 98 = 3 := by kernel_rfl
 have hC0 : Tryz.prog.cellsOf 22 = 1 := by kernel_rfl
 have hC1 : Tryz.prog.cellsOf 4 = 1 := by kernel_rfl
 rw [hC] at hl
 obtain ⟨c0_, c1_, c2_, rfl⟩ : ∃ c0_ c1_ c2_, cs = [c0_, c1_, c2_] := by
  match cs, hl with
  | [c0_, c1_, c2_], _ => exact ⟨c0_, c1_, c2_, rfl⟩
 simp only [hC0, hC1, List.drop_zero, List.take_succ_cons, List.take_zero, List.drop_succ_cons] at h0 h1 h2
 obtain ⟨A0, k0, l0, e0, bk0, hk0, wk0⟩ := cell_bytes h0
 injection e0 with e0
 obtain ⟨A1, k1, l1, e1, bk1, hk1, wk1⟩ := cell_bytes h1
 injection e1 with e1
 obtain ⟨s2, e2, _⟩ := DataW.trod_bool Tryz.underlying4 h2
 injection e2 with e2
 subst e0 e1 e2
 refine ⟨(⟨l0, l1, s2⟩, ⟨A0, k0, A1, k1⟩), rfl, ⟨hk0, bk0, hk1, bk1⟩, fun hw => ?_⟩
 have hwe : ∀ n ∈ DataW.weightsEach Tryz.prog [22, 22, 4] [y0.1, y1.1, y2.1], n ≤ reachBytes := fun n hn => hw n (by
  rw [hx]
  simp only [DataW.weights, Tryz.underlying98]
  exact hn)
 exact ⟨wk0 fun n hn => hwe n (DataW.weights_mem_each (j := 0) rfl rfl n hn), wk1 fun n hn => hwe n (DataW.weights_mem_each (j := 1) rfl rfl n hn)⟩
set_option maxRecDepth 100000 in
theorem open_prts {v : Value} {d : DataW H} {p : List MemPlace} {b0 : Nat} (hv : Value.okWide Tryz.prog W .any b0 41 v) (h : DataW.Trod enc Tryz.prog W 0 (fun _ => true) true 41 v d p)
    (hsz : ∀ n ∈ d.weights Tryz.prog 41, n ≤ reachBytes) :
    ∃ (A : Option Addr) (c : Nat) (L : List (Prt × PrtH)), v = .slice A L.length c ∧ L.length ≤ c ∧ c ≤ maxLen ∧ prts W 0 W.heap.size A L ∧ (∀ p ∈ L, p.1.fr.length ≤ 140737488351232 ∧ p.1.tt.length ≤ 140737488351232) ∧ L.length ≤ 140737488351232 := by
 obtain ⟨a0, len0, cap0, rfl⟩ := okWide_slice Tryz.underlying41 hv
 obtain ⟨fuel, hf⟩ := h
 have hC : Tryz.prog.cellsOf 98 = 3 := by kernel_rfl
 rcases Go.Deep.open_slice Tryz.underlying41 hf with ⟨hcs, _⟩ | ⟨a, len, cap, m, n, D, Pl, hcs, _, hl, hm, hmm, hdd, hx⟩
 · simp [Value.cells] at hcs
   obtain ⟨rfl, rfl, rfl⟩ := hcs
   exact ⟨none, 0, [], rfl, by simp, by simp [maxLen], ⟨Sl.nil _ _ _ _, by simp⟩, by simp, by simp⟩
 · simp [Value.cells] at hcs
   obtain ⟨rfl, rfl, rfl⟩ := hcs
   have hmc : m = cap0 := by rw [hmm]; simp
   have hdd1 : d = .slice ((List.range len0).map D) ((List.range (m - len0)).map fun j => D (len0 + j)) := congrArg Prod.fst hdd
   have hwt : ∀ i, i < len0 → ∀ n ∈ (D i).weights Tryz.prog 98, n ≤ reachBytes := fun i hi n hn => by
    refine hsz n ?_
    rw [hdd1]
    simp only [DataW.weights, Tryz.underlying41, List.mem_cons, List.mem_append]
    exact Or.inr (Or.inl (weightsAll_at (List.mem_map.2 ⟨i, List.mem_range.2 hi, rfl⟩) n hn))
   have hlen : len0 ≤ 140737488351232 := by
    have hb1 : 1 ≤ Tryz.prog.bytesOf 98 := by
     have : Tryz.prog.bytesOf 98 = 56 := by kernel_rfl
     omega
    have h3 := hsz ((len0 + (m - len0)) * Tryz.prog.bytesOf 98) (by
     rw [hdd1]
     simp [DataW.weights, Tryz.underlying41])
    rw [reach_is] at h3
    have h4 : len0 * 1 ≤ (len0 + (m - len0)) * Tryz.prog.bytesOf 98 := Nat.mul_le_mul (by omega) hb1
    omega
   have each : ∀ i : Nat, ∃ t : Prt × PrtH, i < len0 → (∀ j v, j < 3 → (prtcells t)[j]? = some v → W.cell? ((a.add (i * 3)).add j) = some v) ∧ prtAt W 0 W.heap.size t ∧ t.1.fr.length ≤ 140737488351232 ∧ t.1.tt.length ≤ 140737488351232 := by
    intro i
    by_cases hi : i < len0
    · obtain ⟨cs', hc', ht'⟩ := hx i (by omega)
      rw [hC] at hc'
      obtain ⟨_, hcl, hat⟩ := World.cells?_some hc'
      obtain ⟨e, hcc, hem, hw⟩ := cells_prt ht'
      have hw2 := hw (hwt i hi)
      rw [reach_is] at hw2
      exact ⟨e, fun _ => ⟨fun j v hj hv => by rw [hat j hj, hcc]; exact hv, hem, hw2⟩⟩
    · exact ⟨(⟨[], [], false⟩, ⟨none, 0, none, 0⟩), fun h => absurd h hi⟩
   obtain ⟨F, hF⟩ := Classical.axiomOfChoice each
   have hat : ∀ i u, (prtrow ((List.range len0).map F))[i]? = some u → W.cell? (a.add i) = some u := by
    intro i u hu
    have hi : i < len0 * 3 := by
     have := (zLg.1 hu).1
     rw [prtrow_length] at this
     simpa using this
    have hi4 : i / 3 < len0 := by omega
    have e1 : i = i / 3 * 3 + i % 3 := by omega
    rw [e1, prtrow_at _ (by simpa using hi4) (by omega)] at hu
    have h1 := (hF (i / 3) hi4).1 (i % 3) u (by omega) (by simpa using hu)
    have e2 : (a.add (i / 3 * 3)).add (i % 3) = a.add i := by
     obtain ⟨b, o, s⟩ := a
     have hc0 := (hF 0 (by omega)).1 0 _ (by omega) rfl
     have hs : s = none := by
      have := World.cell?_spot hc0
      simpa [Addr.add] using this
     subst hs
     rw [addr_add, addr_add, addr_add]
     congr 1; omega
    rw [← e2]; exact h1
   refine ⟨some a, cap0, (List.range len0).map F, by simp, by simpa using hl, hm, ⟨?_, ?_⟩, ?_, by simpa using hlen⟩
   · by_cases h0 : len0 = 0
     · exact .inl (by simp [h0, prtrow])
     · obtain ⟨b, o, spot⟩ := a
       have hc0 := (hF 0 (by omega)).1 0 _ (by omega) rfl
       have hspot : spot = none := by
        have := World.cell?_spot hc0
        simpa [Addr.add] using this
       subst hspot
       have hblt : b < W.heap.size := by
        have := World.block_lt_of_cell? W _ hc0
        rw [addr_add, addr_add] at this
        exact this
       exact .inr ⟨b, o, rfl, Nat.zero_le _, hblt, fun i u hu => by have := hat i u hu; rwa [addr_add] at this⟩
   · intro q hq
     simp only [List.mem_map, List.mem_range] at hq
     obtain ⟨i, hi, rfl⟩ := hq
     exact (hF i hi).2.1
   · intro q hq
     simp only [List.mem_map, List.mem_range] at hq
     obtain ⟨i, hi, rfl⟩ := hq
     exact (hF i hi).2.2
end
end Go.Proofs.YtkdidghfcfcpfaaGreat
namespace Go.Proofs.YtkdidghfcfcpfaaGreat
open Go.ChangeShapes Go.WideShapes Go.ChangeAt Go.RowKit
def LongAns (L : List (Prt × PrtH)) (z : Bool) : Prop := z = false → L.length ≤ 5 ∧ ∀ p ∈ L, p.1.fr.length ≤ 9000 ∧ p.1.tt.length ≤ 9000
set_option maxRecDepth 100000 in
set_option maxHeartbeats 4000000 in
theorem tlong_any {w : World} {lo hi : Nat} {A : Option Addr} {c : Nat} {L : List (Prt × PrtH)} (h : prts w lo hi A L) (hhi : hi ≤ w.heap.size) (hlen : L.length ≤ 140737488351232) (hln : ∀ p ∈ L, p.1.fr.length ≤ 140737488351232 ∧ p.1.tt.length ≤ 140737488351232) :
    Calls Tryz.prog 17 #[.slice A L.length c] w fun x w' => ∃ z : Bool, LongAns L z ∧ x = .returned (.bool z) ∧ Ext w w' := by
 have HE := zHd h
 have HHI := zHd hhi
 have HL := zHd hlen
 have HLN := zHd hln
 clear h hhi hlen hln
 go_enter Tryz.func17, Tryz.ntmps17
 go_wp2_with fail
 go_loopw [3, 4] (fun a b wr => ∃ s i : Nat, a = .int .i64 (s : Int) ∧ b = .int .i64 (i : Int) ∧ i ≤ L.length ∧ i ≤ 6 ∧ s ≤ i * 18002 ∧ Hid (s ≤ 9000 → ∀ p ∈ L.take i, p.1.fr.length ≤ s ∧ p.1.tt.length ≤ s) ∧ Hid (Ext w wr)) (fun _ b _ => 6 - (intOf b).toNat)
 case atStart => exact ⟨0, 0, rfl, rfl, by omega, by omega, by omega, fun _ => by simp, zHd (Ext.refl _)⟩
 case round =>
  obtain ⟨s, i, rfl, rfl, hm, hm6, hs, HR, HX⟩ := hrel
  by_cases hlt : i < L.length
  · have d : decide ((i : Int) < (L.length : Int)) = true := decide_eq_true (by omega)
    have dn : decide (i < L.length) = true := decide_eq_true hlt
    by_cases h6 : i < 6
    · have t : decide ((i : Int) < 6) = true := decide_eq_true (by omega)
      have tn : decide (i < 6) = true := decide_eq_true h6
      obtain ⟨b, o, hA, _, _⟩ := HE.out.base (by omega)
      subst hA
      obtain ⟨p, hp⟩ : ∃ p, L[i]? = some p := ⟨_, List.getElem?_eq_getElem hlt⟩
      obtain ⟨c0, c1, c2⟩ := (HE.out.below HX.out HHI.out).get hp
      have HP := zHd hp
      have HLP := zHd (HLN.out p (List.mem_of_getElem? hp))
      have n1 : (0 : Int) ≤ (i : Int) := by omega
      have n2 : (i : Int) < (L.length : Int) := by omega
      obtain ⟨x, hx⟩ : ∃ x, x = min p.1.fr.length 9001 := ⟨_, rfl⟩
      obtain ⟨y, hy⟩ : ∃ y, y = min p.1.tt.length 9001 := ⟨_, rfl⟩
      have HMX : Hid ((min (p.1.fr.length : Int) 9001) = (x : Int)) := by unfold Hid; omega
      have HMY : Hid ((min (p.1.tt.length : Int) 9001) = (y : Int)) := by unfold Hid; omega
      have HXY := zHd (And.intro hx hy)
      have HSB : Hid (s ≤ i * 18002 ∧ i < 6) := ⟨hs, h6⟩
      clear hp c2 hx hy hs h6
      go_upto_region 5 with (fail)
      refine flow (by kernel_rfl) [Is (.int .i64 (s : Int)), Is (.slice (some ⟨b, o, none⟩) L.length c), Is (.int .i64 (i : Int)), Is (.pointer (some ⟨b, o + i * 3, none⟩)), Is (.pointer (some ⟨b, o + i * 3, none⟩)), Is (.slice p.2.frA p.1.fr.length p.2.frc), Is (.int .i64 (p.1.fr.length : Int)), Is (.int .i64 (x : Int)), Is (.int .i64 ((s : Int) + (x : Int))), Is (.slice (some ⟨b, o, none⟩) L.length c), Is (.int .i64 (i : Int)), Is (.pointer (some ⟨b, o + i * 3, none⟩)), Is (.pointer (some ⟨b, o + i * 3 + 1, none⟩)), Is (.slice p.2.ttA p.1.tt.length p.2.ttc), Is (.int .i64 (p.1.tt.length : Int)), Is (.int .i64 (y : Int)), Is (.int .i64 ((s : Int) + (x : Int) + (y : Int))), Is (.int .i64 ((s : Int) + (x : Int) + (y : Int)))] (by kernel_rfl) (by kernel_rfl) ?mono (fun f1 => ?obl) ?fin
      case mono =>
       simp only [List.forall_mem_cons, List.not_mem_nil, false_imp_iff, implies_true, and_true]
       and_intros <;> exact .is _
      case fin =>
       intro g1 u hu hg
       simp only [puts, Act.put, zq]
       have h17 : g1 17 = _ := hg 17 (by decide)
       rw [h17]
       have HXU : Hid (Ext w u) := zEt HX.out (zEt (Ext.drew wr) hu)
       clear h17 hg hu c0 c1
       go_wp2_with fail
       go_roundw
       case rel =>
        have hxy := HXY.out
        have hsb := HSB.out
        refine ⟨s + x + y, i + 1, by simp, by go_num, by omega, by omega, by omega, zHd fun hle => ?_, HXU⟩
        have h2 := HR.out (by omega)
        intro q hq
        rw [List.take_succ_eq_append_getElem hlt, List.mem_append, List.mem_singleton] at hq
        rcases hq with hq | hq
        · have := h2 q hq; omega
        · have hpe : q = p := by rw [hq]; exact (zLg.1 HP.out).2
          subst hpe
          omega
       case measure => have := HSB.out; simp [intOf]; omega
      case obl =>
       refine ⟨fun u hu hd => ?_, fun u hu hd => ?_, fun u hu hd => ?_, fun u hu hd => ?_, fun u hu hd => ?_, fun u hu hd => ?_, fun u hu hd => ?_, fun u hu hd => ?_, fun u hu hd => ?_, fun u hu hd => ?_, fun u hu hd => ?_, fun u hu hd => ?_, fun u hu hd => ?_, fun u hu hd => ?_, fun u hu hd => ?_, fun u hu hd => ?_, fun u hu hd => ?_, fun u hu hd => ?_, trivial⟩
       all_goals try simp only [Act.put, zq]
       · go_simp
         exact zEr
       · go_simp
         exact zEr
       · go_simp
         exact zEr
       · have e1 : f1 1 = _ := hd 1 (by kernel_rfl)
         have e2 : f1 2 = _ := hd 2 (by kernel_rfl)
         go_simp
         exact zEr
       · have e3 : f1 3 = _ := hd 3 (by kernel_rfl)
         go_simp
         exact zEr
       · have e4 : f1 4 = _ := hd 4 (by kernel_rfl)
         have hu2 := zEt (Ext.drew wr) hu
         have q0 := ext_cell hu2 c0
         go_simp
         exact zEr
       · have e5 : f1 5 = _ := hd 5 (by kernel_rfl)
         go_simp
         exact zEr
       · have e6 : f1 6 = _ := hd 6 (by kernel_rfl)
         have q := HMX.out
         go_simp
         exact zEr
       · have e0 : f1 0 = _ := hd 0 (by kernel_rfl)
         have e7 : f1 7 = _ := hd 7 (by kernel_rfl)
         have q1 : x ≤ 9001 ∧ y ≤ 9001 ∧ s ≤ 100000 := by have := HXY.out; have := HSB.out; omega
         have q : IntKind.i64.wrap ((s : Int) + (x : Int)) = (s : Int) + (x : Int) := by rw [IntKind.wrap_i64]; omega
         go_simp
         exact zEr
       · go_simp
         exact zEr
       · go_simp
         exact zEr
       · have e9 : f1 9 = _ := hd 9 (by kernel_rfl)
         have e10 : f1 10 = _ := hd 10 (by kernel_rfl)
         go_simp
         exact zEr
       · have e11 : f1 11 = _ := hd 11 (by kernel_rfl)
         go_simp
         exact zEr
       · have e12 : f1 12 = _ := hd 12 (by kernel_rfl)
         have hu2 := zEt (Ext.drew wr) hu
         have q0 := ext_cell hu2 c1
         go_simp
         exact zEr
       · have e13 : f1 13 = _ := hd 13 (by kernel_rfl)
         go_simp
         exact zEr
       · have e14 : f1 14 = _ := hd 14 (by kernel_rfl)
         have q := HMY.out
         go_simp
         exact zEr
       · have e8 : f1 8 = _ := hd 8 (by kernel_rfl)
         have e15 : f1 15 = _ := hd 15 (by kernel_rfl)
         have q1 : x ≤ 9001 ∧ y ≤ 9001 ∧ s ≤ 100000 := by have := HXY.out; have := HSB.out; omega
         have q : IntKind.i64.wrap ((s : Int) + (x : Int) + (y : Int)) = (s : Int) + (x : Int) + (y : Int) := by rw [IntKind.wrap_i64]; omega
         go_simp
         exact zEr
       · have e16 : f1 16 = _ := hd 16 (by kernel_rfl)
         go_simp
         exact zEr
    · have t : decide ((i : Int) < 6) = false := decide_eq_false (by omega)
      have tn : decide (i < 6) = false := decide_eq_false h6
      have HI6 : Hid (6 ≤ i) := by unfold Hid; omega
      clear h6
      by_cases hs1 : s ≤ 9000
      · have t2 : decide ((9000 : Int) < (s : Int)) = false := decide_eq_false (by omega)
        have t2n : decide (9000 < s) = false := decide_eq_false (by omega)
        have t3 : decide ((5 : Int) < (L.length : Int)) = true := decide_eq_true (by have := HI6.out; omega)
        have t3n : decide (5 < L.length) = true := decide_eq_true (by have := HI6.out; omega)
        clear hs1 hlt hm hs hm6
        go_wp2_with fail
        go_ret
        exact ⟨true, fun h => (by cases h), rfl, HX.out⟩
      · have t2 : decide ((9000 : Int) < (s : Int)) = true := decide_eq_true (by omega)
        have t2n : decide (9000 < s) = true := decide_eq_true (by omega)
        clear hs1 hlt hm hs hm6
        go_wp2_with fail
        go_ret
        exact ⟨true, fun h => (by cases h), rfl, HX.out⟩
  · have d : decide ((i : Int) < (L.length : Int)) = false := decide_eq_false (by omega)
    have dn : decide (i < L.length) = false := decide_eq_false hlt
    have HI : Hid (i = L.length) := by unfold Hid; omega
    by_cases hs1 : s ≤ 9000
    · have t2 : decide ((9000 : Int) < (s : Int)) = false := decide_eq_false (by omega)
      have t2n : decide (9000 < s) = false := decide_eq_false (by omega)
      have HS1 := zHd hs1
      obtain ⟨z, hz⟩ : ∃ z, z = decide (5 < L.length) := ⟨_, rfl⟩
      have t3 : decide ((5 : Int) < (L.length : Int)) = z := by rw [hz]; exact decide_eq_decide.2 (by omega)
      have t3n : decide (5 < L.length) = z := hz.symm
      have HZ := zHd hz
      clear hs1 hlt hm hs hz hm6
      go_wp2_with fail
      go_ret
      refine ⟨z, fun hz => ?_, rfl, HX.out⟩
      have h2 := HR.out HS1.out
      have h3 := HI.out
      have h4 := HS1.out
      rw [h3, List.take_length] at h2
      have h5 := HZ.out
      rw [hz] at h5
      have h6 := of_decide_eq_false h5.symm
      exact ⟨by omega, fun p hp => by have := h2 p hp; omega⟩
    · have t2 : decide ((9000 : Int) < (s : Int)) = true := decide_eq_true (by omega)
      have t2n : decide (9000 < s) = true := decide_eq_true (by omega)
      clear hs1 hlt hm hs hm6
      go_wp2_with fail
      go_ret
      exact ⟨true, fun h => (by cases h), rfl, HX.out⟩
structure Vw where
 fr : List Nat
 tt : List Nat
 en : Bool
def clip1 (v : Vw) (p : Prt) : Vw := ⟨clipF v.fr p.fr, clipT v.tt v.en p.tt p.en, clipE v.en p.en⟩
def clips (L : List (Prt × PrtH)) : Vw := L.foldl (fun v p => clip1 v p.1) ⟨[], [], false⟩
theorem clips_succ {L : List (Prt × PrtH)} {k : Nat} {p : Prt × PrtH} (h : L[k]? = some p) : clips (L.take (k + 1)) = clip1 (clips (L.take k)) p.1 := by
 unfold clips
 rw [List.take_add_one, h, List.foldl_append]
 rfl
theorem clipF_of {P : List Nat → Prop} {fr a : List Nat} (h1 : P fr) (h2 : P a) : P (clipF fr a) := by unfold clipF; split <;> assumption
theorem clipT_of {P : List Nat → Prop} {tt b : List Nat} {en e : Bool} (h1 : P tt) (h2 : P b) : P (clipT tt en b e) := by unfold clipT; split <;> assumption
theorem clips_of {P : List Nat → Prop} (h0 : P []) {L : List (Prt × PrtH)} (h : ∀ p ∈ L, P p.1.fr ∧ P p.1.tt) : P (clips L).fr ∧ P (clips L).tt := by
 unfold clips
 have go : ∀ (L : List (Prt × PrtH)) (v : Vw), P v.fr ∧ P v.tt → (∀ p ∈ L, P p.1.fr ∧ P p.1.tt) → P (L.foldl (fun v p => clip1 v p.1) v).fr ∧ P (L.foldl (fun v p => clip1 v p.1) v).tt := by
  intro L
  induction L with
  | nil => intro v hv _; exact hv
  | cons p L ih =>
   intro v hv hL
   have hp := hL p (List.mem_cons_self ..)
   exact ih _ ⟨clipF_of hv.1 hp.1, clipT_of hv.2 hp.2⟩ (fun q hq => hL q (List.mem_cons_of_mem _ hq))
 exact go L _ ⟨h0, h0⟩ h
def RVal (H : Nat) (A : Option Addr) (n c : Nat) (v : Vw) (x : Value) (w : World) : Prop :=
 ∃ (fA : Option Addr) (fc : Nat) (tA : Option Addr) (tc : Nat), x = .agg #[.slice A n c, .slice fA v.fr.length fc, .slice tA v.tt.length tc, .bool v.en] ∧ Bs w 0 H (.slice fA v.fr.length fc) v.fr ∧ Bs w 0 H (.slice tA v.tt.length tc) v.tt ∧ H ≤ w.heap.size
theorem RVal.mono (H : Nat) (A : Option Addr) (n c : Nat) (v : Vw) : Mono (RVal H A n c v) := fun _ _ _ ⟨fA, fc, tA, tc, e, h1, h2, h3⟩ hx => ⟨fA, fc, tA, tc, e, h1.below hx h3, h2.below hx h3, zNt h3 hx.size⟩
def RBox (H : Nat) (A : Option Addr) (n c : Nat) (v : Vw) (b : Nat) (w : World) : Prop :=
 ∃ (fA : Option Addr) (fc : Nat) (tA : Option Addr) (tc : Nat), w.heap[b]? = some (.cells #[.slice A n c, .slice fA v.fr.length fc, .slice tA v.tt.length tc, .bool v.en] 45 (0, 0)) ∧ Bs w 0 H (.slice fA v.fr.length fc) v.fr ∧ Bs w 0 H (.slice tA v.tt.length tc) v.tt ∧ H ≤ w.heap.size
theorem RBox.ext {H : Nat} {A : Option Addr} {n c : Nat} {v : Vw} {b : Nat} {w w' : World} (h : RBox H A n c v b w) (hx : Ext w w') : RBox H A n c v b w' := by
 obtain ⟨fA, fc, tA, tc, e, h1, h2, h3⟩ := h
 exact ⟨fA, fc, tA, tc, ext_heap hx e, h1.below hx h3, h2.below hx h3, zNt h3 hx.size⟩
theorem RBox.small {H : Nat} {A : Option Addr} {n c : Nat} {v : Vw} {b : Nat} {w : World} (h : RBox H A n c v b w) : SmallB w b := by
 obtain ⟨fA, fc, tA, tc, e, _⟩ := h
 refine ⟨_, _, e, by simp, fun i u hi m hm => ?_⟩
 subst hm
 rcases i with _ | _ | _ | _ | i <;> simp at hi
theorem viewF_mono (C : List (List Ent)) (L : List Ent) (fr tt : List Nat) (en : Bool) : Mono (ViewF C L fr tt en) := fun _ _ _ ⟨g, h, hv⟩ hx => ⟨g, h, hv.ext hx⟩
theorem results_tmp_view {fn : Func} {p q : Tmp} (h : fn.results = #[.tmp p, .cell q 45]) (tmps : Array Value) (w : World) (g : Nat) (c : Array Value) (v : Value) (hp : tmps.getD p undef = v) (hq : tmps.getD q undef = .pointer (some ⟨g, 0, none⟩))
    (hc : c.size = 4) (hg : w.heap[g]? = some (.cells c 45 (0, 0))) : (results fn tmps).run Tryz.prog w = .ok (.tuple #[v, .agg c]) w := by
 have hi : (Tryz.prog.info? 45).map (·.size) = some 4 := by kernel_rfl
 have hl := run_loadVar_row (P := Tryz.prog) w g 45 45 c (0, 0) _ hg Tryz.underlying45 rfl (by rw [hc]; exact hi)
 have ha : (asAddr (.pointer (some ⟨g, 0, none⟩))).run Tryz.prog w = .ok ⟨g, 0, none⟩ w := rfl
 have hr : (results fn tmps).run Tryz.prog w = ((asAddr (tmps.getD q undef)).run Tryz.prog w).andThen fun a w₁ => ((loadVar 45 a).run Tryz.prog w₁).andThen fun u w₂ => .ok (.tuple #[tmps.getD p undef, u]) w₂ := by
  simp only [results, h]
  simp [Sem.run_bind, Result.andThen]
 rw [hr, hq, ha, Result.andThen_ok, hl, Result.andThen_ok, hp]
theorem Bs.setFour {w : World} {lo hi : Nat} {v : Value} {l : List Nat} (h : Bs w lo hi v l) {b : Nat} (hb : hi ≤ b) {x0 x1 x2 x3 : Value} : Bs ((((w.setCell ⟨b, 0, none⟩ x0).setCell ⟨b, 1, none⟩ x1).setCell ⟨b, 2, none⟩ x2).setCell ⟨b, 3, none⟩ x3) lo hi v l :=
 (((h.setCell (.inr hb) _).setCell (.inr hb) _).setCell (.inr hb) _).setCell (.inr hb) _
def LClipAns (w : World) (H : Nat) (A : Option Addr) (n c : Nat) (Ls : List Ent) (v : Vw) (x : Ending) (w' : World) : Prop :=
 Ext w w' ∧ ∃ (g : Nat) (C : List (List Ent)) (fA : Option Addr) (fc : Nat) (tA : Option Addr) (tc : Nat), x = .returned (.tuple #[.pointer (some ⟨g, 0, none⟩), .agg #[.slice A n c, .slice fA v.fr.length fc, .slice tA v.tt.length tc, .bool v.en]]) ∧ TV w' g C Ls v.fr v.tt v.en ∧ Bs w' 0 H (.slice fA v.fr.length fc) v.fr ∧ Bs w' 0 H (.slice tA v.tt.length tc) v.tt
set_option maxRecDepth 100000 in
set_option maxHeartbeats 8000000 in
theorem tlclip_any {w : World} {lo hi lo2 hi2 c c2 : Nat} {A B : Option Addr} {R : List (Ent × Hd)} {L : List (Prt × PrtH)} (h : Es w lo hi A R) (hhi : hi ≤ w.heap.size) (hm : MayT (R.map Prod.fst)) (hp : prts w lo2 hi2 B L) (hhi2 : hi2 ≤ w.heap.size) (hlen : L.length ≤ 5) (hln : ∀ p ∈ L, p.1.fr.length ≤ 9000 ∧ p.1.tt.length ≤ 9000) :
    Calls Tryz.prog 19 #[.slice A R.length c, .slice B L.length c2] w (LClipAns w w.heap.size A R.length c (R.map Prod.fst) (clips L)) := by
 obtain ⟨w1, hw1⟩ : ∃ w1, w1 = w.alloc (.cells #[.slice none 0 0, .slice none 0 0, .slice none 0 0, .bool false] 45) := ⟨_, rfl⟩
 have HX1 : Hid (Ext w w1) := by rw [hw1]; exact ext_alloc _ _
 have HB1 : Hid (w1.heap[w.heap.size]? = some (.cells #[.slice none 0 0, .slice none 0 0, .slice none 0 0, .bool false] 45 (0, 0))) := by rw [hw1]; exact heap_at _ _ rfl
 have HFI := zHd (tfill_any (c := c) (h.below HX1.out hhi) (zNt hhi HX1.out.size) hm)
 have HE := zHd hp
 have HHI := zHd hhi2
 have HL := zHd hlen
 have HLN := zHd hln
 obtain ⟨n, hn⟩ : ∃ n, n = R.length := ⟨_, rfl⟩
 obtain ⟨Ls, hLs⟩ : ∃ Ls, Ls = R.map Prod.fst := ⟨_, rfl⟩
 rw [← hn, ← hLs] at HFI ⊢
 have hlI : (L.length : Int) ≤ 5 := by omega
 clear h hhi hm hp hhi2 hlen hln hn hLs
 go_enter Tryz.func19, Tryz.ntmps19
 go_upto_region 1 with (fail)
 rw [← hw1]
 clear hw1
 go_wp2_with fail
 refine HFI.out.mono ?_
 rintro x w2 ⟨hx2, g0, C, rfl, htv⟩
 have HX2 : Hid (Ext w w2) := zEt HX1.out hx2
 have HB2 := zHd (ext_heap hx2 HB1.out)
 have HTV2 := zHd htv
 obtain ⟨w3, hw3⟩ : ∃ w3, w3 = w2.alloc (.cells #[.slice A n c, .slice none 0 0, .slice none 0 0, .bool false] 45) := ⟨_, rfl⟩
 have HX3 : Hid (Ext w2 w3) := by rw [hw3]; exact ext_alloc _ _
 have HV3 : Hid (w3.heap[w2.heap.size]? = some (.cells #[.slice A n c, .slice none 0 0, .slice none 0 0, .bool false] 45 (0, 0))) := by rw [hw3]; exact heap_at _ _ rfl
 clear hx2 htv HFI
 go_upto_region 2 with (fail)
 rw [← hw3]
 clear hw3
 obtain ⟨vb, hvb⟩ : ∃ vb, vb = w2.heap.size := ⟨_, rfl⟩
 have HVB : Hid (w.heap.size < vb) := by rw [hvb]; exact (zAg.1 HB2.out).1
 rw [← hvb] at HV3 ⊢
 clear hvb
 go_wp2_with fail
 go_loopw [6, 8, 9] (fun tv iv _xv wq => ∃ k g : Nat, tv = .pointer (some ⟨g, 0, none⟩) ∧ iv = .int .i64 (k : Int) ∧ k ≤ L.length ∧ Hid (TV wq g C Ls (clips (L.take k)).fr (clips (L.take k)).tt (clips (L.take k)).en) ∧ Hid (RBox w.heap.size A n c (clips (L.take k)) vb wq) ∧ Hid (Ext w wq) ∧ Hid (wq.heap[w.heap.size]? = some (.cells #[.slice none 0 0, .slice none 0 0, .slice none 0 0, .bool false] 45 (0, 0)))) (fun _ iv _ _ => L.length - (intOf iv).toNat)
 case atStart => exact ⟨0, g0, rfl, rfl, Nat.zero_le _, HTV2.out.ext HX3.out, ⟨none, 0, none, 0, HV3.out, Bs.nil _ _ _, Bs.nil _ _ _, zNt HX2.out.size HX3.out.size⟩, zEt HX2.out HX3.out, ext_heap HX3.out HB2.out⟩
 case round =>
  rename World => wq
  obtain ⟨k, g, rfl, rfl, hk, HTV, HRB, HX, HB0⟩ := hrel
  by_cases hlt : k < L.length
  rotate_left
  · have d : decide ((k : Int) < (L.length : Int)) = false := decide_eq_false (by omega)
    have dn : decide (k < L.length) = false := decide_eq_false hlt
    have hkn : L.take k = L := List.take_of_length_le (by omega)
    rw [hkn] at HTV HRB
    obtain ⟨fA, fc, tA, tc, hb, hf, ht, _⟩ := HRB.out
    have HB := zHd hb
    have HFT := zHd (And.intro hf ht)
    have q0 := cell_of hb (k := 0) rfl
    have q1 := cell_of hb (k := 1) rfl
    have q2 := cell_of hb (k := 2) rfl
    have q3 := cell_of hb (k := 3) rfl
    clear hlt hk hkn hb hf ht
    go_upto_region 7 with (fail)
    refine flow_last (by kernel_rfl) [Is (.pointer (some ⟨g, 0, none⟩)), Is (.agg #[.slice A n c, .slice fA (clips L).fr.length fc, .slice tA (clips L).tt.length tc, .bool (clips L).en]), Is (.pointer (some ⟨g, 0, none⟩))] 3 _ (by kernel_rfl) (by kernel_rfl) rfl rfl (by kernel_rfl) ?mono (fun f1 => ?obl) ?fin
    case mono =>
     simp only [List.forall_mem_cons, List.not_mem_nil, false_imp_iff, implies_true, and_true]
     and_intros <;> exact .is _
    case fin =>
     intro g1 u hu hg
     simp only [List.take_succ_cons, List.take_zero, puts, Act.put, zq]
     have h1 : g1 1 = _ := hg 1 (by decide)
     have h2 : g1 2 = _ := hg 2 (by decide)
     rw [h1, h2]
     have HXU : Hid (Ext wq u) := zEt (Ext.drew wq) hu
     have HU := zHd (ext_heap HXU.out HB0.out)
     have t0 := cell_of HU.out (k := 0) rfl
     have t1 := cell_of HU.out (k := 1) rfl
     have t2 := cell_of HU.out (k := 2) rfl
     have t3 := cell_of HU.out (k := 3) rfl
     have z0 := frozen_four (j := 0) HU.out
     have z1 := frozen_four (j := 1) HU.out
     have z2 := frozen_four (j := 2) HU.out
     have z3 := frozen_four (j := 3) HU.out
     clear h1 h2 hg hu q0 q1 q2 q3
     go_simp
     go_wp2_with fail
     have hS := chg_four w.heap.size u (.slice A n c) (.slice fA (clips L).fr.length fc) (.slice tA (clips L).tt.length tc) (.bool (clips L).en)
     have hsz : ((((u.setCell ⟨w.heap.size, 0, none⟩ (.slice A n c)).setCell ⟨w.heap.size, 1, none⟩ (.slice fA (clips L).fr.length fc)).setCell ⟨w.heap.size, 2, none⟩ (.slice tA (clips L).tt.length tc)).setCell ⟨w.heap.size, 3, none⟩ (.bool (clips L).en)).heap.size = u.heap.size := by simp [World.setCell]
     have hsm : SmallB u w.heap.size := ⟨_, _, HU.out, by simp, fun i v hi m hm => by subst hm; rcases i with _ | _ | _ | _ | i <;> simp at hi⟩
     refine bodyPost_ret (results_tmp_view Tryz.results19 _ _ w.heap.size _ (.pointer (some ⟨g, 0, none⟩)) rfl rfl rfl (set_four HU.out)) rfl ?_
     refine ⟨Below.trans (zEt HX.out HXU.out) (hS.below (fun i hi => by rw [hi]; exact zNr _) (zEt HX.out HXU.out).size), g, C, fA, fc, tA, tc, rfl, (HTV.out.ext HXU.out).off hsm hS hsz, ?_, ?_⟩
     · exact (HFT.out.1.below HXU.out HX.out.size).setFour (zNr _)
     · exact (HFT.out.2.below HXU.out HX.out.size).setFour (zNr _)
    case obl =>
     refine ⟨fun u hu hd => ?_, fun u hu hd => ?_, fun u hu hd => ?_, trivial⟩
     all_goals try simp only [Act.put, zq]
     · go_simp
       exact zEr
     · have hu2 := zEt (Ext.drew wq) hu
       have q0 := ext_cell hu2 q0
       have q1 := ext_cell hu2 q1
       have q2 := ext_cell hu2 q2
       have q3 := ext_cell hu2 q3
       go_simp
       exact zEr
     · have e0 : f1 0 = _ := hd 0 (by kernel_rfl)
       go_simp
       exact zEr
  have d : decide ((k : Int) < (L.length : Int)) = true := decide_eq_true (by omega)
  have dn : decide (k < L.length) = true := decide_eq_true hlt
  have HLT := zHd hlt
  obtain ⟨b, o, hA, _, _⟩ := HE.out.base (by omega)
  subst hA
  obtain ⟨p, hp⟩ : ∃ p, L[k]? = some p := ⟨_, List.getElem?_eq_getElem hlt⟩
  have HMEM := zHd (List.mem_of_getElem? hp)
  have HSU := zHd (clips_succ hp)
  obtain ⟨c0, c1, c2'⟩ := (HE.out.below HX.out HHI.out).get hp
  have n1 : (0 : Int) ≤ (k : Int) := by omega
  have n2 : (k : Int) < (L.length : Int) := by omega
  obtain ⟨V, hV⟩ : ∃ V, V = clips (L.take k) := ⟨_, rfl⟩
  have HVL : Hid (V.fr.length ≤ 9000 ∧ V.tt.length ≤ 9000 ∧ (∀ x ∈ V.fr, x < 256) ∧ ∀ x ∈ V.tt, x < 256) := by
   rw [hV]
   have h1 := clips_of (P := fun l => l.length ≤ 9000) (Nat.zero_le _) (L := L.take k) (fun q hq => HLN.out q (List.mem_of_mem_take hq))
   have h2 := clips_of (P := fun l => ∀ x ∈ l, x < 256) (fun x hx => by cases hx) (L := L.take k) (fun q hq => ⟨(HE.out.each q (List.mem_of_mem_take hq)).frb, (HE.out.each q (List.mem_of_mem_take hq)).ttb⟩)
   exact ⟨h1.1, h1.2, h2.1, h2.2⟩
  rw [← hV] at HTV HRB HSU
  clear hp hlt hk hV
  obtain ⟨q1, hq1⟩ : ∃ q1, q1 = wq.alloc (.cells #[.slice p.2.frA p.1.fr.length p.2.frc, .slice p.2.ttA p.1.tt.length p.2.ttc, .bool p.1.en] 98) := ⟨_, rfl⟩
  have HXQ : Hid (Ext wq q1) := by rw [hq1]; exact ext_alloc _ _
  have HQB : Hid (q1.heap[wq.heap.size]? = some (.cells #[.slice p.2.frA p.1.fr.length p.2.frc, .slice p.2.ttA p.1.tt.length p.2.ttc, .bool p.1.en] 98 (0, 0))) := by rw [hq1]; exact heap_at _ _ rfl
  go_upto_region 6 with (fail)
  rw [← hq1]
  clear hq1 c0 c1 c2'
  obtain ⟨xb, hxb⟩ : ∃ xb, xb = wq.heap.size := ⟨_, rfl⟩
  rw [← hxb] at HQB ⊢
  clear hxb
  have r0 := cell_of HQB.out (k := 0) rfl
  have r1 := cell_of HQB.out (k := 1) rfl
  have r2 := cell_of HQB.out (k := 2) rfl
  obtain ⟨fA, fc, tA, tc, hb, hf, ht, hz⟩ := HRB.out.ext HXQ.out
  have HRBQ : Hid (RBox w.heap.size A n c V vb q1) := HRB.out.ext HXQ.out
  have s0 := cell_of hb (k := 0) rfl
  have s1 := cell_of hb (k := 1) rfl
  have s2 := cell_of hb (k := 2) rfl
  have s3 := cell_of hb (k := 3) rfl
  have HTVQ := zHd (HTV.out.ext HXQ.out)
  have HXW : Hid (Ext w q1) := zEt HX.out HXQ.out
  have HPA := zHd (HE.out.each p HMEM.out)
  have HCP : Hid (∀ u, Ext q1 u → Calls Tryz.prog 33 #[.pointer (some ⟨g, 0, none⟩), .slice p.2.frA p.1.fr.length p.2.frc, .slice p.2.ttA p.1.tt.length p.2.ttc, .bool p.1.en] u (ClipAns u C Ls V.fr V.tt p.1.fr p.1.tt V.en p.1.en)) := fun u hu => by
   have hwu : Ext w u := zEt HXW.out hu
   have hl := HLN.out p HMEM.out
   exact clip_any (HTVQ.out.ext hu) ((HPA.out.fr.below hwu HHI.out).wide (Nat.zero_le _) (zNt HHI.out hwu.size)) HPA.out.frb ((HPA.out.tt.below hwu HHI.out).wide (Nat.zero_le _) (zNt HHI.out hwu.size)) HPA.out.ttb (by omega) (by omega)
  have HCR : Hid (∀ u, Ext q1 u → Calls Tryz.prog 51 #[.agg #[.slice A n c, .slice fA V.fr.length fc, .slice tA V.tt.length tc, .bool V.en], .slice p.2.frA p.1.fr.length p.2.frc, .slice p.2.ttA p.1.tt.length p.2.ttc, .bool p.1.en] u (RClipAns u w.heap.size A n c V.fr V.tt p.1.fr p.1.tt V.en p.1.en)) := fun u hu => by
   have hwu : Ext w u := zEt HXW.out hu
   have hl := HLN.out p HMEM.out
   have hv := HVL.out
   exact rvclip_any (hf.below hu hz) hv.2.2.1 (ht.below hu hz) hv.2.2.2 ((HPA.out.fr.below hwu HHI.out).wide (Nat.zero_le _) HHI.out) HPA.out.frb ((HPA.out.tt.below hwu HHI.out).wide (Nat.zero_le _) HHI.out) HPA.out.ttb hwu.size (by omega) (by omega) (by omega) (by omega)
  have HHB := zHd hb
  have HB0Q := zHd (ext_heap HXQ.out HB0.out)
  clear hb hf ht hz
  obtain ⟨V2, hV2⟩ : ∃ V2, V2 = clip1 V p.1 := ⟨_, rfl⟩
  have HV2 := zHd hV2
  clear hV2
  refine flow_last (by kernel_rfl) [Is (.pointer (some ⟨g, 0, none⟩)), Is (.pointer (some ⟨xb, 0, none⟩)), Is (.slice p.2.frA p.1.fr.length p.2.frc), Is (.pointer (some ⟨xb, 1, none⟩)), Is (.slice p.2.ttA p.1.tt.length p.2.ttc), Is (.pointer (some ⟨xb, 2, none⟩)), Is (.bool p.1.en), ViewF C Ls V2.fr V2.tt V2.en, Is (.agg #[.slice A n c, .slice fA V.fr.length fc, .slice tA V.tt.length tc, .bool V.en]), Is (.pointer (some ⟨xb, 0, none⟩)), Is (.slice p.2.frA p.1.fr.length p.2.frc), Is (.pointer (some ⟨xb, 1, none⟩)), Is (.slice p.2.ttA p.1.tt.length p.2.ttc), Is (.pointer (some ⟨xb, 2, none⟩)), Is (.bool p.1.en), RVal w.heap.size A n c V2, ViewF C Ls V2.fr V2.tt V2.en] 17 _ (by kernel_rfl) (by kernel_rfl) rfl rfl (by kernel_rfl) ?mono (fun f1 => ?obl) ?fin
  case mono =>
   simp only [List.forall_mem_cons, List.not_mem_nil, false_imp_iff, implies_true, and_true]
   exact ⟨.is _, .is _, .is _, .is _, .is _, .is _, .is _, viewF_mono _ _ _ _ _, .is _, .is _, .is _, .is _, .is _, .is _, .is _, RVal.mono _ _ _ _ _, viewF_mono _ _ _ _ _⟩
  case fin =>
   intro g1 u hu hg
   simp only [List.take_succ_cons, List.take_zero, puts, Act.put, zq]
   obtain ⟨g2, h16, htv2⟩ : ViewF C Ls V2.fr V2.tt V2.en (g1 16) u := hg 16 (by decide)
   obtain ⟨fA2, fc2, tA2, tc2, h15, hf2, ht2, hz2⟩ : RVal w.heap.size A n c V2 (g1 15) u := hg 15 (by decide)
   rw [h15, h16]
   have HXU : Hid (Ext q1 u) := zEt (Ext.drew q1) hu
   have HTV2' := zHd htv2
   have HF2 := zHd (And.intro hf2 (And.intro ht2 hz2))
   have HU := zHd (ext_heap HXU.out HHB.out)
   have HSM := zHd ((HRBQ.out.ext HXU.out).small)
   have t0 := cell_of HU.out (k := 0) rfl
   have t1 := cell_of HU.out (k := 1) rfl
   have t2 := cell_of HU.out (k := 2) rfl
   have t3 := cell_of HU.out (k := 3) rfl
   have z0 := frozen_four (j := 0) HU.out
   have z1 := frozen_four (j := 1) HU.out
   have z2 := frozen_four (j := 2) HU.out
   have z3 := frozen_four (j := 3) HU.out
   clear h15 h16 htv2 hf2 ht2 hz2 hg hu r0 r1 r2 s0 s1 s2 s3
   go_simp
   go_wp2_with fail
   go_roundw
   case rel =>
    have hS := chg_four vb u (.slice A n c) (.slice fA2 V2.fr.length fc2) (.slice tA2 V2.tt.length tc2) (.bool V2.en)
    have hsz : ((((u.setCell ⟨vb, 0, none⟩ (.slice A n c)).setCell ⟨vb, 1, none⟩ (.slice fA2 V2.fr.length fc2)).setCell ⟨vb, 2, none⟩ (.slice tA2 V2.tt.length tc2)).setCell ⟨vb, 3, none⟩ (.bool V2.en)).heap.size = u.heap.size := by simp [World.setCell]
    refine ⟨k + 1, g2, rfl, by go_num, HLT.out, ?_, ?_, ?_, ?_⟩
    · rw [HSU.out, ← HV2.out]; exact HTV2'.out.off HSM.out hS hsz
    · rw [HSU.out, ← HV2.out]; exact ⟨fA2, fc2, tA2, tc2, set_four HU.out, HF2.out.1.setFour (Nat.le_of_lt HVB.out), HF2.out.2.1.setFour (Nat.le_of_lt HVB.out), by rw [hsz]; exact HF2.out.2.2⟩
    · exact Below.trans (zEt HXW.out HXU.out) (hS.below (fun i hi => by rw [hi]; exact Nat.le_of_lt HVB.out) (zEt HXW.out HXU.out).size)
    · exact (hS.block _ (zAg.1 (ext_heap HXU.out HB0Q.out)).1 (fun e => by have := HVB.out; omega)).trans (ext_heap HXU.out HB0Q.out)
   case measure => have := HLT.out; simp [intOf]; omega
  case obl =>
   refine ⟨fun u hu hd => ?_, fun u hu hd => ?_, fun u hu hd => ?_, fun u hu hd => ?_, fun u hu hd => ?_, fun u hu hd => ?_, fun u hu hd => ?_, fun u hu hd => ?_, fun u hu hd => ?_, fun u hu hd => ?_, fun u hu hd => ?_, fun u hu hd => ?_, fun u hu hd => ?_, fun u hu hd => ?_, fun u hu hd => ?_, fun u hu hd => ?_, fun u hu hd => ?_, trivial⟩
   all_goals try simp only [Act.put, zq]
   · go_simp
     exact zEr
   · go_simp
     exact zEr
   · have e1 : f1 1 = _ := hd 1 (by kernel_rfl)
     have hu2 := zEt (Ext.drew q1) hu
     have q0 := ext_cell hu2 r0
     go_simp
     exact zEr
   · go_simp
     exact zEr
   · have e3 : f1 3 = _ := hd 3 (by kernel_rfl)
     have hu2 := zEt (Ext.drew q1) hu
     have q0 := ext_cell hu2 r1
     go_simp
     exact zEr
   · go_simp
     exact zEr
   · have e5 : f1 5 = _ := hd 5 (by kernel_rfl)
     have hu2 := zEt (Ext.drew q1) hu
     have q0 := ext_cell hu2 r2
     go_simp
     exact zEr
   · have e0 : f1 0 = _ := hd 0 (by kernel_rfl)
     have e2 : f1 2 = _ := hd 2 (by kernel_rfl)
     have e4 : f1 4 = _ := hd 4 (by kernel_rfl)
     have e6 : f1 6 = _ := hd 6 (by kernel_rfl)
     have hu2 := zEt (Ext.drew q1) hu
     go_simp
     refine (HCP.out u hu2).mono ?_
     rintro x9 w9 ⟨hx9, g9, rfl, ht9⟩
     exact ⟨_, rfl, hx9, g9, rfl, by rw [HV2.out]; exact ht9⟩
   · have hu2 := zEt (Ext.drew q1) hu
     have q0 := ext_cell hu2 s0
     have q1 := ext_cell hu2 s1
     have q2 := ext_cell hu2 s2
     have q3 := ext_cell hu2 s3
     go_simp
     exact zEr
   · go_simp
     exact zEr
   · have e9 : f1 9 = _ := hd 9 (by kernel_rfl)
     have hu2 := zEt (Ext.drew q1) hu
     have q0 := ext_cell hu2 r0
     go_simp
     exact zEr
   · go_simp
     exact zEr
   · have e11 : f1 11 = _ := hd 11 (by kernel_rfl)
     have hu2 := zEt (Ext.drew q1) hu
     have q0 := ext_cell hu2 r1
     go_simp
     exact zEr
   · go_simp
     exact zEr
   · have e13 : f1 13 = _ := hd 13 (by kernel_rfl)
     have hu2 := zEt (Ext.drew q1) hu
     have q0 := ext_cell hu2 r2
     go_simp
     exact zEr
   · have e8 : f1 8 = _ := hd 8 (by kernel_rfl)
     have e10 : f1 10 = _ := hd 10 (by kernel_rfl)
     have e12 : f1 12 = _ := hd 12 (by kernel_rfl)
     have e14 : f1 14 = _ := hd 14 (by kernel_rfl)
     have hu2 := zEt (Ext.drew q1) hu
     go_simp
     refine (HCR.out u hu2).mono ?_
     rintro x9 w9 ⟨hx9, fA9, fc9, tA9, tc9, rfl, h1, h2⟩
     exact ⟨_, rfl, hx9, fA9, fc9, tA9, tc9, by rw [HV2.out]; exact rfl, by rw [HV2.out]; exact h1, by rw [HV2.out]; exact h2, zNt HXW.out.size (zNt hu2.size hx9.size)⟩
   · have h7 : ViewF C Ls V2.fr V2.tt V2.en (f1 7) u := hd 7 (by kernel_rfl)
     go_simp
     exact ⟨Ext.refl _, h7⟩
theorem rise_pair {L : List Ent} (h : Rise L) : L.Pairwise (fun a b => cmpE a b < 0) := by
 rw [List.pairwise_iff_getElem]
 intro i j hi hj hij
 exact rise_at h hij (List.getElem?_eq_getElem hi) (List.getElem?_eq_getElem hj)
theorem view_last {fr tt : List Nat} {en : Bool} {L : List Ent} (h : Rise L) {e : Ent} (he : (inV fr tt en L).getLast? = some e) {x : Ent} (hx : x ∈ inV fr tt en L) : cmpK x.key e.key ≤ 0 := by
 have hp : (inV fr tt en L).Pairwise (fun a b => cmpE a b < 0) := (rise_pair h).filter _
 obtain ⟨ys, hys⟩ := List.getLast?_eq_some_iff.1 he
 rw [hys] at hp hx
 rcases List.mem_append.1 hx with hx | hx
 · exact cmpE_keys ((List.pairwise_append.1 hp).2.2 x hx e (List.mem_singleton.2 rfl))
 · rw [List.mem_singleton] at hx; subst hx; rw [cmpK_self]; exact Int.le_refl _
theorem clipF_le (fr k x : List Nat) : cmpK (clipF fr k) x ≤ 0 ↔ cmpK fr x ≤ 0 ∧ cmpK k x ≤ 0 := by
 unfold clipF
 split
 · rename_i h
   exact ⟨fun h2 => ⟨cmpK_le_trans (by omega) h2, h2⟩, fun h2 => h2.2⟩
 · rename_i h
   refine ⟨fun h2 => ⟨h2, cmpK_le_trans ?_ h2⟩, fun h2 => h2.1⟩
   have := cmpK_turn fr k
   omega
theorem inV_clip (fr tt k : List Nat) (en : Bool) (L : List Ent) : inV (clipF fr k) tt en L = (inV fr tt en L).filter (fun e => decide (cmpK k e.key ≤ 0)) := by
 unfold inV
 rw [List.filter_filter]
 congr 1
 funext e
 unfold hasV
 have h := clipF_le fr k e.key
 by_cases h1 : cmpK fr e.key ≤ 0
 · by_cases h2 : cmpK k e.key ≤ 0
   · rw [decide_eq_true h1, decide_eq_true h2, decide_eq_true (h.2 ⟨h1, h2⟩)]; simp
   · rw [decide_eq_true h1, decide_eq_false h2, decide_eq_false (fun h3 => h2 (h.1 h3).2)]; simp
 · rw [decide_eq_false h1, decide_eq_false (fun h3 => h1 (h.1 h3).1)]; simp
theorem last_filter {α : Type} {l : List α} {p : α → Bool} (h : ∀ e, l.getLast? = some e → p e = true) : (l.filter p).getLast? = l.getLast? := by
 rcases hl : l.getLast? with _ | e
 · rw [List.getLast?_eq_none_iff] at hl; subst hl; rfl
 · obtain ⟨ys, hys⟩ := List.getLast?_eq_some_iff.1 hl
   rw [hys, List.filter_append]
   have h1 : [e].filter p = [e] := by simp [h e hl]
   rw [h1]
   simp
theorem near_last {C : List (List Ent)} {fr tt k : List Nat} {en : Bool} {n : Nat} (hc : Cuts C) (hr : Rise C.flatten) (hm : ∀ e ∈ C.flatten, e.may = true) (hn : EndAt C tt en n) (hk : k = (((pls C)[n - 1]?).map fun p => if n = 0 then [] else p.key).getD []) :
    (inV (clipF fr k) tt en C.flatten).getLast? = (inV fr tt en C.flatten).getLast? := by
 rw [inV_clip]
 refine last_filter fun e he => ?_
 rw [decide_eq_true_eq]
 rcases n with _ | n
 · have hk0 : k = [] := by rw [hk]; cases (pls C)[0 - 1]? <;> rfl
   rw [hk0, cmpK_nil]
   split <;> omega
 · have hnl : n < C.length := by
     unfold EndAt at hn
     cases en with
     | true => rw [if_pos rfl] at hn; have := hn.le; rw [List.length_map, pls_length] at this; omega
     | false => rw [if_neg (by decide)] at hn; omega
   have hq : C[n]? = some C[n] := List.getElem?_eq_getElem hnl
   obtain ⟨f, f1, f2, _⟩ := last_at hc hq
   have hkf : k = f.key := by
    rw [hk, Nat.add_sub_cancel, pls_at hq]
    simp [plOf, f1]
   have hfm : f ∈ C.flatten := List.mem_of_getElem? f2
   have hne : endsV tt en f.key = false := by
    unfold endsV
    cases en with
    | false => rfl
    | true =>
     unfold EndAt at hn
     rw [if_pos rfl] at hn
     obtain ⟨y, hy⟩ : ∃ y, ((pls C).map lastE)[n]? = some y := ⟨_, List.getElem?_eq_getElem (by have := hn.le; omega)⟩
     obtain ⟨f', k1, _, _, k3⟩ := pls_lastE hc hm hy
     rw [f2] at k1
     injection k1 with k1
     have hlo := hn.lo n y (by omega) hy
     rw [(k3 _).1, ← k1] at hlo
     obtain ⟨_, _, _, m4, _⟩ := mayN_iff.1 (hm f hfm)
     have hlt : cmpK f.key tt < 0 := by
      unfold cmpE at hlo
      split at hlo
      · unfold cmpS at hlo
        dsimp only at hlo
        rw [if_neg (by omega)] at hlo
        split at hlo <;> omega
      · exact hlo
     have := cmpK_turn f.key tt
     rw [Bool.true_and]
     exact decide_eq_false (by omega)
   rw [hkf]
   by_cases hv : hasV fr tt en f.key = true
   · exact view_last hr he (List.mem_filter.2 ⟨hfm, hv⟩)
   · have hev := (List.mem_filter.1 (List.mem_of_getLast? he)).2
     unfold hasV at hv hev
     rw [hne] at hv
     simp only [Bool.not_false, Bool.and_true, decide_eq_true_eq] at hv
     simp only [Bool.and_eq_true, decide_eq_true_eq] at hev
     have := cmpK_turn fr f.key
     exact cmpK_le_trans (by omega) hev.1
end Go.Proofs.YtkdidghfcfcpfaaGreat
