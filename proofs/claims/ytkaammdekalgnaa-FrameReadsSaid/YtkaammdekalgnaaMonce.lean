/- Going over the frames, up to a number of them, and holding them against others. -/
import Derived.Test.YtkaammdekalgnaaMall
import Derived.Test.YtkaammdekalgnaaMknown
namespace Go.Proofs.Ytkaammdekalgnaa
open Go.RowKit Go.Shelf
attribute [local go_sem] Oper.semAt_some

theorem tboolinfo : (Try.prog.info? 4).map (fun i => (i.zero, i.size, i.bytes)) = some (some (.bool false), 1, 1) := by kernel_rfl
theorem results_cell_bool {fn : Func} {p : Tmp} (h : fn.results = #[.cell p 4]) (tmps : Array Value) (w : World) (g : Nat) (z : Bool) (hp : tmps.getD p undef = .pointer (some ⟨g, 0, none⟩)) (hc : w.cell? ⟨g, 0, none⟩ = some (.bool z)) :
    (results fn tmps).run Try.prog w = .ok (.bool z) w := by
  simp only [results, h]
  have hp' : tmps[p]?.getD undef = .pointer (some ⟨g, 0, none⟩) := by simpa using hp
  simp [Sem.run_bind, hp', go_sem, hc]

theorem func_some (g : Nat) (w : World) : (binOp .eql 54 (.func (.func 39) #[] #[.pointer (some ⟨g, 0, none⟩)]) .nilFunc).run Try.prog w = .ok (.bool false) w := by kernel_rfl

/-- Between two rounds. -/
structure OnceI (w w2 : World) (lo2 hi2 : Nat) (most : Int) (va vl : Value) (n₁ k : Nat) (A : World) : Prop where
  bn : Boxed A (w.heap.size + 4) 3 (.int .i64 (k : Int))
  br : Boxed A (w.heap.size + 3) 4 (.bool false)
  bm : Boxed A (w.heap.size + 2) 3 (.int .i64 most)
  bl : Boxed A (w.heap.size + 1) 33 vl
  ba : Boxed A w.heap.size 32 va
  below : Below w.heap.size w A
  kept : Kept lo2 hi2 (w.heap.size + 5) (w.heap.size + 5) w2 A
  le : n₁ ≤ A.heap.size
  size : w2.heap.size ≤ A.heap.size

theorem OnceI.chg {w w2 : World} {hi2 : Nat} {most : Int} {va vl : Value} {n₁ k : Nat} {A A' : World} (h : OnceI w w2 (w.heap.size + 6) hi2 most va vl n₁ k A) (hz : w.heap.size + 6 ≤ w2.heap.size) (_hw : w.heap.size ≤ w2.heap.size) (hc : Chg (Btw w2.heap.size n₁) A A') : OnceI w w2 (w.heap.size + 6) hi2 most va vl n₁ k A' := by
  obtain ⟨h1, h2, h3, h4, h5, h6, h7, h8, h9⟩ := h
  have no : ∀ i, i < w2.heap.size → ¬ Btw w2.heap.size n₁ i := fun i hi hb => by have := hb.1; omega
  exact ⟨boxed_chg h1 hc (no _ (by omega)), boxed_chg h2 hc (no _ (by omega)), boxed_chg h3 hc (no _ (by omega)), boxed_chg h4 hc (no _ (by omega)), boxed_chg h5 hc (no _ (by omega)),
    h6.trans (hc.below (fun i hi => by have := hi.1; omega) h6.size), fun i hm hl => (hc.block i (Nat.lt_of_lt_of_le hl h9) (no i hl)).trans (h7 i hm hl), Nat.le_trans h8 hc.size, Nat.le_trans h9 hc.size⟩

set_option maxRecDepth 100000 in
set_option maxHeartbeats 8000000 in
theorem once_any {w : World} {lo hi B : Nat} {v : Value} {b : List Nat} {Aa Al : Option Addr} {ca cl : Nat} (hv : Bs w lo hi v b) (hhi : hi ≤ w.heap.size) (hb : ∀ x ∈ b, x < 256) (hlen : b.length ≤ 100000) (most : Int)
    (hf : Fr w B (frs b 0) (.slice Aa (frs b 0).length ca) (.slice Al (frs b 0).length cl)) :
    Calls Try.prog 17 #[v, .slice Aa (frs b 0).length ca, .slice Al (frs b 0).length cl, .int .i64 most] w fun e w' => e = .returned (.bool true) ∧ Below w.heap.size w w' := by
  have HV := Lib.hid hv
  have HHI := Lib.hid hhi
  have HBB := Lib.hid hb
  have HF := Lib.hid hf
  have HLEN := Lib.hid hlen
  obtain ⟨A, c, rfl, q1, q2, q3, _⟩ := hv
  obtain ⟨N, hN⟩ : ∃ N, N = (frs b 0).length := ⟨_, rfl⟩
  have HN : Hid (N = (frs b 0).length) := hN
  rw [← hN]
  rw [← hN] at HF
  clear hN hf q1 q2 q3 hlen hb hhi
  have hf1 : Fence.wide.fn 30 := trivial
  refine (callsIn_wide (n := 6)).1 ?_
  refine callsIn_of_wp_marks Try.func17 rfl trivial ?_
  simp only [Try.ntmps17, List.size_toArray, List.length_cons, List.length_nil, Nat.reduceAdd, Nat.reduceSub, Array.replicate_succ, Array.replicate_zero, List.push_toArray, List.append_toArray, List.nil_append, List.cons_append]
  gi_wp2_with fail
  obtain ⟨w1, hw1⟩ : ∃ w1, w1 = ((((w.alloc (.cells #[.slice Aa N ca] 32)).alloc (.cells #[.slice Al N cl] 33)).alloc (.cells #[.int .i64 most] 3)).alloc (.cells #[.bool false] 4)).alloc (.cells #[.int .i64 0] 3) := ⟨_, rfl⟩
  rw [← hw1]
  have HX1 : Hid (Ext w w1) := by rw [hw1]; exact Ext.trans (Ext.trans (Ext.trans (Ext.trans (ext_alloc _ _) (ext_alloc _ _)) (ext_alloc _ _)) (ext_alloc _ _)) (ext_alloc _ _)
  have HZ1 : Hid (w1.heap.size = w.heap.size + 5) := by rw [hw1]; simp [Hid]
  have HC0 : Hid (Boxed w1 w.heap.size 32 (.slice Aa N ca)) := by rw [hw1]; exact ext_heap (Ext.trans (Ext.trans (Ext.trans (ext_alloc _ _) (ext_alloc _ _)) (ext_alloc _ _)) (ext_alloc _ _)) (heap_at _ _ rfl)
  have HC1 : Hid (Boxed w1 (w.heap.size + 1) 33 (.slice Al N cl)) := by rw [hw1]; exact ext_heap (Ext.trans (Ext.trans (ext_alloc _ _) (ext_alloc _ _)) (ext_alloc _ _)) (heap_at _ _ (by simp))
  have HC2 : Hid (Boxed w1 (w.heap.size + 2) 3 (.int .i64 most)) := by rw [hw1]; exact ext_heap (Ext.trans (ext_alloc _ _) (ext_alloc _ _)) (heap_at _ _ (by simp))
  have HC3 : Hid (Boxed w1 (w.heap.size + 3) 4 (.bool false)) := by rw [hw1]; exact ext_heap (ext_alloc _ _) (heap_at _ _ (by simp))
  have HC4 : Hid (Boxed w1 (w.heap.size + 4) 3 (.int .i64 0)) := by rw [hw1]; exact heap_at _ _ (by simp)
  clear hw1
  refine (callsIn_wide.2 (all_any (HV.out.below HX1.out HHI.out) (Nat.le_trans HHI.out HX1.out.size) (by have := HLEN.out; omega))).mono ?_
  rintro e w2 ⟨A2, c2, rfl, hcell2, ho2, hb2⟩
  rw [HZ1.out] at hcell2 ho2
  rw [HZ1.out]
  have HX2 : Hid (Ext w1 w2) := hb2
  have HO2 := Lib.hid ho2
  have HK2 := Lib.hid hcell2
  have HX12 : Hid (Ext w w2) := Ext.trans HX1.out HX2.out
  clear hb2 ho2 hcell2
  have hfn := func_some (w.heap.size + 5) w2
  gi_wp2_with fail
  have HZ2 : Hid (w.heap.size + 6 ≤ w2.heap.size) := by
    have h1 := World.block_lt_of_cell? w2 _ HK2.out
    have h2 : w.heap.size + 5 < w2.heap.size := h1
    exact h2
  have HI0 : Hid (∀ A, Ext w2 A → OnceI w w2 (w.heap.size + 6) w2.heap.size most (.slice Aa N ca) (.slice Al N cl) A.heap.size 0 A) := fun A hx =>
    ⟨ext_heap (Ext.trans HX2.out hx) HC4.out, ext_heap (Ext.trans HX2.out hx) HC3.out, ext_heap (Ext.trans HX2.out hx) HC2.out, ext_heap (Ext.trans HX2.out hx) HC1.out, ext_heap (Ext.trans HX2.out hx) HC0.out, Ext.trans HX12.out hx, fun i _ hl => hx.block i hl, Nat.le_refl _, hx.size⟩
  refine wpIn_over rfl enters_all (all_iter (lo := w.heap.size + 6) (hi := w2.heap.size) (show Bs w2 (w.heap.size + 6) w2.heap.size (.slice A2 b.length c2) b from Own.bs HO2.out) (Nat.le_refl _) HBB.out HK2.out) (fun _ => rfl) (OnceI w w2 (w.heap.size + 6) w2.heap.size most (.slice Aa N ca) (.slice Al N cl)) (fun c A => c = .ret ∧ Boxed A (w.heap.size + 3) 4 (.bool true) ∧ Below w.heap.size w A) (fun _ _ _ h => h.kept) ?hI ?hIx (fun A hx => HI0.out A hx) ?round ?done ?stop
  case hI => intro n₁ k A A' _ hi hc; exact hi.chg HZ2.out HX12.out.size hc
  case hIx =>
    rintro c A A' ⟨rfl, hb, hbel⟩ hc
    exact ⟨rfl, boxed_chg hb hc (fun h => by have h : w2.heap.size ≤ _ := h; have := HZ2.out; omega), hbel.trans (hc.below (fun i h => by have h : w2.heap.size ≤ i := h; have := HZ2.out; omega) hbel.size)⟩
  case round =>
    rintro l n₁ k ⟨m, A', n', c'⟩ A hl1 hl2 hn hnA hi hk ⟨p, hok, hpl, hps⟩
    have hpl' : n' = p.length := hpl
    subst hpl'
    have hok' : (frs b 0)[k]? = some (m, p) := hok
    have hps' : Own n₁ p (.slice A' p.length c') A := hps
    have HI := Lib.hid hi
    have HN1 := Lib.hid hn
    have HL := Lib.hid (And.intro hl1 hl2)
    have HKN : Hid (k < N) := by rw [HN.out]; exact hk
    have HOK := Lib.hid hok'
    have HPS := Lib.hid hps'
    clear hok hok' hpl hps hps' hi hn hl1 hl2 hk hnA
    dsimp only [eachV]
    gi_wp2
    refine ⟨Step.refl _ _ _, fun A2w hc => ?_⟩
    have HI2 := Lib.hid (HI.out.chg HZ2.out HX12.out.size (hc.mono fun i _ e => ⟨by have := HL.out.1; omega, by have := HL.out.2; omega⟩))
    have HOP : Hid (Own n₁ p (.slice A' p.length c') A2w) := row_chg HPS.out hc (fun i h1 h2 => by have := HL.out.2; omega)
    have HFR : Hid (Fr A2w B (frs b 0) (.slice Aa N ca) (.slice Al N cl)) := HF.out.below HI2.out.below
    have HBN : Hid (Boxed A2w (w.heap.size + 4) 3 (.int .i64 (k : Int))) := HI2.out.bn
    have HBL : Hid (Boxed A2w (w.heap.size + 1) 33 (.slice Al N cl)) := HI2.out.bl
    have HBAA : Hid (Boxed A2w w.heap.size 32 (.slice Aa N ca)) := HI2.out.ba
    have HT1 : Hid (decide ((N : Int) ≤ (k : Int)) = false) := by have := HKN.out; unfold Hid; simp; omega
    have HT1n : Hid (decide (N ≤ k) = false) := by have := HKN.out; unfold Hid; simp; omega
    have HKI : Hid ((k : Int) < (N : Int)) := by have := HKN.out; unfold Hid; omega
    have hat := HFR.out.at_
    rw [← HN.out] at hat
    obtain ⟨g1, rfl⟩ : ∃ g1, Aa = some ⟨g1, 0, none⟩ := by
      obtain ⟨g, hg, _⟩ := row_at (k := k) hat (by rw [iv, List.length_map, ← HN.out]; exact HKN.out)
      exact ⟨g, hg⟩
    have hca : A2w.cell? ⟨g1, k, none⟩ = some (.int .i64 (m : Int)) := by
      rw [hat.cellAt k (by have := HKN.out; omega), iv, List.getElem?_map, HOK.out]; rfl
    obtain ⟨vs, hvs, hpay⟩ := HFR.out.pay
    rw [← HN.out] at hvs
    have hkv : k < vs.length := by have := hvs.1; have := HKN.out; omega
    obtain ⟨g2, rfl⟩ : ∃ g2, Al = some ⟨g2, 0, none⟩ := by
      obtain ⟨g, hg, _⟩ := row_at (k := k) hvs hkv
      exact ⟨g, hg⟩
    obtain ⟨y, hy, hoy⟩ := hpay k vs[k] (List.getElem?_eq_getElem hkv)
    rw [HOK.out] at hy
    injection hy with hy
    subst hy
    have hcl : A2w.cell? ⟨g2, k, none⟩ = some vs[k] := by rw [hvs.cellAt k (by have := HKN.out; omega), List.getElem?_eq_getElem hkv]
    obtain ⟨vk, hvk⟩ : ∃ vk, vk = vs[k] := ⟨_, rfl⟩
    rw [← hvk] at hoy hcl
    have hoy2 : Own B p vk A2w := hoy
    have hoy3 := hoy2
    obtain ⟨Av, cv1, rfl, _, _, _, _⟩ := Sl.of_own hoy2
    have HOV : Hid (Own B p (.slice Av p.length cv1) A2w) := hoy3
    have HCA : Hid (∀ u, Ext A2w u → u.cell? ⟨g1, k, none⟩ = some (.int .i64 (m : Int))) := fun u hu => ext_cell hu hca
    have HCL : Hid (∀ u, Ext A2w u → u.cell? ⟨g2, k, none⟩ = some (.slice Av p.length cv1)) := fun u hu => ext_cell hu hcl
    clear hat hca hvs hpay hvk hoy hoy2 hoy3 hcl hc
    gi_wp2_with fail
    have HMIX : Try.prog.follows .mixedOrders = true := by kernel_rfl
    refine flow_in HMIX (by kernel_rfl) (fun _ _ h => h) [Is (.int .i64 (k : Int)), Is (.slice (some ⟨g2, 0, none⟩) N cl), Is (.int .i64 (N : Int)), Is (.bool false), Is (.bool false), Is (.int .i64 (m : Int)), Is (.slice (some ⟨g1, 0, none⟩) N ca), Is (.int .i64 (k : Int)), Is (.pointer (some ⟨g1, k, none⟩)), Is (.int .i64 (m : Int)), Is (.bool false), Is (.bool false), Is (.bool false), Is (.slice A' p.length c'), Is (.string (tx p)), Is (.slice (some ⟨g2, 0, none⟩) N cl), Is (.int .i64 (k : Int)), Is (.pointer (some ⟨g2, k, none⟩)), Is (.slice Av p.length cv1), Is (.string (tx p)), Is (.bool false), Is (.bool false)] (by kernel_rfl) (by kernel_rfl) ?mono (fun f => ?obl) ?fin
    case mono =>
      simp only [List.forall_mem_cons, List.not_mem_nil, false_imp_iff, implies_true, and_true]
      exact ⟨.is _, .is _, .is _, .is _, .is _, .is _, .is _, .is _, .is _, .is _, .is _, .is _, .is _, .is _, .is _, .is _, .is _, .is _, .is _, .is _, .is _, .is _⟩
    case fin =>
      intro g u hu hg
      simp only [puts, Act.put, List.setIfInBounds_toArray, List.set_cons_zero, List.set_cons_succ]
      have h21 : g 21 = .bool false := hg 21 (by decide)
      rw [h21]
      have HXU : Hid (Ext A2w u) := (Ext.drew A2w).trans hu
      have HIU : Hid (OnceI w w2 (w.heap.size + 6) w2.heap.size most (.slice (some ⟨g1, 0, none⟩) N ca) (.slice (some ⟨g2, 0, none⟩) N cl) n₁ k u) := HI2.out.chg HZ2.out HX12.out.size (Chg.of_ext HXU.out)
      clear hg hu
      have q4 := HIU.out.bn.cell
      have f4 := HIU.out.bn.frozen
      have q2 := HIU.out.bm.cell
      have q3 := HIU.out.br.cell
      have f3 := HIU.out.br.frozen
      have HK1 : Hid (wrap64 ((k : Int) + 1) = ((k + 1 : Nat) : Int)) := by have h1 := HKN.out; have h2 := HN.out; have h3 := frs_len b; have h4 := HLEN.out; unfold Hid wrap64; omega
      gi_wp2_with fail
      all_goals rw [HK1.out]
      all_goals first
        | (have hcc : Chg (fun i => i = w.heap.size + 4 ∨ i = w.heap.size + 3) A2w ((u.setCell ⟨w.heap.size + 4, 0, none⟩ (.int .i64 ((k + 1 : Nat) : Int))).setCell ⟨w.heap.size + 3, 0, none⟩ (.bool true)) := (Chg.of_ext HXU.out).trans ((Chg.setCell _ _ _ (.inl rfl)).trans (Chg.setCell _ _ _ (.inr rfl)))
           refine ⟨Step.of_chg hcc HI2.out.le (fun i h1 _ hs => by have := HZ2.out; rcases hs with hs | hs <;> omega), rfl, Boxed.set _ (boxed_far HIU.out.br (by simp) _), HI2.out.below.trans (hcc.below (fun i hs => by rcases hs with hs | hs <;> omega) HI2.out.below.size)⟩)
        | (have hcc : Chg (fun i => i = w.heap.size + 4 ∨ i = w.heap.size + 3) A2w (u.setCell ⟨w.heap.size + 4, 0, none⟩ (.int .i64 ((k + 1 : Nat) : Int))) := (Chg.of_ext HXU.out).trans (Chg.setCell _ _ _ (.inl rfl))
           refine ⟨Step.of_chg hcc HI2.out.le (fun i h1 _ hs => by have := HZ2.out; rcases hs with hs | hs <;> omega), ⟨Boxed.set _ HIU.out.bn, boxed_far HIU.out.br (by simp) _, boxed_far HIU.out.bm (by simp) _, boxed_far HIU.out.bl (by simp) _, boxed_far HIU.out.ba (show w.heap.size ≠ w.heap.size + 4 by omega) _, HI2.out.below.trans (hcc.below (fun i hs => by rcases hs with hs | hs <;> omega) HI2.out.below.size), fun i hm hl => ?_, Nat.le_trans HI2.out.le hcc.size, Nat.le_trans HI2.out.size hcc.size⟩⟩
           refine (hcc.block i (Nat.lt_of_lt_of_le hl HI2.out.size) (fun hs => ?_)).trans (HI2.out.kept i hm hl)
           have h6 : w.heap.size + 5 ≤ i := by rcases hm with ⟨h, _⟩ | h | h <;> omega
           rcases hs with hs | hs <;> omega)
    case obl =>
      refine ⟨fun u hu hd => ?_, ?_⟩
      · try simp only [Act.put, List.setIfInBounds_toArray, List.set_cons_zero, List.set_cons_succ]
        have hc := ext_cell ((Ext.drew A2w).trans hu) HBN.out.cell
        go_simp
        exact ⟨Ext.refl _, rfl⟩
      refine ⟨fun u hu hd => ?_, ?_⟩
      · simp only [Act.put, List.setIfInBounds_toArray, List.set_cons_zero, List.set_cons_succ]
        have hc := ext_cell ((Ext.drew A2w).trans hu) HBL.out.cell
        go_simp
        exact ⟨Ext.refl _, rfl⟩
      refine ⟨fun u hu hd => ?_, ?_⟩
      · simp only [Act.put, List.setIfInBounds_toArray, List.set_cons_zero, List.set_cons_succ]
        have e1 : f 1 = (.slice (some ⟨g2, 0, none⟩) N cl) := hd 1 (by kernel_rfl)
        go_simp
        exact ⟨Ext.refl _, rfl⟩
      refine ⟨fun u hu hd => ?_, ?_⟩
      · simp only [Act.put, List.setIfInBounds_toArray, List.set_cons_zero, List.set_cons_succ]
        have e0 : f 0 = (.int .i64 (k : Int)) := hd 0 (by kernel_rfl)
        have e2 : f 2 = (.int .i64 (N : Int)) := hd 2 (by kernel_rfl)
        have hq := HT1.out
        have hq2 := HT1n.out
        go_simp
        exact ⟨Ext.refl _, rfl⟩
      refine ⟨fun u hu hd => ?_, ?_⟩
      · simp only [Act.put, List.setIfInBounds_toArray, List.set_cons_zero, List.set_cons_succ]
        have e3 : f 3 = (.bool false) := hd 3 (by kernel_rfl)
        go_simp
        exact ⟨Ext.refl _, rfl⟩
      refine ⟨fun u hu hd => ?_, ?_⟩
      · simp only [Act.put, List.setIfInBounds_toArray, List.set_cons_zero, List.set_cons_succ]
        have e4 : f 4 = (.bool false) := hd 4 (by kernel_rfl)
        go_simp
        exact ⟨Ext.refl _, rfl⟩
      refine ⟨fun u hu hd => ?_, ?_⟩
      · simp only [Act.put, List.setIfInBounds_toArray, List.set_cons_zero, List.set_cons_succ]
        have e4 : f 4 = (.bool false) := hd 4 (by kernel_rfl)
        have hc := ext_cell ((Ext.drew A2w).trans hu) HBAA.out.cell
        go_simp
        exact ⟨Ext.refl _, rfl⟩
      refine ⟨fun u hu hd => ?_, ?_⟩
      · simp only [Act.put, List.setIfInBounds_toArray, List.set_cons_zero, List.set_cons_succ]
        have e4 : f 4 = (.bool false) := hd 4 (by kernel_rfl)
        have hc := ext_cell ((Ext.drew A2w).trans hu) HBN.out.cell
        go_simp
        exact ⟨Ext.refl _, rfl⟩
      refine ⟨fun u hu hd => ?_, ?_⟩
      · simp only [Act.put, List.setIfInBounds_toArray, List.set_cons_zero, List.set_cons_succ]
        have e4 : f 4 = (.bool false) := hd 4 (by kernel_rfl)
        have e6 : f 6 = (.slice (some ⟨g1, 0, none⟩) N ca) := hd 6 (by kernel_rfl)
        have e7 : f 7 = (.int .i64 (k : Int)) := hd 7 (by kernel_rfl)
        have hi := HKI.out
        go_simp
        exact ⟨Ext.refl _, rfl⟩
      refine ⟨fun u hu hd => ?_, ?_⟩
      · simp only [Act.put, List.setIfInBounds_toArray, List.set_cons_zero, List.set_cons_succ]
        have e4 : f 4 = (.bool false) := hd 4 (by kernel_rfl)
        have e8 : f 8 = (.pointer (some ⟨g1, k, none⟩)) := hd 8 (by kernel_rfl)
        have hc := HCA.out u ((Ext.drew A2w).trans hu)
        go_simp
        exact ⟨Ext.refl _, rfl⟩
      refine ⟨fun u hu hd => ?_, ?_⟩
      · simp only [Act.put, List.setIfInBounds_toArray, List.set_cons_zero, List.set_cons_succ]
        have e4 : f 4 = (.bool false) := hd 4 (by kernel_rfl)
        have e5 : f 5 = (.int .i64 (m : Int)) := hd 5 (by kernel_rfl)
        have e9 : f 9 = (.int .i64 (m : Int)) := hd 9 (by kernel_rfl)
        have hq : ((m : Int) != (m : Int)) = false := by simp
        go_simp
        exact ⟨Ext.refl _, rfl⟩
      refine ⟨fun u hu hd => ?_, ?_⟩
      · simp only [Act.put, List.setIfInBounds_toArray, List.set_cons_zero, List.set_cons_succ]
        have e4 : f 4 = (.bool false) := hd 4 (by kernel_rfl)
        have e10 : f 10 = (.bool false) := hd 10 (by kernel_rfl)
        go_simp
        exact ⟨Ext.refl _, rfl⟩
      refine ⟨fun u hu hd => ?_, ?_⟩
      · simp only [Act.put, List.setIfInBounds_toArray, List.set_cons_zero, List.set_cons_succ]
        have e11 : f 11 = (.bool false) := hd 11 (by kernel_rfl)
        go_simp
        exact ⟨Ext.refl _, rfl⟩
      refine ⟨fun u hu hd => ?_, ?_⟩
      · simp only [Act.put, List.setIfInBounds_toArray, List.set_cons_zero, List.set_cons_succ]
        have e12 : f 12 = (.bool false) := hd 12 (by kernel_rfl)
        go_simp
        exact ⟨Ext.refl _, rfl⟩
      refine ⟨fun u hu hd => ?_, ?_⟩
      · simp only [Act.put, List.setIfInBounds_toArray, List.set_cons_zero, List.set_cons_succ]
        have e12 : f 12 = (.bool false) := hd 12 (by kernel_rfl)
        have e13 : f 13 = (.slice A' p.length c') := hd 13 (by kernel_rfl)
        have hc := cv (Own.bs (HOP.out.below ((Ext.drew A2w).trans hu)))
        go_simp
        exact ⟨Ext.refl _, rfl⟩
      refine ⟨fun u hu hd => ?_, ?_⟩
      · simp only [Act.put, List.setIfInBounds_toArray, List.set_cons_zero, List.set_cons_succ]
        have e12 : f 12 = (.bool false) := hd 12 (by kernel_rfl)
        have hc := ext_cell ((Ext.drew A2w).trans hu) HBL.out.cell
        go_simp
        exact ⟨Ext.refl _, rfl⟩
      refine ⟨fun u hu hd => ?_, ?_⟩
      · simp only [Act.put, List.setIfInBounds_toArray, List.set_cons_zero, List.set_cons_succ]
        have e12 : f 12 = (.bool false) := hd 12 (by kernel_rfl)
        have hc := ext_cell ((Ext.drew A2w).trans hu) HBN.out.cell
        go_simp
        exact ⟨Ext.refl _, rfl⟩
      refine ⟨fun u hu hd => ?_, ?_⟩
      · simp only [Act.put, List.setIfInBounds_toArray, List.set_cons_zero, List.set_cons_succ]
        have e12 : f 12 = (.bool false) := hd 12 (by kernel_rfl)
        have e15 : f 15 = (.slice (some ⟨g2, 0, none⟩) N cl) := hd 15 (by kernel_rfl)
        have e16 : f 16 = (.int .i64 (k : Int)) := hd 16 (by kernel_rfl)
        have hi := HKI.out
        go_simp
        exact ⟨Ext.refl _, rfl⟩
      refine ⟨fun u hu hd => ?_, ?_⟩
      · simp only [Act.put, List.setIfInBounds_toArray, List.set_cons_zero, List.set_cons_succ]
        have e12 : f 12 = (.bool false) := hd 12 (by kernel_rfl)
        have e17 : f 17 = (.pointer (some ⟨g2, k, none⟩)) := hd 17 (by kernel_rfl)
        have hc := HCL.out u ((Ext.drew A2w).trans hu)
        go_simp
        exact ⟨Ext.refl _, rfl⟩
      refine ⟨fun u hu hd => ?_, ?_⟩
      · simp only [Act.put, List.setIfInBounds_toArray, List.set_cons_zero, List.set_cons_succ]
        have e12 : f 12 = (.bool false) := hd 12 (by kernel_rfl)
        have e18 : f 18 = (.slice Av p.length cv1) := hd 18 (by kernel_rfl)
        have hc := cv (Own.bs (HOV.out.below ((Ext.drew A2w).trans hu)))
        go_simp
        exact ⟨Ext.refl _, rfl⟩
      refine ⟨fun u hu hd => ?_, ?_⟩
      · simp only [Act.put, List.setIfInBounds_toArray, List.set_cons_zero, List.set_cons_succ]
        have e12 : f 12 = (.bool false) := hd 12 (by kernel_rfl)
        have e14 : f 14 = (.string (tx p)) := hd 14 (by kernel_rfl)
        have e19 : f 19 = (.string (tx p)) := hd 19 (by kernel_rfl)
        have hq : ((tx p).toList == (tx p).toList) = true := by simp
        go_simp
        exact ⟨Ext.refl _, rfl⟩
      refine ⟨fun u hu hd => ?_, ?_⟩
      · simp only [Act.put, List.setIfInBounds_toArray, List.set_cons_zero, List.set_cons_succ]
        have e12 : f 12 = (.bool false) := hd 12 (by kernel_rfl)
        have e20 : f 20 = (.bool false) := hd 20 (by kernel_rfl)
        go_simp
        exact ⟨Ext.refl _, rfl⟩
      trivial
  case done =>
    rintro D' n₁ W' hDl hDn hn hi hD
    rw [← HN.out] at hi
    have HI := Lib.hid hi
    have HDL := Lib.hid hDl
    have HDD := Lib.hid hD
    have q4 := hi.bn.cell
    have q1 := hi.bl.cell
    have q3 := hi.br.cell
    have f3 := hi.br.frozen
    have heq : ((N : Int) == (N : Int)) = true := by simp
    clear hDl hDn hn hi hD
    gi_wp2
    have hne : D' ≠ w.heap.size + 3 := by have h1 := HDL.out; have h2 := HZ2.out; omega
    have HD2 : Hid ((W'.setCell ⟨w.heap.size + 3, 0, none⟩ (.bool true)).heap[D']? = some (.deferred (some []))) := (heap_setCell_other W' ⟨w.heap.size + 3, 0, none⟩ D' _ hne).trans HDD.out
    have HBR : Hid (Boxed (W'.setCell ⟨w.heap.size + 3, 0, none⟩ (.bool true)) (w.heap.size + 3) 4 (.bool true)) := Boxed.set _ HI.out.br
    have HBW : Hid (Below w.heap.size w (W'.setCell ⟨w.heap.size + 3, 0, none⟩ (.bool true))) := Below.setCell HI.out.below (show w.heap.size ≤ w.heap.size + 3 by omega) _
    refine ⟨by simp, .inl ⟨_, _, rfl, run_takeDeferred HD2.out, ?_⟩⟩
    refine ⟨_, results_cell_bool Try.results17 _ _ (w.heap.size + 3) true rfl (Boxed.cell (boxed_chg HBR.out (putObj_chg _ D' _) (fun e => hne e.symm))), ⟨rfl, ?_⟩⟩
    exact HBW.out.trans ((putObj_chg _ D' _).below (fun i e => by have h1 := HDL.out; have h2 := HZ2.out; omega) HBW.out.size)
  case stop =>
    rintro D' c W' hDl ⟨rfl, hbr, hbel⟩ hD
    have HDL := Lib.hid hDl
    have HBR := Lib.hid hbr
    have HBW := Lib.hid hbel
    have HDD := Lib.hid hD
    clear hDl hbr hbel hD
    gi_wp2
    have hne : D' ≠ w.heap.size + 3 := by have h1 := HDL.out; have h2 := HZ2.out; omega
    refine ⟨by simp, .inl ⟨_, _, rfl, run_takeDeferred HDD.out, ?_⟩⟩
    refine ⟨_, results_cell_bool Try.results17 _ _ (w.heap.size + 3) true rfl (Boxed.cell (boxed_chg HBR.out (putObj_chg _ D' _) (fun e => hne e.symm))), ⟨rfl, ?_⟩⟩
    exact HBW.out.trans ((putObj_chg _ D' _).below (fun i e => by have h1 := HDL.out; have h2 := HZ2.out; omega) HBW.out.size)
end Go.Proofs.Ytkaammdekalgnaa
