/- Yonce Ybatch Ygood Ypush JModd Ybat Ordb, joined. -/
import Derived.Test.YtgflhbpmkcggnaaMa10
import Derived.Test.YtgflhbpmkcggnaaMa5
import Derived.Test.YtgflhbpmkcggnaaMa8
import Derived.Test.YtgflhbpmkcggnaaMa7
import Derived.Test.YtgflhbpmkcggnaaMa6
import Derived.Test.YtgflhbpmkcggnaaMa4
import Derived.Test.YtgflhbpmkcggnaaMa2
import Derived.Test.YtgflhbpmkcggnaaMa1

/- The law's once. -/
namespace Go.Proofs.Ytgflhbpmkcggnaa
open Go.ChangeShapes Go.WideShapes Go.ChangeAt Go.RowKit Go.Shelf
attribute [local go_sem] Oper.semAt_some

theorem bsize (w : World) : (sizeOf (Try.prog.elem 26)).run Try.prog w = .ok 2 w := by kernel_rfl
/-- A piece of a row of batches. -/
theorem bslice_run (A : Option Addr) (n c k j : Nat) (hkj : k ≤ j) (hjn : j ≤ n) (hc : n ≤ c) (w : World) :
    (Instr.slice 26 (.slice A n c) (some (.int .i64 (k : Int))) (some (.int .i64 (j : Int))) none).run Try.prog w = .ok (.slice (if c = k then A else A.map (·.add (k * 2))) (j - k) (c - k)) w := by
  have he : Try.prog.underlying 26 = some (.slice (Try.prog.elem 26)) := by kernel_rfl
  rw [run_slice_lh w 26 A n c he .i64 .i64 (k : Int) (j : Int) (by omega) (by omega) (by omega), bsize w]
  simp [Result.andThen, sliced]
theorem bslice_one (b o n c k : Nat) (hk : k < n) (hc : n ≤ c) (w : World) :
    (Instr.slice 26 (.slice (some ⟨b, o, none⟩) n c) (some (.int .i64 (k : Int))) (some (.int .i64 ((k + 1 : Nat) : Int))) none).run Try.prog w = .ok (.slice (some ⟨b, o + k * 2, none⟩) 1 (c - k)) w := by
  rw [bslice_run _ n c k (k + 1) (by omega) (by omega) hc w, if_neg (by omega)]
  simp [addr_add]
/-- One of a row. -/
theorem Bts.one {w : World} {lo hi b o : Nat} {x : Bx} (h0 : w.cell? ⟨b, o, none⟩ = some (.int .i64 x.idx)) (h1 : w.cell? ⟨b, o + 1, none⟩ = some (.slice x.A x.L.length x.c)) (hm : Bm w lo hi x) (hhi : hi ≤ w.heap.size) : Bts w 0 w.heap.size (some ⟨b, o, none⟩) [x] := by
  refine ⟨.inr ⟨b, o, rfl, Nat.zero_le _, World.block_lt_of_cell? w _ h0, fun i u hu => ?_⟩, fun y hy => ?_⟩
  · match i, hu with
    | 0, hu => simp [brow, bcells] at hu; subst hu; exact h0
    | 1, hu => simp [brow, bcells] at hu; subst hu; exact h1
    | (n + 2), hu => simp [brow, bcells] at hu
  · rw [List.mem_singleton] at hy; subst hy; exact hm.wide (Nat.zero_le _) hhi
/-- A row of one batch, made new. -/
def LitB (x : Bx) (v : Value) (u : World) : Prop := ∃ g, v = .slice (some ⟨g, 0, none⟩) 1 1 ∧ u.heap[g]? = some (.cells #[.int .i64 x.idx, .slice x.A x.L.length x.c] 24 (0, 0))
theorem Mono.litB (x : Bx) : Mono (LitB x) := fun _ _ _ ⟨g, h1, h2⟩ hu => ⟨g, h1, ext_heap hu h2⟩
theorem after_some (g h : Nat) (w : World) : (binOp .eql 76 (.func (.func 71) #[] #[.pointer (some ⟨g, 0, none⟩), .pointer (some ⟨h, 0, none⟩)]) .nilFunc).run Try.prog w = .ok (.bool false) w := by kernel_rfl

/-- Between two rounds. -/
structure OnceI (w w3 : World) (X : Option Addr) (N c : Nat) (most : Int) (n₁ k : Nat) (A : World) : Prop where
  stay : Stay (w.heap.size + 4) w3.heap.size w3 A
  below : Below w.heap.size w A
  num : Boxed A (w.heap.size + 3) 3 (.int .i64 (k : Int))
  res : Boxed A (w.heap.size + 2) 4 (.bool false)
  most : Boxed A (w.heap.size + 1) 3 (.int .i64 most)
  want : Boxed A w.heap.size 26 (.slice X N c)
  z3 : w3.heap.size ≤ A.heap.size
  z1 : n₁ ≤ A.heap.size
theorem OnceI.chg {w w3 : World} {X : Option Addr} {N c : Nat} {most : Int} {n₁ n₂ k : Nat} {A A' : World} {S : Nat → Prop} (h : OnceI w w3 X N c most n₁ k A) (hz : w.heap.size + 4 ≤ w3.heap.size) (hc : Chg S A A') (hS : ∀ i, S i → w3.heap.size ≤ i) (hn : n₂ ≤ n₁) : OnceI w w3 X N c most n₂ k A' :=
  ⟨h.stay.trans fun i _ h2 => hc.block i (Nat.lt_of_lt_of_le h2 h.z3) (fun hb => by have := hS i hb; omega), h.below.trans (hc.below (fun i hb => by have := hS i hb; omega) h.below.size), boxed_chg h.num hc (fun hb => by have := hS _ hb; omega), boxed_chg h.res hc (fun hb => by have := hS _ hb; omega),
    boxed_chg h.most hc (fun hb => by have := hS _ hb; omega), boxed_chg h.want hc (fun hb => by have := hS _ hb; omega), Nat.le_trans h.z3 hc.size, Nat.le_trans hn (Nat.le_trans h.z1 hc.size)⟩

set_option maxRecDepth 100000 in
set_option maxHeartbeats 16000000 in
theorem once_any {w : World} {lo0 hi0 lo2 hi2 c2 : Nat} {v : Value} {b : List Nat} {R : List (Nat × Bat)} {i : Int} {X : Option Addr} {L2 : List Bx} (hv : Bs w lo0 hi0 v b) (hhi : hi0 ≤ w.heap.size) (hb : ∀ x ∈ b, x < 256) (hlen : b.length ≤ 1000000000000) (hR : Batl (Fm.frs b 0) 0 R)
    (h2 : Bts w lo2 hi2 X L2) (hhi2 : hi2 ≤ w.heap.size) (hc2 : L2.length ≤ c2) (hl2 : L2.length ≤ 1000000000000) (hfit : L2.map Bx.bat = (behindR i R).map Prod.snd) (most : Int) :
    Calls Try.prog 21 #[v, .int .i64 i, .slice X L2.length c2, .int .i64 most] w fun e w' => e = .returned (.bool true) ∧ Below w.heap.size w w' := by
  obtain ⟨w1, hw1⟩ : ∃ w1, w1 = (((w.alloc (.cells #[.slice X L2.length c2] 26)).alloc (.cells #[.int .i64 most] 3)).alloc (.cells #[.bool false] 4)).alloc (.cells #[.int .i64 0] 3) := ⟨_, rfl⟩
  have HX1 : Hid (Ext w w1) := by rw [hw1]; exact Ext.trans (Ext.trans (Ext.trans (ext_alloc _ _) (ext_alloc _ _)) (ext_alloc _ _)) (ext_alloc _ _)
  have HZ1 : Hid (w1.heap.size = w.heap.size + 4) := by rw [hw1]; simp [Hid]
  have HB0 : Hid (Boxed w1 w.heap.size 26 (.slice X L2.length c2)) := by rw [hw1]; exact ext_heap (Ext.trans (Ext.trans (ext_alloc _ _) (ext_alloc _ _)) (ext_alloc _ _)) (heap_at _ _ rfl)
  have HB1 : Hid (Boxed w1 (w.heap.size + 1) 3 (.int .i64 most)) := by rw [hw1]; exact ext_heap (Ext.trans (ext_alloc _ _) (ext_alloc _ _)) (heap_at _ _ (by simp))
  have HB2 : Hid (Boxed w1 (w.heap.size + 2) 4 (.bool false)) := by rw [hw1]; exact ext_heap (ext_alloc _ _) (heap_at _ _ (by simp))
  have HB3 : Hid (Boxed w1 (w.heap.size + 3) 3 (.int .i64 0)) := by rw [hw1]; exact heap_at _ _ (by simp)
  have HAF := Lib.hid (after_any (hv.below HX1.out hhi) (Nat.le_trans hhi HX1.out.size) hlen i)
  have HE2 := Lib.hid h2
  have HHI2 := Lib.hid hhi2
  have HL2 := Lib.hid hl2
  have HC2 := Lib.hid hc2
  have HFIT := Lib.hid hfit
  have HBB := Lib.hid hb
  have HBL := Lib.hid hlen
  have HRR := Lib.hid hR
  have hlI : (L2.length : Int) ≤ 1000000000000 := by omega
  obtain ⟨vA, vc, rfl, _, _, _, _⟩ := hv
  clear hhi hb hlen hR h2 hhi2 hl2 hc2 hfit
  have hf1 : Fence.wide.fn 44 := trivial
  have hf2 : Fence.wide.fn 15 := trivial
  refine (callsIn_wide (n := 6)).1 ?_
  refine callsIn_of_wp_marks Try.func21 rfl trivial ?_
  simp only [Try.ntmps21, List.size_toArray, List.length_cons, List.length_nil, Nat.reduceAdd, Nat.reduceSub, Array.replicate_succ, Array.replicate_zero, List.push_toArray, List.append_toArray, List.nil_append, List.cons_append]
  gi_wp2_with fail
  rw [← hw1]
  clear hw1
  refine (callsIn_wide.2 HAF.out).mono ?_
  rintro x w3 ⟨lo, hi, bd, fb, ib, Ab, nb, cb, rfl, hs, hx3, hlo, hbd, hfb, hib⟩
  have HS := Lib.hid hs
  have HX3 := Lib.hid hx3
  have HLO := Lib.hid (And.intro hlo (And.intro hbd (And.intro hfb hib)))
  have hfn := after_some fb ib
  have HLEN : Hid ((behindR i R).length = L2.length) := by have := congrArg List.length HFIT.out; rw [List.length_map, List.length_map] at this; exact this.symm
  have HZ3 : Hid (w.heap.size + 4 ≤ w3.heap.size) := by have := HZ1.out; have := HX3.out.size; unfold Hid; omega
  have HC1 : Hid (∀ A : World, Stay (w.heap.size + 4) w3.heap.size w3 A → KeptA lo hi bd fb ib w3 A) := fun A hs j hj hlt => by
    refine hs j ?_ hlt
    have h1 := HLO.out
    have h2 := HZ1.out
    rcases hj with ⟨h, _⟩ | h | h | h <;> omega
  clear hs hx3 hlo hbd hfb hib HAF
  gi_wp2_with fail
  clear hfn
  refine wpIn_overB rfl enters_after (after_iter HS.out HBB.out HBL.out HRR.out) (fun _ => rfl) (OnceI w w3 X L2.length c2 most) (fun n₁ c A => c = .ret ∧ ∃ A0, OnceI w w3 X L2.length c2 most 0 0 A0 ∧ False ∨ (Below w.heap.size w A ∧ Boxed A (w.heap.size + 2) 4 (.bool true) ∧ w3.heap.size ≤ A.heap.size)) (fun _ _ _ h => HC1.out _ h.stay) ?hI ?hIx ?h0 ?round ?done ?stop
  case hI =>
    intro n₁ k A1 A2 hn hi hc
    exact hi.chg HZ3.out hc (fun i hb => hb.1) (Nat.le_refl _)
  case hIx =>
    rintro n₁ c A1 A2 hn ⟨rfl, A0, (⟨_, h⟩ | ⟨h1, h2, h3⟩)⟩ hc
    · exact h.elim
    · have z := HZ3.out
      exact ⟨rfl, A0, .inr ⟨h1.trans (hc.below (fun i hb => by have := hb.1; omega) h1.size), boxed_chg h2 hc (fun hb => by have := hb.1; omega), Nat.le_trans h3 hc.size⟩⟩
  case h0 =>
    intro A1 hx
    have hxx := Ext.trans HX3.out hx
    exact ⟨fun i _ h2 => hx.block i h2, Ext.trans HX1.out hxx, ext_heap hxx HB3.out, ext_heap hxx HB2.out, ext_heap hxx HB1.out, ext_heap hxx HB0.out, hx.size, Nat.le_refl _⟩
  case round =>
    rintro l2 n₁ k ⟨xi, eA, ec, lx⟩ A1 hl1 hl2 hn hnA hi hk ⟨r, hr, hr2, hg⟩
    have HG := Lib.hid hg
    have HI1 := Lib.hid hi
    have HN1 := Lib.hid hn
    have HL12 := Lib.hid (And.intro hl1 hl2)
    have HK1 := Lib.hid hk
    obtain ⟨q, hq⟩ : ∃ q, L2[k]? = some q := ⟨_, List.getElem?_eq_getElem (by have := HLEN.out; omega)⟩
    have heq : (⟨xi, eA, ec, lx⟩ : Bx).bat = q.bat := by
      have h1 := congrArg (fun l => l[k]?) HFIT.out
      simp only [List.getElem?_map, hr, hq, Option.map_some] at h1
      injection h1 with h1
      rw [h1, hr2]
    have HQ := Lib.hid hq
    have HEQ := Lib.hid heq
    clear hl1 hl2 hn hnA hi hk hg hr hr2 hq heq
    dsimp only [oneV, Bx.val]
    gi_wp2
    obtain ⟨A2, hA2⟩ : ∃ A2, A2 = A1.alloc (.cells #[.int .i64 xi, .slice eA lx.length ec] 24) := ⟨_, rfl⟩
    rw [← hA2]
    have HX2 : Hid (Ext A1 A2) := by rw [hA2]; exact ext_alloc _ _
    have HBE : Hid (A2.heap[A1.heap.size]? = some (.cells #[.int .i64 xi, .slice eA lx.length ec] 24 (0, 0))) := by rw [hA2]; exact heap_at _ _ rfl
    clear hA2
    refine ⟨Step.of_chg (S := fun _ => False) (Chg.of_ext HX2.out) HI1.out.z1 (fun _ _ _ h => h), fun A3 hc => ?_⟩
    have HCH : Hid (Chg (fun i => i = l2) A1 A3) := (Chg.of_ext HX2.out).trans hc
    have HI3 : Hid (OnceI w w3 X L2.length c2 most n₁ k A3) := HI1.out.chg HZ3.out HCH.out (fun i hb => by have := HL12.out.1; omega) (Nat.le_refl _)
    have HG3 : Hid (Gb n₁ ⟨xi, eA, ec, lx⟩ A3) := HG.out.chg HCH.out (fun i h1 => .inl (by have := HL12.out.2; omega))
    have HB3' : Hid (A3.heap[A1.heap.size]? = some (.cells #[.int .i64 xi, .slice eA lx.length ec] 24 (0, 0))) :=
      (hc.block _ (Array.getElem?_eq_some_iff.1 HBE.out).1 (fun e => by have := HI1.out.z1; have := HL12.out.2; omega)).trans HBE.out
    have HE3 := Lib.hid (HE2.out.below HI3.out.below HHI2.out)
    obtain ⟨b2, o2, rfl⟩ := HE3.out.base (by have := (List.getElem?_eq_some_iff.1 HQ.out).1; omega)
    have hkl : k < L2.length := (List.getElem?_eq_some_iff.1 HQ.out).1
    obtain ⟨N, hN⟩ : ∃ N, N = L2.length := ⟨_, rfl⟩
    have hsl : ∀ u, (Instr.slice 26 (.slice (some ⟨b2, o2, none⟩) N c2) (some (.int .i64 (k : Int))) (some (.int .i64 ((k + 1 : Nat) : Int))) none).run Try.prog u = .ok (.slice (some ⟨b2, o2 + k * 2, none⟩) 1 (c2 - k)) u := fun u => bslice_one _ _ _ _ _ (by rw [hN]; exact hkl) (by rw [hN]; exact HC2.out) u
    obtain ⟨k1, hk1⟩ : ∃ k1 : Nat, k1 = k + 1 := ⟨_, rfl⟩
    have HSL : Hid (∀ u, (Instr.slice 26 (.slice (some ⟨b2, o2, none⟩) N c2) (some (.int .i64 (k : Int))) (some (.int .i64 (k1 : Int))) none).run Try.prog u = .ok (.slice (some ⟨b2, o2 + k * 2, none⟩) 1 (c2 - k)) u) := by rw [hk1]; exact hsl
    have hw1 : IntKind.i64.wrap ((k : Int) + 1) = (k1 : Int) := by rw [IntKind.wrap_i64]; omega
    have hw64 : wrap64 ((k : Int) + 1) = (k1 : Int) := by unfold wrap64; omega
    have HRS : Hid (∀ u g, Ext A3 u → u.heap[g]? = some (.cells #[.int .i64 xi, .slice eA lx.length ec] 24 (0, 0)) → Calls Try.prog 15 #[.slice (some ⟨g, 0, none⟩) 1 1, .slice (some ⟨b2, o2 + k * 2, none⟩) 1 (c2 - k)] u fun x w' => x = .returned (.bool true) ∧ Ext u w') := fun u g hu hg => by
      have hb2 : hi2 ≤ A3.heap.size := Nat.le_trans HHI2.out HI3.out.below.size
      have hE := HE3.out.below hu hb2
      obtain ⟨c0, c1⟩ := hE.get HQ.out
      have b1 : Bts u 0 u.heap.size (some ⟨g, 0, none⟩) [⟨xi, eA, ec, lx⟩] := Bts.one (x := ⟨xi, eA, ec, lx⟩) (cell_of hg (k := 0) rfl) (cell_of hg (k := 1) rfl) (HG3.out.ext hu).bm (Nat.le_refl _)
      have b2' : Bts u 0 u.heap.size (some ⟨b2, o2 + k * 2, none⟩) [q] := Bts.one c0 c1 (hE.each q (List.mem_of_getElem? HQ.out)) (Nat.le_trans hb2 hu.size)
      refine (same13_any (c := 1) (c2 := c2 - k) b1 b2' (Nat.le_refl _) (Nat.le_refl _) (by simp)).mono ?_
      rintro x w' ⟨z, hz, rfl, hx⟩
      have : z = true := hz.2 (by simp [HEQ.out])
      subst this
      exact ⟨rfl, hx⟩
    have HK11 := Lib.hid hk1
    have HNL := Lib.hid hN
    have b0 := HI3.out.num.cell
    have f0 := HI3.out.num.frozen
    have b1 := HI3.out.want.cell
    have bm := HI3.out.most.cell
    rw [← hN] at b1
    have e0 := cell_of HB3'.out (k := 0) rfl
    have e1 := cell_of HB3'.out (k := 1) rfl
    have dk : decide ((N : Int) ≤ (k : Int)) = false := by simp; omega
    have dkn : decide (N ≤ k) = false := by simp; omega
    have HKL := Lib.hid hkl
    have HMIX : Try.prog.follows .mixedOrders = true := by kernel_rfl
    clear hc hkl hsl hk1 hN
    gi_wp2
    refine flow_in HMIX (by kernel_rfl) (fun _ _ h => h) [Is (.int .i64 (k : Int)), Is (.slice (some ⟨b2, o2, none⟩) N c2), Is (.int .i64 (N : Int)), Is (.bool false), Is (.bool false), Is (.agg #[.int .i64 xi, .slice eA lx.length ec]), LitB ⟨xi, eA, ec, lx⟩, Is (.slice (some ⟨b2, o2, none⟩) N c2), Is (.int .i64 (k : Int)), Is (.int .i64 (k : Int)), Is (.int .i64 (k1 : Int)), Is (.slice (some ⟨b2, o2 + k * 2, none⟩) 1 (c2 - k)), Is (.bool true), Is (.bool false), Is (.bool false)] (by kernel_rfl) (by kernel_rfl) ?mono (fun f1 => ?obl) ?fin
    case mono =>
      simp only [List.forall_mem_cons, List.not_mem_nil, false_imp_iff, implies_true, and_true]
      exact ⟨.is _, .is _, .is _, .is _, .is _, .is _, .litB _, .is _, .is _, .is _, .is _, .is _, .is _, .is _, .is _⟩
    case fin =>
      intro g1 u hu hg
      simp only [puts, Act.put, List.setIfInBounds_toArray, List.set_cons_zero, List.set_cons_succ]
      have h14 : g1 14 = .bool false := hg 14 (by decide)
      rw [h14]
      have HU : Hid (Ext A3 u) := Ext.trans (Ext.drew A3) hu
      have b0 := ext_cell HU.out b0
      have bm := ext_cell HU.out bm
      have f0 : u.frozen? ⟨w.heap.size + 3, 0, none⟩ = false := Boxed.frozen (ext_heap HU.out HI3.out.num)
      have HR2 : Hid (Boxed u (w.heap.size + 2) 4 (.bool false)) := ext_heap HU.out HI3.out.res
      clear h14 hg hu e0 e1 b1
      have hnum : Boxed u (w.heap.size + 3) 3 (.int .i64 (k : Int)) := ext_heap HU.out HI3.out.num
      have HNM := Lib.hid hnum
      clear hnum
      by_cases hmost : (k1 : Int) = most
      · have d5 : ((k1 : Int) == most) = true := by simpa using hmost
        have r0 := (Fm.boxed_far HR2.out (p := ⟨w.heap.size + 3, 0, none⟩) (by simp) (.int .i64 (k1 : Int))).cell
        have r1 := (Fm.boxed_far HR2.out (p := ⟨w.heap.size + 3, 0, none⟩) (by simp) (.int .i64 (k1 : Int))).frozen
        have HR3 := Lib.hid (Fm.boxed_far HR2.out (p := ⟨w.heap.size + 3, 0, none⟩) (by simp) (.int .i64 (k1 : Int)))
        clear hmost
        gi_wp2_with fail
        have hS : Chg (fun i => i = w.heap.size + 3 ∨ i = w.heap.size + 2) A3 ((u.setCell ⟨w.heap.size + 3, 0, none⟩ (.int .i64 (k1 : Int))).setCell ⟨w.heap.size + 2, 0, none⟩ (.bool true)) := ((Chg.of_ext HU.out).trans (Chg.setCell _ _ _ (.inl rfl))).trans (Chg.setCell _ _ _ (.inr rfl))
        have z3 := HZ3.out
        have hi := HI3.out
        exact ⟨Step.of_chg hS hi.z1 (fun i h1 h2 h3 => by omega), rfl, A3, .inr ⟨hi.below.trans (hS.below (fun i hb => by omega) hi.below.size), HR3.out.set _, Nat.le_trans hi.z3 hS.size⟩⟩
      have d5 : ((k1 : Int) == most) = false := by simpa using hmost
      clear hmost
      gi_wp2_with fail
      have hi := HI3.out
      have hS : Chg (fun i => i = w.heap.size + 3) A3 (u.setCell ⟨w.heap.size + 3, 0, none⟩ (.int .i64 (k1 : Int))) := (Chg.of_ext HU.out).trans (Chg.setCell _ _ _ rfl)
      have z3 := HZ3.out
      rw [HK11.out] at hS ⊢
      exact ⟨Step.of_chg hS hi.z1 (fun i h1 h2 h3 => by omega), hi.stay.trans fun i h1 h2 => hS.block i (Nat.lt_of_lt_of_le h2 hi.z3) (fun hb => by omega), hi.below.trans (hS.below (fun i hb => by omega) hi.below.size), HNM.out.set _, boxed_chg hi.res hS (fun hb => by omega), boxed_chg hi.most hS (fun hb => by omega), boxed_chg hi.want hS (fun hb => by omega), Nat.le_trans hi.z3 hS.size, Nat.le_trans hi.z1 hS.size⟩
    case obl =>
      refine ⟨fun u hu hd => ?_, ?_⟩
      · have hu2 := Ext.trans (Ext.drew A3) hu
        have q0 := ext_cell hu2 b0
        go_simp
        exact ⟨Ext.refl _, rfl⟩
      refine ⟨fun u hu hd => ?_, ?_⟩
      · simp only [Act.put, List.setIfInBounds_toArray, List.set_cons_zero, List.set_cons_succ]
        have hu2 := Ext.trans (Ext.drew A3) hu
        have q0 := ext_cell hu2 b1
        go_simp
        exact ⟨Ext.refl _, rfl⟩
      refine ⟨fun u hu hd => ?_, ?_⟩
      · simp only [Act.put, List.setIfInBounds_toArray, List.set_cons_zero, List.set_cons_succ]
        have e1 : f1 1 = .slice (some ⟨b2, o2, none⟩) N c2 := hd 1 (by kernel_rfl)
        go_simp
        exact ⟨Ext.refl _, rfl⟩
      refine ⟨fun u hu hd => ?_, ?_⟩
      · simp only [Act.put, List.setIfInBounds_toArray, List.set_cons_zero, List.set_cons_succ]
        have e0 : f1 0 = .int .i64 (k : Int) := hd 0 (by kernel_rfl)
        have e2 : f1 2 = .int .i64 (N : Int) := hd 2 (by kernel_rfl)
        go_simp
        exact ⟨Ext.refl _, rfl⟩
      refine ⟨fun u hu hd => ?_, ?_⟩
      · simp only [Act.put, List.setIfInBounds_toArray, List.set_cons_zero, List.set_cons_succ]
        have e3 : f1 3 = .bool false := hd 3 (by kernel_rfl)
        go_simp
        exact ⟨Ext.refl _, rfl⟩
      refine ⟨fun u hu hd => ?_, ?_⟩
      · simp only [Act.put, List.setIfInBounds_toArray, List.set_cons_zero, List.set_cons_succ]
        have e4 : f1 4 = .bool false := hd 4 (by kernel_rfl)
        have hu2 := Ext.trans (Ext.drew A3) hu
        have q0 := ext_cell hu2 e0
        have q1 := ext_cell hu2 e1
        go_simp
        exact ⟨Ext.refl _, rfl⟩
      refine ⟨fun u hu hd => ?_, ?_⟩
      · simp only [Act.put, List.setIfInBounds_toArray, List.set_cons_zero, List.set_cons_succ]
        have e4 : f1 4 = .bool false := hd 4 (by kernel_rfl)
        have e5 : f1 5 = .agg #[.int .i64 xi, .slice eA lx.length ec] := hd 5 (by kernel_rfl)
        go_simp
        exact ⟨ext_alloc _ _, _, rfl, heap_at _ _ rfl⟩
      refine ⟨fun u hu hd => ?_, ?_⟩
      · simp only [Act.put, List.setIfInBounds_toArray, List.set_cons_zero, List.set_cons_succ]
        have e4 : f1 4 = .bool false := hd 4 (by kernel_rfl)
        have hu2 := Ext.trans (Ext.drew A3) hu
        have q0 := ext_cell hu2 b1
        go_simp
        exact ⟨Ext.refl _, rfl⟩
      refine ⟨fun u hu hd => ?_, ?_⟩
      · simp only [Act.put, List.setIfInBounds_toArray, List.set_cons_zero, List.set_cons_succ]
        have e4 : f1 4 = .bool false := hd 4 (by kernel_rfl)
        have hu2 := Ext.trans (Ext.drew A3) hu
        have q0 := ext_cell hu2 b0
        go_simp
        exact ⟨Ext.refl _, rfl⟩
      refine ⟨fun u hu hd => ?_, ?_⟩
      · simp only [Act.put, List.setIfInBounds_toArray, List.set_cons_zero, List.set_cons_succ]
        have e4 : f1 4 = .bool false := hd 4 (by kernel_rfl)
        have hu2 := Ext.trans (Ext.drew A3) hu
        have q0 := ext_cell hu2 b0
        go_simp
        exact ⟨Ext.refl _, rfl⟩
      refine ⟨fun u hu hd => ?_, ?_⟩
      · simp only [Act.put, List.setIfInBounds_toArray, List.set_cons_zero, List.set_cons_succ]
        have e4 : f1 4 = .bool false := hd 4 (by kernel_rfl)
        have e9 : f1 9 = .int .i64 (k : Int) := hd 9 (by kernel_rfl)
        go_simp
        exact ⟨Ext.refl _, rfl⟩
      refine ⟨fun u hu hd => ?_, ?_⟩
      · simp only [Act.put, List.setIfInBounds_toArray, List.set_cons_zero, List.set_cons_succ]
        have e4 : f1 4 = .bool false := hd 4 (by kernel_rfl)
        have e7 : f1 7 = .slice (some ⟨b2, o2, none⟩) N c2 := hd 7 (by kernel_rfl)
        have e8 : f1 8 = .int .i64 (k : Int) := hd 8 (by kernel_rfl)
        have e10 : f1 10 = .int .i64 (k1 : Int) := hd 10 (by kernel_rfl)
        have hsl := HSL.out
        go_simp
        exact ⟨Ext.refl _, rfl⟩
      refine ⟨fun u hu hd => ?_, ?_⟩
      · simp only [Act.put, List.setIfInBounds_toArray, List.set_cons_zero, List.set_cons_succ]
        have e4 : f1 4 = .bool false := hd 4 (by kernel_rfl)
        have e11 : f1 11 = .slice (some ⟨b2, o2 + k * 2, none⟩) 1 (c2 - k) := hd 11 (by kernel_rfl)
        obtain ⟨g, e6, hg⟩ := (show LitB ⟨xi, eA, ec, lx⟩ (f1 6) u from hd 6 (by kernel_rfl))
        have hu2 := Ext.trans (Ext.drew A3) hu
        have HRS2 := Lib.hid (HRS.out u g hu2 hg)
        clear hd hg
        go_simp
        refine HRS2.out.mono ?_
        rintro e9 w9 ⟨rfl, hx9⟩
        exact ⟨_, rfl, hx9, rfl⟩
      refine ⟨fun u hu hd => ?_, ?_⟩
      · simp only [Act.put, List.setIfInBounds_toArray, List.set_cons_zero, List.set_cons_succ]
        have e4 : f1 4 = .bool false := hd 4 (by kernel_rfl)
        have e12 : f1 12 = .bool true := hd 12 (by kernel_rfl)
        go_simp
        exact ⟨Ext.refl _, rfl⟩
      refine ⟨fun u hu hd => ?_, ?_⟩
      · simp only [Act.put, List.setIfInBounds_toArray, List.set_cons_zero, List.set_cons_succ]
        have e4 : f1 4 = .bool false := hd 4 (by kernel_rfl)
        have e13 : f1 13 = .bool false := hd 13 (by kernel_rfl)
        go_simp
        exact ⟨Ext.refl _, rfl⟩
      trivial
  case done =>
    rintro D' n₁ W' hDl hDn hn hi hD
    rw [HLEN.out] at hi
    have HDL := Lib.hid (And.intro hDl hDn)
    have HDD := Lib.hid hD
    have HI := Lib.hid hi
    have q0 := hi.num.cell
    have q1 := hi.want.cell
    have q2 := hi.res.cell
    have f2 := hi.res.frozen
    clear hDl hDn hn hi hD
    gi_wp2
    have hne : D' ≠ w.heap.size + 2 := by have h1 := HDL.out; have h2 := HZ3.out; omega
    have HD2 : Hid ((W'.setCell ⟨w.heap.size + 2, 0, none⟩ (.bool true)).heap[D']? = some (.deferred (some []))) := (Below.heap_setCell _ _ _ _ hne).trans HDD.out
    have HBR : Hid (Boxed (W'.setCell ⟨w.heap.size + 2, 0, none⟩ (.bool true)) (w.heap.size + 2) 4 (.bool true)) := HI.out.res.set _
    have HBW : Hid (Below w.heap.size w (W'.setCell ⟨w.heap.size + 2, 0, none⟩ (.bool true))) := Below.setCell HI.out.below (show w.heap.size ≤ w.heap.size + 2 by omega) _
    refine ⟨by simp, .inl ⟨_, _, rfl, run_takeDeferred HD2.out, ?_⟩⟩
    refine ⟨_, results_cell_bool Try.results21 _ _ (w.heap.size + 2) true rfl (Boxed.cell (boxed_chg HBR.out (putObj_chg _ D' _) (fun e => hne e.symm))), ⟨rfl, ?_⟩⟩
    exact HBW.out.trans ((putObj_chg _ D' _).below (fun i e => by have h1 := HDL.out; have h2 := HZ3.out; omega) HBW.out.size)
  case stop =>
    rintro D' n₁ c W' hDl hDn hn ⟨rfl, A0, (⟨_, h⟩ | ⟨h1, h2, h3⟩)⟩ hD
    · exact h.elim
    have HDL := Lib.hid hDl
    have HDD := Lib.hid hD
    have HBR := Lib.hid h2
    have HBW := Lib.hid h1
    clear hDl hD hDn hn h1 h2 h3
    gi_wp2
    have hne : D' ≠ w.heap.size + 2 := by have h1 := HDL.out; have h2 := HZ3.out; omega
    refine ⟨by simp, .inl ⟨_, _, rfl, run_takeDeferred HDD.out, ?_⟩⟩
    refine ⟨_, results_cell_bool Try.results21 _ _ (w.heap.size + 2) true rfl (Boxed.cell (boxed_chg HBR.out (putObj_chg _ D' _) (fun e => hne e.symm))), ⟨rfl, ?_⟩⟩
    exact HBW.out.trans ((putObj_chg _ D' _).below (fun i e => by have h1 := HDL.out; have h2 := HZ3.out; omega) HBW.out.size)
end Go.Proofs.Ytgflhbpmkcggnaa

/- The law's batch and num; known rows: plain mathematics. -/
namespace Go.Proofs.Ytgflhbpmkcggnaa
open Go.ChangeShapes Go.WideShapes Go.ChangeAt Go.RowKit

theorem wnum_any (n : Int) (w : World) : Calls Try.prog 16 #[.int .i64 n] w fun e w' => e = .returned (.int .i64 n) ∧ w' = w := by
  go_enter Try.func16, Try.ntmps16
  go_wp2_with fail
  go_ret
  exact ⟨rfl, rfl⟩

def bat1 : Bat := ⟨1, [⟨[97], 1, 2, []⟩]⟩
def batE (n : Int) : Bat := ⟨n, []⟩
def batA (n : Int) : Bat := ⟨n, [⟨[97], n, 2, []⟩]⟩
/-- What batch answers. -/
def BLit (w : World) (b : Bat) (e : Ending) (w' : World) : Prop := Ext w w' ∧ ∃ x : Bx, x.bat = b ∧ e = .returned x.val ∧ Bm w' w.heap.size w'.heap.size x
theorem batch_ret1 {fn : Func} {tmps : Array Value} {w : World} {g : Nat} {p : Tmp} {c : Array Value} {R : Ending → World → Prop} (hr : fn.results = #[.cell p 24]) (h2 : tmps.getD p undef = .pointer (some ⟨g, 0, none⟩))
    (hc : c.size = 2) (hg : w.heap[g]? = some (.cells c 24 (0, 0))) (h : R (.returned (.agg c)) w) : bodyPost Try.prog fn R .ret { tmps := tmps, defers := [] } w := by
  have hi : (Try.prog.info? 24).map (·.size) = some 2 := by kernel_rfl
  exact ⟨rfl, .agg c, results_cell_row hr _ _ _ _ _ _ _ h2 hg Try.underlying24 rfl (by rw [hc]; exact hi), h⟩

set_option maxRecDepth 100000 in
set_option maxHeartbeats 4000000 in
theorem batchE_any (n : Int) (h1 : -9223372036854775808 ≤ n) (h2 : n ≤ 9223372036854775807) (w : World) :
    Calls Try.prog 23 #[.int .i64 n, .string ⟨#[]⟩] w (BLit w (batE n)) := by
  obtain ⟨w1, hw1⟩ : ∃ w1, w1 = (w.alloc (.cells #[.int .i64 0, .slice none 0 0] 24)).alloc (.cells #[.int .i64 n, .slice none 0 0] 24) := ⟨_, rfl⟩
  have HX1 : Hid (Ext w w1) := by rw [hw1]; exact Ext.trans (ext_alloc _ _) (ext_alloc _ _)
  have HR1 : Hid (w1.heap[w.heap.size]? = some (.cells #[.int .i64 0, .slice none 0 0] 24 (0, 0))) := by rw [hw1]; exact ext_heap (ext_alloc _ _) (heap_at _ _ rfl)
  have HY1 : Hid (w1.heap[w.heap.size + 1]? = some (.cells #[.int .i64 n, .slice none 0 0] 24 (0, 0))) := by rw [hw1]; exact heap_at _ _ (by simp)
  have HS := Lib.hid (And.intro h1 h2)
  clear h1 h2
  have q0 := cell_of HR1.out (k := 0) rfl
  have q1 := cell_of HR1.out (k := 1) rfl
  have z0 := frozen_four HR1.out (j := 0)
  have z1 := frozen_four HR1.out (j := 1)
  have y0 := cell_of HY1.out (k := 0) rfl
  have y1 := cell_of HY1.out (k := 1) rfl
  go_enter Try.func23, Try.ntmps23
  go_upto_region 2 with (fail)
  rw [← hw1]
  clear hw1
  go_wp2_with fail
  refine batch_ret1 (p := 4) (by kernel_rfl) rfl rfl (set_two HR1.out) ?_
  exact ⟨Below.setCell (Below.setCell HX1.out (Nat.le_refl _) _) (Nat.le_refl _) _, ⟨n, none, 0, []⟩, rfl, rfl, ⟨⟨.inl rfl, fun p hp => by cases hp⟩, HS.out.1, HS.out.2, by simp⟩⟩

set_option maxRecDepth 100000 in
set_option maxHeartbeats 4000000 in
theorem batchA_any (n : Int) (h1 : -9223372036854775808 ≤ n) (h2 : n ≤ 9223372036854775807) (w : World) :
    Calls Try.prog 23 #[.int .i64 n, .string ⟨#[97]⟩] w (BLit w (batA n)) := by
  obtain ⟨w1, hw1⟩ : ∃ w1, w1 = (w.alloc (.cells #[.int .i64 0, .slice none 0 0] 24)).alloc (.cells #[.int .i64 n, .slice none 0 0] 24) := ⟨_, rfl⟩
  have HX1 : Hid (Ext w w1) := by rw [hw1]; exact Ext.trans (ext_alloc _ _) (ext_alloc _ _)
  have HZ1 : Hid (w1.heap.size = w.heap.size + 2) := by rw [hw1]; simp [Hid]
  have HR1 : Hid (w1.heap[w.heap.size]? = some (.cells #[.int .i64 0, .slice none 0 0] 24 (0, 0))) := by rw [hw1]; exact ext_heap (ext_alloc _ _) (heap_at _ _ rfl)
  have HY1 : Hid (w1.heap[w.heap.size + 1]? = some (.cells #[.int .i64 n, .slice none 0 0] 24 (0, 0))) := by rw [hw1]; exact heap_at _ _ (by simp)
  have HS := Lib.hid (And.intro h1 h2)
  obtain ⟨A2, c2, w2, e2, x2, b2⟩ := conv_new w1 [97] (by simp) (by simp)
  have e2 : (convert 9 29 (.string ⟨#[97]⟩)).run Try.prog w1 = .ok (.slice A2 1 c2) w2 := e2
  have HX2 := Lib.hid x2
  have HK := Lib.hid b2
  clear h1 h2 x2 b2
  obtain ⟨w3, hw3⟩ : ∃ w3, w3 = w2.alloc (.cells #[.slice A2 1 c2, .int .i64 n, .int .i64 2, .slice none 0 0] 48) := ⟨_, rfl⟩
  have HX3 : Hid (Ext w2 w3) := by rw [hw3]; exact ext_alloc _ _
  have HB3 : Hid (w3.heap[w2.heap.size]? = some (.cells #[.slice A2 1 c2, .int .i64 n, .int .i64 2, .slice none 0 0] 48 (0, 0))) := by rw [hw3]; exact heap_at _ _ rfl
  have HY3 := Lib.hid (ext_heap (Ext.trans HX2.out HX3.out) HY1.out)
  have HR3 := Lib.hid (ext_heap (Ext.trans HX2.out HX3.out) HR1.out)
  have y0 := cell_of HY3.out (k := 0) rfl
  have y1 := cell_of HY3.out (k := 1) rfl
  have u0 := frozen_four HY3.out (j := 1)
  go_enter Try.func23, Try.ntmps23
  go_upto_region 2 with (fail)
  rw [← hw1]
  clear hw1
  rw [hw3] at y0 y1 u0
  go_upto_region 4 with (fail)
  rw [← hw3]
  clear hw3 e2 y0 y1 u0
  obtain ⟨w4, hw4⟩ : ∃ w4, w4 = w3.setCell ⟨w.heap.size + 1, 1, none⟩ (.slice (some ⟨w2.heap.size, 0, none⟩) 1 1) := ⟨_, rfl⟩
  rw [← hw4]
  have hz1 := HZ1.out
  have hz2 := HX2.out.size
  have HY4 : Hid (w4.heap[w.heap.size + 1]? = some (.cells #[.int .i64 n, .slice (some ⟨w2.heap.size, 0, none⟩) 1 1] 24 (0, 0))) := by rw [hw4]; unfold Hid; rw [heap_setCell_same _ (w.heap.size + 1) 1 _ _ _ HY3.out]; rfl
  have HR4 : Hid (w4.heap[w.heap.size]? = some (.cells #[.int .i64 0, .slice none 0 0] 24 (0, 0))) := by rw [hw4]; exact (Below.heap_setCell _ _ _ _ (by show w.heap.size ≠ w.heap.size + 1; omega)).trans HR3.out
  have HB4 : Hid (w4.heap[w2.heap.size]? = some (.cells #[.slice A2 1 c2, .int .i64 n, .int .i64 2, .slice none 0 0] 48 (0, 0))) := by rw [hw4]; exact (Below.heap_setCell _ _ _ _ (by show w2.heap.size ≠ w.heap.size + 1; omega)).trans HB3.out
  have HK4 : Hid (Bs w4 w1.heap.size w2.heap.size (.slice A2 1 c2) [97]) := by rw [hw4]; exact (HK.out.below HX3.out (Nat.le_refl _)).setCell (.inl (by show w.heap.size + 1 < _; omega)) _
  have HX4 : Hid (Ext w w4) := by rw [hw4]; exact Below.setCell (Ext.trans HX1.out (Ext.trans HX2.out HX3.out)) (by show w.heap.size ≤ w.heap.size + 1; omega) _
  have HZ4 : Hid (w2.heap.size < w4.heap.size) := (Array.getElem?_eq_some_iff.1 HB4.out).1
  clear hw4
  have q0 := cell_of HR4.out (k := 0) rfl
  have q1 := cell_of HR4.out (k := 1) rfl
  have z0 := frozen_four HR4.out (j := 0)
  have z1 := frozen_four HR4.out (j := 1)
  have y0 := cell_of HY4.out (k := 0) rfl
  have y1 := cell_of HY4.out (k := 1) rfl
  go_wp2_with fail
  refine batch_ret1 (p := 4) (by kernel_rfl) rfl rfl (set_two HR4.out) ?_
  refine ⟨Below.setCell (Below.setCell HX4.out (Nat.le_refl _) _) (Nat.le_refl _) _, ⟨n, some ⟨w2.heap.size, 0, none⟩, 1, [(⟨[97], n, 2, []⟩, ⟨A2, c2, none, 0⟩)]⟩, rfl, rfl, ⟨⟨.inr ⟨w2.heap.size, 0, rfl, by omega, by simpa [World.setCell] using HZ4.out, fun i u hu => ?_⟩, fun p hp => ?_⟩, HS.out.1, HS.out.2, by simp⟩⟩
  · have hb : ((w4.setCell ⟨w.heap.size, 0, none⟩ (.int .i64 n)).setCell ⟨w.heap.size, 1, none⟩ (.slice (some ⟨w2.heap.size, 0, none⟩) 1 1)).heap[w2.heap.size]? = _ := ((Below.heap_setCell _ _ _ _ (by show w2.heap.size ≠ w.heap.size; omega)).trans (Below.heap_setCell _ _ _ _ (by show w2.heap.size ≠ w.heap.size; omega))).trans HB4.out
    rw [Nat.zero_add]
    exact cell_of hb (by simpa [erow, ecells] using hu)
  · rw [List.mem_singleton] at hp
    subst hp
    have hk : Bs ((w4.setCell ⟨w.heap.size, 0, none⟩ (.int .i64 n)).setCell ⟨w.heap.size, 1, none⟩ (.slice (some ⟨w2.heap.size, 0, none⟩) 1 1)) w1.heap.size w2.heap.size (.slice A2 1 c2) [97] := (HK4.out.setCell (.inl (by show w.heap.size < _; omega)) _).setCell (.inl (by show w.heap.size < _; omega)) _
    have hz4 := HZ4.out
    exact ⟨hk.wide (by omega) (by simp [World.setCell]; omega), Bs.nil _ _ _, by simp, by simp, HS.out.1, HS.out.2, (by show (-9223372036854775808 : Int) ≤ 2; decide), (by show (2 : Int) ≤ 9223372036854775807; decide)⟩
end Go.Proofs.Ytgflhbpmkcggnaa

/- Rows of frames that are batches: plain mathematics. -/
namespace Go.Proofs.Ytgflhbpmkcggnaa

/-- They rise, and the first one is above d. -/
def Ris : Int → List Bat → Prop
  | _, [] => True
  | d, b :: bs => d < b.idx ∧ Ris b.idx bs
/-- Where they end, from k on. -/
def gl : Nat → List Bat → List (Nat × Bat)
  | _, [] => []
  | k, b :: bs => (k + (b.form.length + 8), b) :: gl (k + (b.form.length + 8)) bs
theorem gl_length : ∀ (k : Nat) (bs : List Bat), (gl k bs).length = bs.length
  | _, [] => rfl
  | k, b :: bs => by simp [gl, gl_length]
theorem gl_map : ∀ (k : Nat) (bs : List Bat), (gl k bs).map Prod.snd = bs
  | _, [] => rfl
  | k, b :: bs => by simp [gl, gl_map]
/-- The last one's place. -/
def lastI : Int → List Bat → Int
  | d, [] => d
  | _, b :: bs => lastI b.idx bs
/-- Bytes of frames around batches. -/
def logB (bs : List Bat) : List Nat := Fm.row (bs.map Bat.form)
theorem logB_nil : logB [] = [] := rfl
theorem logB_cons (b : Bat) (bs : List Bat) : logB (b :: bs) = Fm.frame b.form ++ logB bs := by simp [logB, Fm.row]
theorem logB_snoc (bs : List Bat) (b : Bat) : logB (bs ++ [b]) = logB bs ++ Fm.frame b.form := by simp [logB, Fm.row]
/-- A batch that is written. -/
structure Put1 (b : Bat) : Prop where
  may : b.may
  len : b.form.length ≤ 1048576
  byt : ∀ e ∈ b.es, (∀ x ∈ e.key, x < 256) ∧ ∀ x ∈ e.val, x < 256
theorem Put1.mayP {b : Bat} (h : Put1 b) : Fm.mayP b.form := ⟨Bat.form_pos h.may, h.len, Bat.form_lt h.byt⟩
theorem logB_lt {bs : List Bat} (h : ∀ b ∈ bs, Put1 b) : ∀ x ∈ logB bs, x < 256 := by
  refine Fm.rows_lt fun p hp => ?_
  obtain ⟨b, hb, rfl⟩ := List.mem_map.1 hp
  exact (h b hb).mayP
theorem batl_good {x : List Nat} (hx : Fm.whole1 x = none) : ∀ (bs : List Bat) (pre : List Nat) (d : Int), (∀ b ∈ bs, Put1 b) → Ris d bs → Batl (Fm.frs (pre ++ (logB bs ++ x)) pre.length) d (gl pre.length bs)
  | [], pre, d, _, _ => by
    rw [logB_nil, List.nil_append, Fm.frs_none (by rw [List.drop_left]; exact hx)]
    exact rfl
  | b :: bs, pre, d, hp, hr => by
    have h1 := hp b (List.mem_cons_self ..)
    have hw : Fm.whole1 ((pre ++ (logB (b :: bs) ++ x)).drop pre.length) = some b.form := by
      rw [List.drop_left, logB_cons, List.append_assoc]
      exact Fm.whole_frame h1.mayP _
    rw [Fm.frs_some hw]
    have ih := batl_good hx bs (pre ++ Fm.frame b.form) b.idx (fun c hc => hp c (List.mem_cons_of_mem _ hc)) hr.2
    have e1 : (pre ++ Fm.frame b.form) ++ (logB bs ++ x) = pre ++ (logB (b :: bs) ++ x) := by rw [logB_cons]; simp
    have e2 : (pre ++ Fm.frame b.form).length = pre.length + (b.form.length + 8) := by rw [List.length_append, Fm.frame_length]
    rw [e1, e2] at ih
    exact .inr ⟨b, _, ⟨h1.may, rfl⟩, hr.1, rfl, ih⟩
/-- Behind them a whole frame that is none that rises. -/
theorem batl_stop {p x : List Nat} (hm : Fm.mayP p) : ∀ (bs : List Bat) (pre : List Nat) (d : Int), (∀ b ∈ bs, Put1 b) → Ris d bs → (∀ b, IsBt p b → ¬ lastI d bs < b.idx) →
    Batl (Fm.frs (pre ++ (logB bs ++ (Fm.frame p ++ x))) pre.length) d (gl pre.length bs) ∧ bs.length < (Fm.frs (pre ++ (logB bs ++ (Fm.frame p ++ x))) pre.length).length
  | [], pre, d, _, _, hs => by
    have hw : Fm.whole1 ((pre ++ (logB [] ++ (Fm.frame p ++ x))).drop pre.length) = some p := by
      rw [List.drop_left, logB_nil, List.nil_append]
      exact Fm.whole_frame hm _
    rw [Fm.frs_some hw]
    exact ⟨.inl ⟨rfl, hs⟩, by simp⟩
  | b :: bs, pre, d, hp, hr, hs => by
    have h1 := hp b (List.mem_cons_self ..)
    have hw : Fm.whole1 ((pre ++ (logB (b :: bs) ++ (Fm.frame p ++ x))).drop pre.length) = some b.form := by
      rw [List.drop_left, logB_cons, List.append_assoc]
      exact Fm.whole_frame h1.mayP _
    rw [Fm.frs_some hw]
    have ih := batl_stop (x := x) hm bs (pre ++ Fm.frame b.form) b.idx (fun c hc => hp c (List.mem_cons_of_mem _ hc)) hr.2 hs
    have e1 : (pre ++ Fm.frame b.form) ++ (logB bs ++ (Fm.frame p ++ x)) = pre ++ (logB (b :: bs) ++ (Fm.frame p ++ x)) := by rw [logB_cons]; simp
    have e2 : (pre ++ Fm.frame b.form).length = pre.length + (b.form.length + 8) := by rw [List.length_append, Fm.frame_length]
    rw [e1, e2] at ih
    exact ⟨.inr ⟨b, _, ⟨h1.may, rfl⟩, hr.1, rfl, ih.1⟩, by simp; exact ih.2⟩
theorem endAt_gl : ∀ (k : Nat) (bs : List Bat), endAt k (gl k bs) (gl k bs).length = k + (logB bs).length
  | k, [] => by simp [gl, endAt, logB_nil]
  | k, b :: bs => by
    have h := endAt_gl (k + (b.form.length + 8)) bs
    simp only [gl, List.length_cons]
    rw [endAt_cons _ _ _ _ (Nat.le_refl _), h, logB_cons, List.length_append, Fm.frame_length]
    omega
theorem well_good {bs : List Bat} (h : ∀ b ∈ bs, Put1 b) {q : List Nat} (hq : Fm.mayP q) {j : Nat} (hj : j < q.length + 8) : wellB (logB bs ++ (Fm.frame q).take j) (gl 0 bs) = true := by
  obtain ⟨h1, _, h3⟩ := Fm.row_cut (ps := bs.map Bat.form) (fun p hp => by obtain ⟨b, hb, rfl⟩ := List.mem_map.1 hp; exact (h b hb).mayP) hq hj
  unfold wellB
  rw [show logB bs = Fm.row (bs.map Bat.form) from rfl, h1, h3, gl_length, List.length_map]
  simp
theorem small_form {b : Bat} (h : b.may) (hl : b.es.length ≤ 1) : b.form.length ≤ 65800 := by
  unfold Bat.form
  have h1 := form_len64 (Bat.may_u64 h)
  have h2 := (bytesForm_len (lform_u64 h.2.2.2 h.2.2.1)).1
  have h3 := lpre_len h.2.2.2 (by omega) b.es.length (Nat.le_refl _)
  rw [lpre_all] at h3
  have h4 : 65710 * b.es.length ≤ 65710 := by omega
  rw [List.length_append]
  omega
end Go.Proofs.Ytgflhbpmkcggnaa

/- Rows of batches that grow. -/
namespace Go.Proofs.Ytgflhbpmkcggnaa
open Go.ChangeShapes Go.WideShapes Go.ChangeAt Go.RowKit

theorem binfo : (Try.prog.info? 24).map (fun i => (i.zero, i.size, i.bytes)) = some (some (.agg #[.int .i64 0, .slice none 0 0]), 2, 32) := by kernel_rfl

/-- A row's block that bears batches bears neither entries nor bytes. -/
theorem notGot_row {u : World} {B n : Nat} {v : Value} {X : List Value} (h : u.ownsRow B 24 2 v n X) {g : Nat} (hg : v.ownBlock = some g) : NotGot u g := by
  obtain ⟨_, _, cur, hh⟩ := rowN_lt h g hg
  intro cur' t ht
  rw [hh] at ht
  injection ht with ht
  injection ht with _ h2
  subst h2
  exact ⟨by decide, by decide⟩
theorem Gb.grown {B : Nat} {x : Bx} {u w : World} {v : Value} (h : Gb B x u) (hg : u.grownBy w v.ownBlock) (hn : ∀ g, v.ownBlock = some g → NotGot u g) : Gb B x w :=
  h.chg (Chg.grown hg (S := fun g => v.ownBlock = some g) fun _ e => e) fun g e => .inr (hn g e)

/-- 'append(l, b)', within a fence. -/
theorem wpListIn_pushb {F : Fence} {nF : Nat} {ops : Array Oper} {rest : List Oper} {o : Oper} {a : Act} {Q : Exit → Act → World → Prop} {u : World} (hgd : o.guard = none) (s x : Operand)
    (ho : o.op = .call { callee := .builtin .append, args := #[s, x], argTypes := #[26, 26] }) (B : Nat) (v : Value) (X : List Bx) (hs : a.eval s = v) (hgot : Gbs B v X u)
    (p : Bx) (gb : Nat) (hx : a.eval x = .slice (some ⟨gb, 0, none⟩) 1 1) (hblk : u.heap[gb]? = some (.cells (bcells p).toArray 24 (0, 0))) (hp : Gb B p u) (hlen : X.length ≤ 1000000000000) (hB : B ≤ u.heap.size)
    (h : ∀ A' c' w', Gbs B (.slice A' (X.length + 1) c') (X ++ [p]) w' → u.grownBy w' v.ownBlock → wpListIn F nF Try.prog ops Q rest (a.put o.dst (.slice A' (X.length + 1) c')) w') :
    wpListIn F nF Try.prog ops Q (o :: rest) a u := by
  obtain ⟨i0, hi0', ix0, ix1, ix2⟩ := info_parts binfo
  refine wpListIn_append_own _ hgd s x 26 ho B 24 i0 _ 2 32 Try.underlying26 hi0' ix0 ix1 ix2 rfl (by decide) v X.length (brow X) hs hgot.row ⟨gb, 0, none⟩ 1 1 (bcells p) hx rfl (fun j q hj => ?n1) (fun q hq => ?n2) ?n3 ?n4 hB (fun v' w5 ho hgr _ => ?rest)
  case n1 => rw [addr_add, Nat.zero_add]; exact cell_of hblk (by simpa using hj)
  case n2 => exact brow_one [p] q (by simpa [brow] using hq)
  case n3 => unfold maxLen; omega
  case n4 => omega
  case rest =>
    have hke : ∀ q : Bx, Gb B q u → Gb B q w5 := fun q hq => hq.grown hgr fun g hg => notGot_row hgot.row hg
    have hgot' : Gbs B v' (X ++ [p]) w5 := by
      refine ⟨by rw [List.length_append, brow_append]; simpa [brow] using ho, fun q hq => ?_⟩
      rcases List.mem_append.1 hq with hq | hq
      · exact hke q (hgot.each q hq)
      · rw [List.mem_singleton] at hq; subst hq; exact hke q hp
    obtain ⟨A', c', rfl⟩ := rowN_slice ho
    exact h A' c' w5 hgot' hgr

/-- A row of batches that grows; what they hold lies apart from it. -/
structure Rbs (B : Nat) (v : Value) (X : List Bx) (w : World) : Prop where
  row : w.ownsRow B 24 2 v X.length (brow X)
  each : ∀ x ∈ X, ∃ lo hi, hi ≤ w.heap.size ∧ Bm w lo hi x ∧ ∀ g, v.ownBlock = some g → g < lo ∨ hi ≤ g
theorem Rbs.nil (B : Nat) (w : World) : Rbs B (.slice none 0 0) [] w := ⟨World.ownsRow_nil _ _ _ _, fun p hp => by cases hp⟩
theorem Rbs.ext {B : Nat} {v : Value} {X : List Bx} {w w' : World} (h : Rbs B v X w) (hx : Ext w w') : Rbs B v X w' :=
  ⟨rowN_kept h.row fun g hg => hx.block g (rowN_lt h.row g hg).2.1, fun x hm => by
    obtain ⟨lo, hi, h1, h2, h3⟩ := h.each x hm
    exact ⟨lo, hi, Nat.le_trans h1 hx.size, h2.ext hx h1, h3⟩⟩
theorem Rbs.bts {B c : Nat} {A : Option Addr} {X : List Bx} {w : World} (h : Rbs B (.slice A X.length c) X w) : Bts w 0 w.heap.size A X := ⟨rowB_sl h.row, fun x hx => by
  obtain ⟨lo, hi, h1, h2, _⟩ := h.each x hx
  exact h2.wide (Nat.zero_le _) h1⟩
theorem Bm.grown {w w' : World} {lo hi : Nat} {x : Bx} {row : Option Nat} (h : Bm w lo hi x) (hg : w.grownBy w' row) (hB : hi ≤ w.heap.size) (hr : ∀ k, row = some k → k < lo ∨ hi ≤ k) : Bm w' lo hi x :=
  ⟨⟨h.es.outer.grown hg hB hr, fun p hp => (h.es.each p hp).grown hg hB hr⟩, h.i1, h.i2, h.ln⟩

/-- 'append(l, b)'. -/
theorem wpList_pushb {ops : Array Oper} {rest : List Oper} {o : Oper} {a : Act} {Q : Exit → Act → World → Prop} {u : World} (hgd : o.guard = none) (s x : Operand)
    (ho : o.op = .call { callee := .builtin .append, args := #[s, x], argTypes := #[26, 26] }) (B : Nat) (v : Value) (X : List Bx) (hs : a.eval s = v) (hgot : Rbs B v X u)
    (p : Bx) (gb : Nat) (hx : a.eval x = .slice (some ⟨gb, 0, none⟩) 1 1) (hblk : u.heap[gb]? = some (.cells (bcells p).toArray 24 (0, 0)))
    (hp : ∃ lo hi, hi ≤ u.heap.size ∧ Bm u lo hi p ∧ ∀ g, v.ownBlock = some g → g < lo ∨ hi ≤ g) (hlen : X.length ≤ 1000000000000) (hB : B ≤ u.heap.size)
    (h : ∀ A' c' w', Rbs B (.slice A' (X.length + 1) c') (X ++ [p]) w' → u.grownBy w' v.ownBlock → (∀ w0, Below B w0 u → Below B w0 w') → wpList Try.prog ops Q rest (a.put o.dst (.slice A' (X.length + 1) c')) w') :
    wpList Try.prog ops Q (o :: rest) a u := by
  obtain ⟨i0, hi0', ix0, ix1, ix2⟩ := info_parts binfo
  refine wpList_append_own_at _ hgd s x 26 ho B 24 i0 _ 2 32 Try.underlying26 hi0' ix0 ix1 ix2 rfl (by decide) v X.length (brow X) hs hgot.row ⟨gb, 0, none⟩ 1 1 (bcells p) hx rfl (fun j q hj => ?n1) (fun q hq => ?n2) ?n3 ?n4 hB (fun v' w5 ho hgr _ hat => ?rest)
  case n1 => rw [addr_add, Nat.zero_add]; exact cell_of hblk (by simpa using hj)
  case n2 => exact brow_one [p] q (by simpa [brow] using hq)
  case n3 => unfold maxLen; omega
  case n4 => omega
  case rest =>
    have hlt := rowN_lt hgot.row
    have hke : ∀ q : Bx, (∃ lo hi, hi ≤ u.heap.size ∧ Bm u lo hi q ∧ ∀ g, v.ownBlock = some g → g < lo ∨ hi ≤ g) → ∃ lo hi, hi ≤ w5.heap.size ∧ Bm w5 lo hi q ∧ ∀ g, v'.ownBlock = some g → g < lo ∨ hi ≤ g := by
      rintro q ⟨lo, hi, h2, h3, h4⟩
      refine ⟨lo, hi, Nat.le_trans h2 hgr.size, h3.grown hgr h2 h4, fun g hg => ?_⟩
      rcases hat with e | e
      · exact h4 g (e ▸ hg)
      · rw [e] at hg; injection hg with hg; omega
    have hgot' : Rbs B v' (X ++ [p]) w5 := by
      refine ⟨by rw [List.length_append, brow_append]; simpa [brow] using ho, fun q hq => ?_⟩
      rcases List.mem_append.1 hq with hq | hq
      · exact hke q (hgot.each q hq)
      · rw [List.mem_singleton] at hq; subst hq; exact hke q hp
    obtain ⟨A', c', rfl⟩ := rowN_slice ho
    exact h A' c' w5 hgot' hgr (fun w0 hb => hb.grown hgr hB fun k hk => (hlt k hk).1)
end Go.Proofs.Ytgflhbpmkcggnaa

/- Whether a rest is odd; whether bytes are one frame. -/
namespace Go.Proofs.Ytgflhbpmkcggnaa.Fm
open Go.ChangeShapes Go.WideShapes Go.ChangeAt Go.RowKit

theorem fend_le (b : List Nat) : fend b 0 ≤ b.length := by
  have : ∀ (f k : Nat), k ≤ b.length → feF f b k ≤ b.length := by
    intro f
    induction f with
    | zero => intro k h; exact h
    | succ f ih =>
      intro k h
      simp only [feF]
      split
      · exact h
      · rename_i p hp
        have h2 := (whole1_spec hp).2.2.2.1
        simp only [List.length_drop] at h2
        exact ih _ (by omega)
  exact this _ 0 (Nat.zero_le _)

set_option maxRecDepth 100000 in
set_option maxHeartbeats 1000000 in
theorem odd_any {w : World} {lo hi : Nat} {v : Value} {b : List Nat} (hv : Bs w lo hi v b) (hhi : hi ≤ w.heap.size) (hb : ∀ x ∈ b, x < 256) :
    Calls Try.prog 40 #[v] w fun e w' => e = .returned (.bool (odd b)) ∧ Below w.heap.size w w' := by
  have HC := Lib.hid (count_any hv hhi hb)
  have HV := Lib.hid hv
  have HBB := Lib.hid hb
  obtain ⟨A, c, rfl, q1, q2, q3, _⟩ := hv
  have hfe := fend_le b
  obtain ⟨k, hk⟩ : ∃ k, k = fend b 0 := ⟨_, rfl⟩
  rw [← hk] at hfe
  obtain ⟨A2, hA2, hrun⟩ := drop_run A b.length c k hfe q1
  obtain ⟨l, hl⟩ : ∃ l, l = b.drop k := ⟨_, rfl⟩
  have hll : b.length - k = l.length := by rw [hl]; simp
  have hlb : ∀ x ∈ l, x < 256 := fun x hx => hb x (List.mem_of_mem_drop (by rw [← hl]; exact hx))
  have HL := Lib.hid hlb
  rw [hll] at hrun
  have HR : Hid (∀ W lo hi, Bs W lo hi (.slice A b.length c) b → Bs W lo hi (.slice A2 l.length (c - k)) l) := by
    intro W lo hi h
    have h2 := hA2 W lo hi b h
    rw [← hl, hll] at h2
    exact h2
  have HO : Hid (odd b = (decide (8 ≤ l.length) && (decide (claimed l = 0) || decide (claimed l ≤ l.length)))) := by unfold Hid odd; rw [← hk, ← hl]
  unfold CountAns at HC
  rw [← hk] at HC
  clear hb hlb hA2 hk hl q1 q2 q3 hfe
  by_cases h8 : l.length < 8
  · have hd : decide ((l.length : Int) < 8) = true := by simp; omega
    have ho : odd b = false := by rw [HO.out, decide_eq_false (p := 8 ≤ l.length) (by omega)]; rfl
    rw [ho]
    clear h8
    go_enter Try.func40, Try.ntmps40
    go_wp2_with fail
    refine HC.out.mono ?_
    rintro e w1 ⟨rfl, hb1⟩
    have HB := Lib.hid hb1
    clear hb1
    go_wp2_with fail
    go_ret
    exact ⟨rfl, HB.out⟩
  · have hd : decide ((l.length : Int) < 8) = false := by simp; omega
    obtain ⟨s, hs⟩ : ∃ s, s = claimed l := ⟨_, rfl⟩
    have ho : odd b = (decide (s = 0) || decide (s ≤ l.length)) := by rw [HO.out, decide_eq_true (p := 8 ≤ l.length) (by omega), hs]; rfl
    have HCL : Hid (∀ w1 : World, Bs w1 lo hi (.slice A2 l.length (c - k)) l → Calls Try.prog 64 #[.slice A2 l.length (c - k)] w1 fun e w' => e = .returned (.int .i64 (s : Int)) ∧ Below w1.heap.size w1 w') := fun w1 h => by rw [hs]; exact claimed_any _ _ _ l w1 h HL.out
    clear h8 hs HO
    by_cases h0 : s = 0
    · have ht : ((s : Int) == 0) = true := by simp [h0]
      have hr : odd b = true := by rw [ho]; simp [h0]
      rw [hr]
      clear h0 ho
      go_enter Try.func40, Try.ntmps40
      go_wp2_with fail
      refine HC.out.mono ?_
      rintro e w1 ⟨rfl, hb1⟩
      have HB := Lib.hid hb1
      have HR1 := Lib.hid (HR.out _ _ _ (HV.out.below hb1 hhi))
      clear hb1
      go_wp2_with fail
      refine (HCL.out w1 HR1.out).mono ?_
      rintro e w2 ⟨rfl, hb2⟩
      have HB2 := Lib.hid (HB.out.trans (hb2.mono HB.out.size))
      clear hb2
      go_wp2_with fail
      go_ret
      exact ⟨rfl, HB2.out⟩
    · have ht : ((s : Int) == 0) = false := by simp [h0]
      have hr : odd b = decide ((s : Int) ≤ (l.length : Int)) := by rw [ho]; simp [h0]
      rw [hr]
      obtain ⟨z, hz⟩ : ∃ z, decide ((s : Int) ≤ (l.length : Int)) = z := ⟨_, rfl⟩
      rw [hz]
      clear h0 ho hr
      go_enter Try.func40, Try.ntmps40
      go_wp2_with fail
      refine HC.out.mono ?_
      rintro e w1 ⟨rfl, hb1⟩
      have HB := Lib.hid hb1
      have HR1 := Lib.hid (HR.out _ _ _ (HV.out.below hb1 hhi))
      clear hb1
      go_wp2_with fail
      refine (HCL.out w1 HR1.out).mono ?_
      rintro e w2 ⟨rfl, hb2⟩
      have HB2 := Lib.hid (HB.out.trans (hb2.mono HB.out.size))
      clear hb2
      go_wp2_with fail
      go_ret
      exact ⟨by first | rfl | (rw [← hz]; simp), HB2.out⟩

/-- What One answers. -/
def OneAns (w : World) (b : List Nat) (e : Ending) (w' : World) : Prop :=
  Below w.heap.size w w' ∧ ((∃ p v, one b = some p ∧ e = .returned (.tuple #[v, .bool true]) ∧ Own w.heap.size p v w') ∨ (one b = none ∧ e = .returned (.tuple #[.slice none 0 0, .bool false])))

end Go.Proofs.Ytgflhbpmkcggnaa.Fm

/- wal's Batches. -/
namespace Go.Proofs.Ytgflhbpmkcggnaa
open Go.ChangeShapes Go.WideShapes Go.ChangeAt Go.RowKit Go.Shelf
attribute [local go_sem] Oper.semAt_some

/-- Between two rounds. -/
structure BatsI (w w2 w4 : World) (R : List (Nat × Bat)) (n₁ k : Nat) (A : World) : Prop where
  row : ∃ (V : Option Addr) (c : Nat) (X : List Bx), X.map Bx.bat = (R.take k).map Prod.snd ∧ Boxed A w.heap.size 26 (.slice V X.length c) ∧ Gbs n₁ (.slice V X.length c) X A
  num : Boxed A (w.heap.size + 1) 3 (.int .i64 (endAt 0 R k : Int))
  stay : Stay w2.heap.size w4.heap.size w4 A
  below : Below w.heap.size w A
  le : n₁ ≤ A.heap.size
  z : w4.heap.size ≤ A.heap.size
theorem BatsI.chg {w w2 w4 : World} {R : List (Nat × Bat)} {n₁ k : Nat} {A A' : World} (h : BatsI w w2 w4 R n₁ k A) (hz : w.heap.size + 2 ≤ w4.heap.size) (hc : Chg (Btw w4.heap.size n₁) A A') : BatsI w w2 w4 R n₁ k A' := by
  obtain ⟨V, c, X, h1, h2, h3⟩ := h.row
  refine ⟨⟨V, c, X, h1, boxed_chg h2 hc (fun hb => by have := hb.1; omega), ⟨rowN_kept h3.row fun g hg => hc.block g (rowN_lt h3.row g hg).2.1 fun hb => ?_, fun x hx => (h3.each x hx).chg hc fun g hg => .inl hg.2⟩⟩, boxed_chg h.num hc (fun hb => by have := hb.1; omega), fun i h1 h2 => ?_, h.below.trans (hc.below (fun i hi => by have := hi.1; omega) h.below.size), Nat.le_trans h.le hc.size, Nat.le_trans h.z hc.size⟩
  · have h4 := (rowN_lt h3.row g hg).1
    have := hb.2
    omega
  · exact (hc.block i (Nat.lt_of_lt_of_le h2 h.z) (fun hb => by have := hb.1; omega)).trans (h.stay i h1 h2)

theorem Gbs.put {B D : Nat} {v : Value} {X : List Bx} {u : World} {o : Obj} {d : Option (List Deferred)} (h : Gbs B v X u) (hd : u.heap[D]? = some (.deferred d)) : Gbs B v X (u.putObj D o) := by
  refine ⟨rowN_kept h.row fun g hg => (putObj_chg u D o).block g (rowN_lt h.row g hg).2.1 fun e => ?_, fun x hx => (h.each x hx).chg (putObj_chg u D o) fun g hg => .inr fun cur t ht => ?_⟩
  · obtain ⟨_, _, cur, hh⟩ := rowN_lt h.row g hg
    rw [e, hd] at hh
    cases hh
  · rw [hg, hd] at ht
    cases ht
/-- What Batches answers. -/
def BatsAns (w : World) (b : List Nat) (R : List (Nat × Bat)) (e : Ending) (w' : World) : Prop :=
  ∃ (X : List Bx) (A : Option Addr) (c : Nat), X.map Bx.bat = R.map Prod.snd ∧ e = .returned (.tuple #[.slice A X.length c, .int .i64 (endAt 0 R R.length : Int), .bool (wellB b R)]) ∧ Bts w' 0 w'.heap.size A X ∧ Ext w w'

set_option maxRecDepth 100000 in
set_option maxHeartbeats 16000000 in
theorem batches_any {w : World} {lo hi : Nat} {v : Value} {b : List Nat} {R : List (Nat × Bat)} (hv : Bs w lo hi v b) (hhi : hi ≤ w.heap.size) (hb : ∀ x ∈ b, x < 256) (hlen : b.length ≤ 1000000000000) (hR : Batl (Fm.frs b 0) 0 R) :
    Calls Try.prog 19 #[v] w (BatsAns w b R) := by
  have HV := Lib.hid hv
  have HHI := Lib.hid hhi
  have HBB := Lib.hid hb
  have HBL := Lib.hid hlen
  have HRR := Lib.hid hR
  obtain ⟨A, c, rfl, _, _, _, _⟩ := hv
  clear hhi hb hlen hR
  obtain ⟨w2, hw2⟩ : ∃ w2, w2 = (w.alloc (.cells #[.slice none 0 0] 26)).alloc (.cells #[.int .i64 0] 3) := ⟨_, rfl⟩
  have HZ2 : Hid (w2.heap.size = w.heap.size + 2) := by rw [hw2]; simp [Hid]
  have HX2 : Hid (Ext w w2) := by rw [hw2]; exact (ext_alloc _ _).trans (ext_alloc _ _)
  have HBA : Hid (Boxed w2 w.heap.size 26 (.slice none 0 0)) := by rw [hw2]; exact ext_heap (ext_alloc _ _) (heap_at _ _ rfl)
  have HBC : Hid (Boxed w2 (w.heap.size + 1) 3 (.int .i64 0)) := by rw [hw2]; exact heap_at _ _ (by simp)
  have HALL := Lib.hid (Fm.all_any (HV.out.below HX2.out HHI.out) (Nat.le_trans HHI.out HX2.out.size) (by have := HBL.out; omega))
  have hf1 : Fence.wide.fn 38 := trivial
  have hf2 : Fence.wide.fn 37 := trivial
  have hf3 : Fence.wide.fn 39 := trivial
  have hf4 : Fence.wide.fn 40 := trivial
  refine (callsIn_wide (n := 6)).1 ?_
  refine callsIn_of_wp_marks Try.func19 rfl trivial ?_
  simp only [Try.ntmps19, List.size_toArray, List.length_cons, List.length_nil, Nat.reduceAdd, Nat.reduceSub, Array.replicate_succ, Array.replicate_zero, List.push_toArray, List.append_toArray, List.nil_append, List.cons_append]
  gi_wp2_with fail
  rw [← hw2]
  clear hw2
  refine (callsIn_wide.2 HALL.out).mono ?_
  rintro e w3 ⟨A3, c3, rfl, hc3, hown3, hx3⟩
  have HC3 := Lib.hid hc3
  have HO3 := Lib.hid hown3
  have HX3 : Hid (Ext w2 w3) := hx3
  have HZ3 : Hid (w2.heap.size < w3.heap.size) := World.block_lt_of_cell? w3 _ hc3
  clear hc3 hown3 hx3 HALL
  gi_wp2_with (gi_at_call 37; refine (callsIn_wide.2 (each_new _ _ _)).mono ?_; rintro e w' ⟨rfl, rfl⟩)
  obtain ⟨w4, hw4⟩ : ∃ w4, w4 = w3.alloc (.cells #[.func (.func 62) #[] #[.pointer (some ⟨w2.heap.size, 0, none⟩)]] 65) := ⟨_, rfl⟩
  rw [← hw4]
  have HX4 : Hid (Ext w3 w4) := by rw [hw4]; exact ext_alloc _ _
  have HZ4 : Hid (w4.heap.size = w3.heap.size + 1) := by rw [hw4]; simp [Hid]
  have HFB : Hid (w4.cell? ⟨w3.heap.size, 0, none⟩ = some (.func (.func 62) #[] #[.pointer (some ⟨w2.heap.size, 0, none⟩)])) := by rw [hw4]; exact cell_of (heap_at _ _ rfl) rfl
  clear hw4
  have HIT := Lib.hid (weach_iter (fb := w3.heap.size) (bd := w2.heap.size) (((Bs.of_own HO3.out)).below HX4.out (Nat.le_refl _)) HX4.out.size HBB.out HBL.out (ext_cell HX4.out HC3.out) HFB.out HRR.out)
  have HXA : Hid (Ext w w4) := Ext.trans HX2.out (Ext.trans HX3.out HX4.out)
  have HW24 : Hid (w.heap.size + 2 ≤ w4.heap.size ∧ w2.heap.size < w4.heap.size) := by have := HZ2.out; have := HZ3.out; have := HZ4.out; unfold Hid; omega
  refine wpIn_overB rfl enters_weach HIT.out (fun _ => rfl) (BatsI w w2 w4 R) (fun _ _ _ => False) (fun n₁ k A h => ?hC) ?hI (fun _ _ _ _ _ h _ => h) ?h0 ?round ?done (fun _ _ _ _ _ _ _ h _ => h.elim)
  case hC =>
    intro i hm hlt
    refine h.stay i ?_ hlt
    have := HZ2.out
    have := HZ3.out
    rcases hm with ⟨h1, _⟩ | h1 | h1 <;> omega
  case hI => intro n₁ k A A' _ hi hc; exact hi.chg HW24.out.1 hc
  case h0 =>
    intro A hx
    have hx2 : Ext w2 A := Ext.trans HX3.out (Ext.trans HX4.out hx)
    exact ⟨⟨none, 0, [], by simp, ext_heap hx2 HBA.out, Gbs.nil _ _⟩, ext_heap hx2 HBC.out, fun i _ hl => hx.block i hl, Ext.trans HX2.out hx2, Nat.le_refl _, hx.size⟩
  case round =>
    rintro l n₁ k ⟨ee, ⟨xi, eA, ec, lx⟩⟩ A hl1 hl2 hn hnA hi hk ⟨r, hr, hr1, hr2, hg⟩
    have HI := Lib.hid hi
    have HR := Lib.hid (And.intro hr (And.intro hr1 hr2))
    have HG := Lib.hid hg
    have HN := Lib.hid hn
    have HL := Lib.hid (And.intro hl1 hl2)
    have HNA := Lib.hid hnA
    clear hi hr hr1 hr2 hg hn hl1 hl2 hk hnA
    dsimp only [batchV, Bx.val]
    gi_wp2
    obtain ⟨A1, hA1⟩ : ∃ A1, A1 = A.alloc (.cells #[.int .i64 xi, .slice eA lx.length ec] 24) := ⟨_, rfl⟩
    rw [← hA1]
    have HX1 : Hid (Ext A A1) := by rw [hA1]; exact ext_alloc _ _
    have HY1 : Hid (A1.heap[A.heap.size]? = some (.cells #[.int .i64 xi, .slice eA lx.length ec] 24 (0, 0))) := by rw [hA1]; exact heap_at _ _ rfl
    clear hA1
    refine ⟨Step.of_chg (S := fun _ => False) (Chg.of_ext HX1.out) HNA.out (fun _ _ _ h => h), fun A2 hc => ?_⟩
    have HC := Lib.hid hc
    have hc2 : Chg (Btw w4.heap.size n₁) A A2 := (Chg.of_ext HX1.out).trans (hc.mono fun i _ e => ⟨by have := HL.out.1; omega, by have := HL.out.2; omega⟩)
    have HI2 := Lib.hid (HI.out.chg HW24.out.1 hc2)
    have HG2 : Hid (Gb n₁ ⟨xi, eA, ec, lx⟩ A2) := (HG.out.ext HX1.out).chg hc fun g hg => .inl (by have := HL.out.2; omega)
    have HY2 : Hid (A2.heap[A.heap.size]? = some (.cells #[.int .i64 xi, .slice eA lx.length ec] 24 (0, 0))) := (hc.block _ (Array.getElem?_eq_some_iff.1 HY1.out).1 (fun e => by have := HL.out.2; have := HNA.out; omega)).trans HY1.out
    clear hc hc2
    obtain ⟨V, vc, X, hX, hbx, hgs⟩ := HI2.out.row
    have HXX := Lib.hid hX
    have HBX := Lib.hid hbx
    have HGS := Lib.hid hgs
    have HNB := Lib.hid HI2.out.num
    have hXl : X.length ≤ 1000000000000 := by
      have h1 := congrArg List.length hX
      rw [List.length_map, List.length_map, List.length_take] at h1
      have h2 := HRR.out.le
      have h3 := Fm.frs_len b
      have h4 := HBL.out
      omega
    have HXL := Lib.hid hXl
    have q0 := hbx.cell
    have y0 := cell_of HY2.out (k := 0) rfl
    have y1 := cell_of HY2.out (k := 1) rfl
    clear hX hbx hgs hXl
    obtain ⟨N, hN⟩ : ∃ N, N = X.length + 1 := ⟨_, rfl⟩
    have HN1 := Lib.hid hN
    clear hN
    gi_wp2_with (gi_at_builtin; refine wpListIn_pushb rfl (.tmp 16) (.tmp 18) rfl n₁ _ X rfl (HGS.out.ext (ext_alloc _ _)) ⟨xi, eA, ec, lx⟩ A2.heap.size rfl (heap_at _ _ rfl) (HG2.out.ext (ext_alloc _ _)) HXL.out (Nat.le_trans HI2.out.le (by simp)) ?_; rw [← HN1.out]; intro X5 c5 w5 hgot5 hgr5; have HG5 := Lib.hid hgot5; have HGR5 := Lib.hid hgr5; have hc5 : Chg (fun i => n₁ ≤ i) A2 w5 := (Chg.alloc (S := fun i => n₁ ≤ i) A2 _).trans (Chg.grown hgr5 (fun k hk => (rowN_lt HGS.out.row k hk).1)); have HC5 := Lib.hid hc5; have hb5 : Boxed w5 w.heap.size 26 (.slice V X.length vc) := boxed_chg HBX.out hc5 (by have := HN.out; have := HW24.out.1; omega); have hn5 : Boxed w5 (w.heap.size + 1) 3 (.int .i64 (endAt 0 R k : Int)) := boxed_chg HNB.out hc5 (by have := HN.out; have := HW24.out.1; omega); have HB5 := Lib.hid hb5; have HN5 := Lib.hid hn5; have q2 := hb5.cell; have q3 := hb5.frozen; have q4 := hn5.cell; have q5 := hn5.frozen; clear hgot5 hgr5 hc5 hb5 hn5)
    obtain ⟨w6, hw6⟩ : ∃ w6, w6 = w5.setCell ⟨w.heap.size, 0, none⟩ (.slice X5 N c5) := ⟨_, rfl⟩
    obtain ⟨w7, hw7⟩ : ∃ w7, w7 = w6.setCell ⟨w.heap.size + 1, 0, none⟩ (.int .i64 (ee : Int)) := ⟨_, rfl⟩
    rw [← hw6, ← hw7]
    have hz := HW24.out.1
    have hn := HN.out
    have hcs : Chg (fun i => i = w.heap.size ∨ i = w.heap.size + 1) w5 w7 := by
      rw [hw7, hw6]; exact (Chg.setCell _ _ _ (.inl rfl)).trans (Chg.setCell _ _ _ (.inr rfl))
    have hlow : ∀ i, i < n₁ → i < A2.heap.size → i ≠ w.heap.size → i ≠ w.heap.size + 1 → w7.heap[i]? = A2.heap[i]? := fun i h1 h2 h3 h4 => (hcs.block i (Nat.lt_of_lt_of_le h2 HC5.out.size) (by omega)).trans (HC5.out.block i h2 (by omega))
    have hsz : A2.heap.size ≤ w7.heap.size := Nat.le_trans HC5.out.size hcs.size
    obtain ⟨h1, h2, h3⟩ := HR.out
    have hgs7 : Gbs n₁ (.slice X5 N c5) (X ++ [⟨xi, eA, ec, lx⟩]) w7 := ⟨rowN_kept HG5.out.row fun g hg => hcs.block g (rowN_lt HG5.out.row g hg).2.1 (by have := (rowN_lt HG5.out.row g hg).1; omega), fun x hx => (HG5.out.each x hx).chg hcs fun g hg => .inl (by omega)⟩
    have hNl : N = (X ++ [⟨xi, eA, ec, lx⟩] : List Bx).length := by rw [HN1.out]; simp
    refine ⟨⟨fun i h8 h9 => hlow i h9 (by have := HI2.out.le; omega) (by omega) (by omega), hcs.os.trans HC5.out.os, hcs.tape.trans HC5.out.tape, hcs.output.trans HC5.out.output, hsz⟩, ⟨X5, c5, X ++ [⟨xi, eA, ec, lx⟩], ?_, ?_, ?_⟩, ?_, fun i h8 h9 => ?_, ?_, Nat.le_trans HI2.out.le hsz, Nat.le_trans HI2.out.z hsz⟩
    · rw [List.map_append, HXX.out, List.take_add_one, h1]
      simp [h3, Bx.bat]
    · rw [← hNl, hw7, hw6]
      exact Fm.boxed_far (HB5.out.set _) (by simp) _
    · rw [← hNl]; exact hgs7
    · rw [endAt_succ h1, h2, hw7, hw6]
      exact Boxed.set _ (Fm.boxed_far HN5.out (by simp) _)
    · have h10 := HZ2.out
      exact (hlow i (by omega) (by have := HI2.out.z; omega) (by omega) (by omega)).trans (HI2.out.stay i h8 h9)
    · have hA2 := HI2.out.below.size
      exact HI2.out.below.trans ⟨hcs.os.trans HC5.out.os, hcs.tape.trans HC5.out.tape, hcs.output.trans HC5.out.output, hsz, fun i hi => hlow i (by omega) (by omega) (by omega) (by omega)⟩
  case done =>
    rintro D' n₁ W hDl _ hn hI1 hD
    obtain ⟨V, vc, X, hX, hbx, hgs⟩ := hI1.row
    rw [List.take_of_length_le (Nat.le_refl _)] at hX
    have HXX := Lib.hid hX
    have HGS := Lib.hid hgs
    have HBX := Lib.hid hbx
    have HNB := Lib.hid hI1.num
    have HBEL := Lib.hid hI1.below
    have HDD := Lib.hid hD
    have HDL := Lib.hid hDl
    have HVW := Lib.hid (HV.out.below hI1.below HHI.out)
    have HHW : Hid (hi ≤ W.heap.size) := Nat.le_trans HHI.out hI1.below.size
    have HHWL : Hid (w.heap.size + 2 ≤ W.heap.size) := Nat.le_trans HW24.out.1 hI1.z
    clear hI1 hX hbx hgs hn hD hDl
    have HCNT := Lib.hid (Fm.count_any HVW.out HHW.out HBB.out)
    gi_wp2_with (gi_at_call 39; refine (callsIn_wide.2 HCNT.out).mono ?_; rintro e W2 ⟨rfl, hx2⟩; have HXW := Lib.hid hx2; clear hx2)
    have HB2 : Hid (Boxed W2 w.heap.size 26 (.slice V X.length vc)) := ext_heap HXW.out HBX.out
    have HN2 : Hid (Boxed W2 (w.heap.size + 1) 3 (.int .i64 (endAt 0 R R.length : Int))) := ext_heap HXW.out HNB.out
    have HE2 : Hid (Gbs n₁ (.slice V X.length vc) X W2) := HGS.out.ext HXW.out
    have HVW2 : Hid (Bs W2 lo hi (.slice A b.length c) b) := HVW.out.below HXW.out HHW.out
    have HDD2 : Hid (W2.heap[D']? = some (.deferred (some []))) := ext_heap HXW.out HDD.out
    have HBEL2 : Hid (Ext w W2) := HBEL.out.trans ((show Below W.heap.size W W2 from HXW.out).mono (by have := HHWL.out; omega))
    have p0 := HB2.out.cell
    have p1 := HN2.out.cell
    obtain ⟨E, hE⟩ : ∃ E, E = endAt 0 R R.length := ⟨_, rfl⟩
    obtain ⟨M, hM⟩ : ∃ M, M = Fm.fend b 0 := ⟨_, rfl⟩
    have HEM : Hid (wellB b R = (decide (E = M) && !Fm.odd b)) := by
      have h1 := HRR.out.ends (chain_frs b)
      have h2 : decide (R.length = (Fm.frs b 0).length) = decide (E = M) := by
        rw [hE, hM]
        by_cases h : R.length = (Fm.frs b 0).length
        · rw [decide_eq_true h, decide_eq_true (h1.1 h)]
        · have h3 := h1.2 (Nat.lt_of_le_of_ne HRR.out.le h)
          rw [decide_eq_false h, decide_eq_false (by omega)]
      unfold wellB Hid
      rw [h2]
    rw [← hM]
    rw [← hE] at p1
    have HOD : Hid (∀ u, Ext W2.drew u → Calls Try.prog 40 #[.slice A b.length c] u fun e u' => e = .returned (.bool (Fm.odd b)) ∧ Below u.heap.size u u') := fun u hu => by
      have hx : Ext W2 u := Ext.trans (Ext.drew W2) hu
      exact Fm.odd_any (HVW2.out.below hx (Nat.le_trans HHW.out HXW.out.size)) (Nat.le_trans (Nat.le_trans HHW.out HXW.out.size) hx.size) HBB.out
    have HEE := Lib.hid hE
    obtain ⟨N, hN⟩ : ∃ N, N = X.length := ⟨_, rfl⟩
    rw [← hN] at p0
    have HNN := Lib.hid hN
    clear hE hM hN
    gi_wp2_with fail
    refine wpIn_wide.2 ?_
    by_cases hz : E = M
    · have d1 : ((E : Int) == (M : Int)) = true := by simp; omega
      have d1n : (E == M) = true := by simp; exact hz
      have HZ := Lib.hid hz
      clear hz
      refine flow (by kernel_rfl) [Is (.slice V N vc), Is (.int .i64 (E : Int)), Is (.int .i64 (E : Int)), Is (.int .i64 (M : Int)), Is (.bool true), Is (.bool true), Is (.slice A b.length c), Is (.bool (Fm.odd b)), Is (.bool (!(Fm.odd b))), Is (.bool (!(Fm.odd b))), Is (.slice V N vc), Is (.int .i64 (E : Int)), Is (.bool (!(Fm.odd b)))] (by kernel_rfl) (by kernel_rfl) ?mono (fun f1 => ?obl) ?fin
      case mono =>
        simp only [List.forall_mem_cons, List.not_mem_nil, false_imp_iff, implies_true, and_true]
        exact ⟨.is _, .is _, .is _, .is _, .is _, .is _, .is _, .is _, .is _, .is _, .is _, .is _, .is _⟩
      case fin =>
        intro g1 u hu hg
        simp only [puts, Act.put, List.setIfInBounds_toArray, List.set_cons_zero, List.set_cons_succ]
        have h10 : g1 10 = .slice V N vc := hg 10 (by decide)
        have h11 : g1 11 = .int .i64 (E : Int) := hg 11 (by decide)
        have h12 : g1 12 = .bool (!(Fm.odd b)) := hg 12 (by decide)
        rw [h10, h11, h12]
        have HU : Hid (Ext W2 u) := Ext.trans (Ext.drew W2) hu
        have HDU := Lib.hid (ext_heap HU.out HDD2.out)
        clear h10 h11 h12 hg hu p0 p1
        gi_wp2
        refine ⟨by simp, .inl ⟨_, _, rfl, run_takeDeferred HDU.out, ?_⟩⟩
        refine ⟨_, results_tmp3 rfl _ _ _, X, V, vc, HXX.out, ?_, ?_, ?_⟩
        · rw [← HEE.out, ← HNN.out, HEM.out, decide_eq_true HZ.out, Bool.true_and]; rfl
        · exact ((HE2.out.ext HU.out).put HDU.out).bts
        · exact Below.trans (show Below w.heap.size w u from Ext.trans HBEL2.out HU.out) ((putObj_chg u D' _).below (fun i e => by have := HDL.out; have := HW24.out.1; omega) (Ext.trans HBEL2.out HU.out).size)
      case obl =>
        refine ⟨fun u hu hd => ?_, ?_⟩
        · have hu2 := Ext.trans (Ext.drew W2) hu
          have q0 := ext_cell hu2 p0
          go_simp
          exact ⟨Ext.refl _, rfl⟩
        refine ⟨fun u hu hd => ?_, ?_⟩
        · simp only [Act.put, List.setIfInBounds_toArray, List.set_cons_zero, List.set_cons_succ]
          have hu2 := Ext.trans (Ext.drew W2) hu
          have q0 := ext_cell hu2 p1
          go_simp
          exact ⟨Ext.refl _, rfl⟩
        refine ⟨fun u hu hd => ?_, ?_⟩
        · simp only [Act.put, List.setIfInBounds_toArray, List.set_cons_zero, List.set_cons_succ]
          have hu2 := Ext.trans (Ext.drew W2) hu
          have q0 := ext_cell hu2 p1
          go_simp
          exact ⟨Ext.refl _, rfl⟩
        refine ⟨fun u hu hd => ?_, ?_⟩
        · simp only [Act.put, List.setIfInBounds_toArray, List.set_cons_zero, List.set_cons_succ]
          go_simp
          exact ⟨Ext.refl _, rfl⟩
        refine ⟨fun u hu hd => ?_, ?_⟩
        · simp only [Act.put, List.setIfInBounds_toArray, List.set_cons_zero, List.set_cons_succ]
          have e2 : f1 2 = .int .i64 (E : Int) := hd 2 (by kernel_rfl)
          have e3 : f1 3 = .int .i64 (M : Int) := hd 3 (by kernel_rfl)
          go_simp
          exact ⟨Ext.refl _, rfl⟩
        refine ⟨fun u hu hd => ?_, ?_⟩
        · simp only [Act.put, List.setIfInBounds_toArray, List.set_cons_zero, List.set_cons_succ]
          have e4 : f1 4 = .bool true := hd 4 (by kernel_rfl)
          go_simp
          exact ⟨Ext.refl _, rfl⟩
        refine ⟨fun u hu hd => ?_, ?_⟩
        · simp only [Act.put, List.setIfInBounds_toArray, List.set_cons_zero, List.set_cons_succ]
          have e5 : f1 5 = .bool true := hd 5 (by kernel_rfl)
          go_simp
          exact ⟨Ext.refl _, rfl⟩
        refine ⟨fun u hu hd => ?_, ?_⟩
        · simp only [Act.put, List.setIfInBounds_toArray, List.set_cons_zero, List.set_cons_succ]
          have e5 : f1 5 = .bool true := hd 5 (by kernel_rfl)
          have e6 : f1 6 = .slice A b.length c := hd 6 (by kernel_rfl)
          go_simp
          refine (HOD.out u hu).mono ?_
          rintro e9 w9 ⟨rfl, hx9⟩
          exact ⟨_, rfl, hx9, rfl⟩
        refine ⟨fun u hu hd => ?_, ?_⟩
        · simp only [Act.put, List.setIfInBounds_toArray, List.set_cons_zero, List.set_cons_succ]
          have e5 : f1 5 = .bool true := hd 5 (by kernel_rfl)
          have e7 : f1 7 = .bool (Fm.odd b) := hd 7 (by kernel_rfl)
          go_simp
          exact ⟨Ext.refl _, rfl⟩
        refine ⟨fun u hu hd => ?_, ?_⟩
        · simp only [Act.put, List.setIfInBounds_toArray, List.set_cons_zero, List.set_cons_succ]
          have e5 : f1 5 = .bool true := hd 5 (by kernel_rfl)
          have e8 : f1 8 = .bool (!(Fm.odd b)) := hd 8 (by kernel_rfl)
          go_simp
          exact ⟨Ext.refl _, rfl⟩
        refine ⟨fun u hu hd => ?_, ?_⟩
        · simp only [Act.put, List.setIfInBounds_toArray, List.set_cons_zero, List.set_cons_succ]
          have e0 : f1 0 = .slice V N vc := hd 0 (by kernel_rfl)
          go_simp
          exact ⟨Ext.refl _, rfl⟩
        refine ⟨fun u hu hd => ?_, ?_⟩
        · simp only [Act.put, List.setIfInBounds_toArray, List.set_cons_zero, List.set_cons_succ]
          have e1 : f1 1 = .int .i64 (E : Int) := hd 1 (by kernel_rfl)
          go_simp
          exact ⟨Ext.refl _, rfl⟩
        refine ⟨fun u hu hd => ?_, ?_⟩
        · simp only [Act.put, List.setIfInBounds_toArray, List.set_cons_zero, List.set_cons_succ]
          have e9 : f1 9 = .bool (!(Fm.odd b)) := hd 9 (by kernel_rfl)
          go_simp
          exact ⟨Ext.refl _, rfl⟩
        trivial
    · have d1 : ((E : Int) == (M : Int)) = false := by simp; omega
      have d1n : (E == M) = false := by simp; exact hz
      have HZ := Lib.hid hz
      clear hz
      refine flow (by kernel_rfl) [Is (.slice V N vc), Is (.int .i64 (E : Int)), Is (.int .i64 (E : Int)), Is (.int .i64 (M : Int)), Is (.bool false), Is (.bool false), Is undef, Is undef, Is undef, Is (.bool false), Is (.slice V N vc), Is (.int .i64 (E : Int)), Is (.bool false)] (by kernel_rfl) (by kernel_rfl) ?mono (fun f1 => ?obl) ?fin
      case mono =>
        simp only [List.forall_mem_cons, List.not_mem_nil, false_imp_iff, implies_true, and_true]
        exact ⟨.is _, .is _, .is _, .is _, .is _, .is _, .is _, .is _, .is _, .is _, .is _, .is _, .is _⟩
      case fin =>
        intro g1 u hu hg
        simp only [puts, Act.put, List.setIfInBounds_toArray, List.set_cons_zero, List.set_cons_succ]
        have h10 : g1 10 = .slice V N vc := hg 10 (by decide)
        have h11 : g1 11 = .int .i64 (E : Int) := hg 11 (by decide)
        have h12 : g1 12 = .bool false := hg 12 (by decide)
        rw [h10, h11, h12]
        have HU : Hid (Ext W2 u) := Ext.trans (Ext.drew W2) hu
        have HDU := Lib.hid (ext_heap HU.out HDD2.out)
        clear h10 h11 h12 hg hu p0 p1
        gi_wp2
        refine ⟨by simp, .inl ⟨_, _, rfl, run_takeDeferred HDU.out, ?_⟩⟩
        refine ⟨_, results_tmp3 rfl _ _ _, X, V, vc, HXX.out, ?_, ?_, ?_⟩
        · rw [← HEE.out, ← HNN.out, HEM.out, decide_eq_false HZ.out, Bool.false_and]; rfl
        · exact ((HE2.out.ext HU.out).put HDU.out).bts
        · exact Below.trans (show Below w.heap.size w u from Ext.trans HBEL2.out HU.out) ((putObj_chg u D' _).below (fun i e => by have := HDL.out; have := HW24.out.1; omega) (Ext.trans HBEL2.out HU.out).size)
      case obl =>
        refine ⟨fun u hu hd => ?_, ?_⟩
        · have hu2 := Ext.trans (Ext.drew W2) hu
          have q0 := ext_cell hu2 p0
          go_simp
          exact ⟨Ext.refl _, rfl⟩
        refine ⟨fun u hu hd => ?_, ?_⟩
        · simp only [Act.put, List.setIfInBounds_toArray, List.set_cons_zero, List.set_cons_succ]
          have hu2 := Ext.trans (Ext.drew W2) hu
          have q0 := ext_cell hu2 p1
          go_simp
          exact ⟨Ext.refl _, rfl⟩
        refine ⟨fun u hu hd => ?_, ?_⟩
        · simp only [Act.put, List.setIfInBounds_toArray, List.set_cons_zero, List.set_cons_succ]
          have hu2 := Ext.trans (Ext.drew W2) hu
          have q0 := ext_cell hu2 p1
          go_simp
          exact ⟨Ext.refl _, rfl⟩
        refine ⟨fun u hu hd => ?_, ?_⟩
        · simp only [Act.put, List.setIfInBounds_toArray, List.set_cons_zero, List.set_cons_succ]
          go_simp
          exact ⟨Ext.refl _, rfl⟩
        refine ⟨fun u hu hd => ?_, ?_⟩
        · simp only [Act.put, List.setIfInBounds_toArray, List.set_cons_zero, List.set_cons_succ]
          have e2 : f1 2 = .int .i64 (E : Int) := hd 2 (by kernel_rfl)
          have e3 : f1 3 = .int .i64 (M : Int) := hd 3 (by kernel_rfl)
          go_simp
          exact ⟨Ext.refl _, rfl⟩
        refine ⟨fun u hu hd => ?_, ?_⟩
        · simp only [Act.put, List.setIfInBounds_toArray, List.set_cons_zero, List.set_cons_succ]
          have e4 : f1 4 = .bool false := hd 4 (by kernel_rfl)
          go_simp
          exact ⟨Ext.refl _, rfl⟩
        refine ⟨fun u hu hd => ?_, ?_⟩
        · simp only [Act.put, List.setIfInBounds_toArray, List.set_cons_zero, List.set_cons_succ]
          have e5 : f1 5 = .bool false := hd 5 (by kernel_rfl)
          go_simp
          rfl
        refine ⟨fun u hu hd => ?_, ?_⟩
        · simp only [Act.put, List.setIfInBounds_toArray, List.set_cons_zero, List.set_cons_succ]
          have e5 : f1 5 = .bool false := hd 5 (by kernel_rfl)
          go_simp
          rfl
        refine ⟨fun u hu hd => ?_, ?_⟩
        · simp only [Act.put, List.setIfInBounds_toArray, List.set_cons_zero, List.set_cons_succ]
          have e5 : f1 5 = .bool false := hd 5 (by kernel_rfl)
          go_simp
          rfl
        refine ⟨fun u hu hd => ?_, ?_⟩
        · simp only [Act.put, List.setIfInBounds_toArray, List.set_cons_zero, List.set_cons_succ]
          have e5 : f1 5 = .bool false := hd 5 (by kernel_rfl)
          go_simp
          exact ⟨Ext.refl _, rfl⟩
        refine ⟨fun u hu hd => ?_, ?_⟩
        · simp only [Act.put, List.setIfInBounds_toArray, List.set_cons_zero, List.set_cons_succ]
          have e0 : f1 0 = .slice V N vc := hd 0 (by kernel_rfl)
          go_simp
          exact ⟨Ext.refl _, rfl⟩
        refine ⟨fun u hu hd => ?_, ?_⟩
        · simp only [Act.put, List.setIfInBounds_toArray, List.set_cons_zero, List.set_cons_succ]
          have e1 : f1 1 = .int .i64 (E : Int) := hd 1 (by kernel_rfl)
          go_simp
          exact ⟨Ext.refl _, rfl⟩
        refine ⟨fun u hu hd => ?_, ?_⟩
        · simp only [Act.put, List.setIfInBounds_toArray, List.set_cons_zero, List.set_cons_succ]
          have e9 : f1 9 = .bool false := hd 9 (by kernel_rfl)
          go_simp
          exact ⟨Ext.refl _, rfl⟩
        trivial
end Go.Proofs.Ytgflhbpmkcggnaa

/- A region that draws its order and appends, walked by a base below which nothing changes. -/
namespace Go.Proofs.Ytgflhbpmkcggnaa
open Go.ChangeShapes Go.WideShapes Go.ChangeAt Go.RowKit

section
variable {B : Nat} {P : Program} {ops : Array Oper} {Q : Exit → Act → World → Prop}

/-- Whatever comes up next, the world behind it is a later one, and so on. -/
def LaterB (B : Nat) (P : Program) (ops : Array Oper) (Q : Exit → Act → World → Prop) : Nat → Array Bool → Act → World → Prop
  | 0, seen, a, w => Region.ready .any ops seen = [] ∧ Q .normal a w
  | n + 1, seen, a, w => (Region.ready .any ops seen = [] → Q .normal a w) ∧
      ∀ i ∈ Region.ready .any ops seen, wpOp P ops Q i (fun b u => Below B w u ∧ LaterB B P ops Q n (seen.setIfInBounds i true) b u) a w

theorem LaterB.any : ∀ (n : Nat) (seen : Array Bool) (a : Act) (w : World), LaterB B P ops Q n seen a w → wpAny P .any ops Q n seen a w := by
  intro n
  induction n with
  | zero => intro seen a w h; exact h
  | succ n ih => intro seen a w h; exact ⟨h.1, fun i hi => wpOp_mono (fun b u hb => ih _ b u hb.2) (h.2 i hi)⟩

theorem yields_laterB {o : Oper} {v : Value} {a : Act} {w u : World} (h : YieldsIf P ops (Below B w) o v a) (hu : Below B w u) : YieldsIf P ops (Below B u) o v a := by
  rcases h with ⟨h1, h2⟩ | h
  · exact .inl ⟨h1, fun x hx => h2 x (hu.trans hx)⟩
  · exact .inr h

/-- A reading may be done first. -/
theorem LaterB.first {i : Nat} {oi : Oper} {v : Value} (hi : ops[i]? = some oi) (hsel : Region.noSelect ops = true) (hQ : ∀ c a w, Q (.panic c) (a.put oi.dst v) w → Q (.panic c) a w) :
    ∀ (n : Nat) (seen : Array Bool) (a : Act) (w : World), Region.free .any ops seen i = true → i ∈ Region.ready .any ops seen → YieldsIf P ops (Below B w) oi v a →
      (∀ j oj, ops[j]? = some oj → j ≠ i → seen.getD j true = false → (∀ e ∈ oj.after, Region.binds .any e = true → e.on ≠ i) → oi.apart ops oj = true) →
      LaterB B P ops Q n (seen.setIfInBounds i true) (a.put oi.dst v) w → LaterB B P ops Q (n + 1) seen a w := by
  intro n
  induction n with
  | zero =>
    intro seen a w _ hr hy _ H
    refine ⟨fun h => absurd hr (by rw [h]; simp), fun j hj => ?_⟩
    rcases Decidable.em (j = i) with e | e
    · subst e
      exact YieldsIf.wpOp hi hy (Below.refl B w) ⟨Below.refl B w, H⟩
    · have h1 := ready_mono hj e
      rw [H.1] at h1
      cases h1
  | succ n ih =>
    intro seen a w hf hr hy hap H
    refine ⟨fun h => absurd hr (by rw [h]; simp), fun j hj => ?_⟩
    rcases Decidable.em (j = i) with e | e
    · subst e
      exact YieldsIf.wpOp hi hy (Below.refl B w) ⟨Below.refl B w, H⟩
    · obtain ⟨hun, oj, hoj, hall⟩ := mem_ready.1 hj
      have hun' : seen.getD i false = false := by
        have h0 := (mem_ready.1 hr).1
        rcases Nat.lt_or_ge i seen.size with hlt | hge
        · simp [hlt] at h0 ⊢; exact h0
        · simp [Array.getElem?_eq_none hge]
      have hno : ∀ e ∈ oj.after, Region.binds .any e = true → e.on ≠ i := fun x hx hb heq => by
        have := hall x hx hb
        rw [heq, hun'] at this
        cases this
      have h2 := wpOp_putIf hoj (hap j oj hoj e hun hno) (fun cs b => Region.noSelect_spec hsel i oi cs b hi) (fun cs b => Region.noSelect_spec hsel j oj cs b hoj) hQ hy (H.2 j (ready_mono hj e))
      have hap' : ∀ k ok, ops[k]? = some ok → k ≠ i → (seen.setIfInBounds j true).getD k true = false → (∀ e ∈ ok.after, Region.binds .any e = true → e.on ≠ i) → oi.apart ops ok = true := by
        intro k ok hk hki hku hkn
        rcases Decidable.em (j = k) with ejk | ejk
        · subst ejk; exact hap j ok hk hki hun hkn
        · rw [getD_set_ne true ejk] at hku; exact hap k ok hk hki hku hkn
      have hr' := ready_mono hr (Ne.symm e)
      have hf' : Region.free .any ops (seen.setIfInBounds j true) i = true := by
        simp only [Region.free, hi, List.all_eq_true, List.mem_range] at hf ⊢
        intro k hk
        rcases Decidable.em (j = k) with ejk | ejk
        · subst ejk
          have : (seen.setIfInBounds j true).getD j true = true := by
            rcases Nat.lt_or_ge j seen.size with hlt | hge
            · simp [hlt]
            · simp [hge]
          simp [this]
        · rw [getD_set_ne true ejk]; exact hf k hk
      refine wpOp_mono (fun b u h3 => ⟨h3.2.1, ih _ b u hf' hr' (yields_laterB h3.1 h3.2.1) hap' ?_⟩) h2
      rw [Array.setIfInBounds_comm _ _ e]
      exact h3.2.2

theorem atB_start {id : Nat} {a : Act} {w : World} (hm : P.follows .mixedOrders = true) {n : Nat} (hn : ops.size = n) (h : LaterB B P ops Q n (Array.replicate n false) a w.drew) : (Code.region id ops true).wp P Q a w := by
  subst hn
  exact wp_region_any hm (LaterB.any _ _ _ _ h)

theorem atB_read (i : Nat) {n : Nat} {seen : Array Bool} {o : Oper} {v : Value} {a : Act} {w : World} (hl : ops.toList[i]? = some o) (hsel : Region.noSelect ops = true) (hf : Region.free .any ops seen i = true) (hr : (Region.ready .any ops seen).contains i = true)
    (hQ : ∀ c a w, Q (.panic c) (a.put o.dst v) w → Q (.panic c) a w) (hy : YieldsIf P ops (Below B w) o v a) (h : LaterB B P ops Q n (seen.setIfInBounds i true) (a.put o.dst v) w) : LaterB B P ops Q (n + 1) seen a w :=
  have ho : ops[i]? = some o := by rw [← Array.getElem?_toList]; exact hl
  LaterB.first ho hsel hQ n seen a w hf (by simpa using hr) hy (Region.free_spec ho hf) h

theorem atB_make (i : Nat) {n : Nat} {seen : Array Bool} {o : Oper} {a : Act} {w : World} (hl : ops.toList[i]? = some o) (hr : Region.ready .any ops seen = [i])
    (h : ∀ K : Act → World → Prop, (∀ b u, Below B w u → LaterB B P ops Q n (seen.setIfInBounds i true) b u → K b u) → if Region.wanted o (yielded ops a.tmps) = true then Oper.wp P o a w K Q else K (a.put o.dst undef) w) : LaterB B P ops Q (n + 1) seen a w := by
  have ho : ops[i]? = some o := by rw [← Array.getElem?_toList]; exact hl
  refine ⟨fun h0 => (by rw [hr] at h0; cases h0), fun j hj => ?_⟩
  rw [hr] at hj
  simp at hj
  subst hj
  have h1 := h (fun b u => Below B w u ∧ LaterB B P ops Q n (seen.setIfInBounds j true) b u) (fun b u hu hb => ⟨hu, hb⟩)
  unfold wpOp
  simp only [ho]
  split
  · rename_i hw; rw [if_pos hw] at h1; exact .inl h1
  · rename_i hw; rw [if_neg hw] at h1; exact h1

theorem atB_done {seen : Array Bool} {a : Act} {w : World} (hr : Region.ready .any ops seen = []) (h : Q .normal a w) : LaterB B P ops Q 0 seen a w := ⟨hr, h⟩

/-- Whatever comes up next. -/
theorem atB_each {n : Nat} {seen : Array Bool} {a : Act} {w : World} (l : List Nat) (hr : Region.ready .any ops seen = l) (hne : l ≠ [])
    (h : ∀ i ∈ l, ∃ o, ops.toList[i]? = some o ∧ ∀ K : Act → World → Prop, (∀ b u, Below B w u → LaterB B P ops Q n (seen.setIfInBounds i true) b u → K b u) → if Region.wanted o (yielded ops a.tmps) = true then Oper.wp P o a w K Q else K (a.put o.dst undef) w) : LaterB B P ops Q (n + 1) seen a w := by
  refine ⟨fun h0 => absurd (hr.symm.trans h0) hne, fun j hj => ?_⟩
  rw [hr] at hj
  obtain ⟨o, hl, hK⟩ := h j hj
  have ho : ops[j]? = some o := by rw [← Array.getElem?_toList]; exact hl
  have h1 := hK (fun b u => Below B w u ∧ LaterB B P ops Q n (seen.setIfInBounds j true) b u) (fun b u hu hb => ⟨hu, hb⟩)
  unfold wpOp
  simp only [ho]
  split
  · rename_i hw; rw [if_pos hw] at h1; exact .inl h1
  · rename_i hw; rw [if_neg hw] at h1; exact h1
end
end Go.Proofs.Ytgflhbpmkcggnaa
