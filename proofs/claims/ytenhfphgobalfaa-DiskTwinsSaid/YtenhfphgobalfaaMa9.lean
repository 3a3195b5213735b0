/- Dover Dhas Dbo Tail Flowst, joined. -/
import Derived.Test.YtenhfphgobalfaaMa8
import Derived.Test.YtenhfphgobalfaaMa2
import Derived.Test.YtenhfphgobalfaaMa5

/- The law's over: a disk's files, gone over, are just those that are wanted. -/
namespace Go.Proofs.Ytenhfphgobalfaa
open Go.RowKit Go.Maps Go.Sort Go.Shelf
attribute [local go_sem] Oper.semAt_some

/-- Files of the reference's in a row that may be read. -/
structure Wnt (w : World) (v : Value) (R : List RFl) : Prop where
  ex : ∃ A c, v = .slice A R.length c ∧ ∀ (k : Nat) (hk : k < R.length), ∃ g, A = some ⟨g, 0, none⟩ ∧ g < w.heap.size ∧ w.cell? ⟨g, k * 3, none⟩ = some (encStr R[k].name) ∧ w.cell? ⟨g, k * 3 + 1, none⟩ = some (encStr R[k].sure) ∧ w.cell? ⟨g, k * 3 + 2, none⟩ = some (encStr R[k].loose)
  sz : ∀ f ∈ R, f.sure.length + f.loose.length ≤ 1048576
theorem Wnt.ext {w u : World} {v : Value} {R : List RFl} (h : Wnt w v R) (hx : Ext w u) : Wnt u v R := by
  obtain ⟨⟨A, c, e, hc⟩, hs⟩ := h
  refine ⟨⟨A, c, e, fun k hk => ?_⟩, hs⟩
  obtain ⟨g, h1, h2, h3, h4, h5⟩ := hc k hk
  exact ⟨g, h1, Nat.lt_of_lt_of_le h2 hx.size, ext_cell hx h3, ext_cell hx h4, ext_cell hx h5⟩
theorem Wnt.nil (w : World) : Wnt w (.slice none 0 0) [] := ⟨⟨none, 0, rfl, fun k hk => by simp at hk⟩, fun f hf => by cases hf⟩
theorem Wnt.of_row {w : World} {B : Nat} {v : Value} {R : List RFl} (h : w.ownsRow B 45 3 v R.length (R.flatMap rcells)) (hs : ∀ f ∈ R, f.sure.length + f.loose.length ≤ 1048576) : Wnt w v R := by
  refine ⟨?_, hs⟩
  have h2 := h.2
  rcases h2 with ⟨rfl, h0⟩ | ⟨g, c, cur, rfl, hb, hh, _⟩
  · obtain rfl : R = [] := List.eq_nil_of_length_eq_zero h0
    exact ⟨none, 0, rfl, fun k hk => by simp at hk⟩
  · refine ⟨_, _, rfl, fun k hk => ?_⟩
    obtain ⟨g', c', e, h3, h4, h5⟩ := rrow_cell h hk
    injection e with e1 _ _
    injection e1 with e1
    injection e1 with e1
    subst e1
    exact ⟨_, rfl, (Array.getElem?_eq_some_iff.1 hh).1, h3, h4, h5⟩
/-- Between two rounds. -/
structure OverI (w : World) (v : Value) (most : Int) (n₁ k : Nat) (A : World) : Prop where
  below : Below w.heap.size w A
  num : Boxed A (w.heap.size + 4) 3 (.int .i64 (k : Int))
  res : Boxed A (w.heap.size + 2) 4 (.bool false)
  most : Boxed A (w.heap.size + 1) 3 (.int .i64 most)
  want : Boxed A w.heap.size 39 v
  z3 : w.heap.size + 5 ≤ A.heap.size
  z1 : n₁ ≤ A.heap.size
theorem OverI.chg {w : World} {v : Value} {most : Int} {n₁ n₂ k : Nat} {A A' : World} {S : Nat → Prop} (h : OverI w v most n₁ k A) (hc : Chg S A A') (hS : ∀ i, S i → w.heap.size + 5 ≤ i) (hn : n₂ ≤ n₁) : OverI w v most n₂ k A' :=
  ⟨h.below.trans (hc.below (fun i hb => by have := hS i hb; omega) h.below.size), boxed_chg h.num hc (fun hb => by have := hS _ hb; omega), boxed_chg h.res hc (fun hb => by have := hS _ hb; omega),
    boxed_chg h.most hc (fun hb => by have := hS _ hb; omega), boxed_chg h.want hc (fun hb => by have := hS _ hb; omega), Nat.le_trans h.z3 hc.size, Nat.le_trans hn (Nat.le_trans h.z1 hc.size)⟩
theorem boxed_far {w : World} {b : Nat} {t : TypeId} {v : Value} (h : Boxed w b t v) {p : Addr} (hp : b ≠ p.block) (u : Value) : Boxed (w.setCell p u) b t v := (Below.heap_setCell _ _ _ _ hp).trans h

set_option maxRecDepth 100000 in
set_option maxHeartbeats 16000000 in
theorem over_any {w : World} {S : Nat → Prop} {B d room : Nat} {F : List Fl} (h : Disk w S B d room F) {R : List RFl} {v : Value} (ht : Tie F R) (hs : R.map RFl.name = snames F) (hv : Wnt w v R) (most : Int) :
    Calls Try.prog 38 #[.pointer (some ⟨d, 0, none⟩), v, .int .i64 most] w fun e w' => e = .returned (.bool true) ∧ Ext w w' := by
  obtain ⟨m, D, V, hsee, hfiles, hBm, hap⟩ := h.tight.seen
  have hlen := ht.len
  obtain ⟨A, c, rfl, hcells⟩ := hv.ex
  obtain ⟨N, hN⟩ : ∃ N, N = R.length := ⟨_, rfl⟩
  have HSEE := Lib.hid hsee
  have HFI := Lib.hid hfiles
  have HSZ : Hid (∀ f ∈ F, f.name.length ≤ maxLen) := fun f hf => by
    have := h.names f hf; simp [good] at this; unfold maxLen; omega
  have HLO := Lib.hid h.lo
  have HCNT := Lib.hid h.cnt
  have HTOT : Hid (tot F ≤ 1048576) := Nat.le_trans h.tot h.hi
  have HTIE := Lib.hid ht
  have HSN := Lib.hid hs
  have HW := Lib.hid hcells
  have HWS := Lib.hid hv.sz
  have HLEN : Hid (F.length = N) := by rw [hN]; exact hlen
  have HN := Lib.hid hN
  rw [← hN]
  have hNI : (N : Int) ≤ 128 := by have := HCNT.out; rw [HLEN.out] at this; omega
  clear hsee hfiles hBm hap h ht hs hv hcells hlen hN
  have hf1 : Fence.wide.fn 59 := trivial
  have hf2 : Fence.wide.fn 20 := trivial
  have hfn := func_some (w.heap.size + 3)
  refine (callsIn_wide (n := 6)).1 ?_
  refine callsIn_of_wp_marks Try.func38 rfl trivial ?_
  simp only [Try.ntmps38, List.size_toArray, List.length_cons, List.length_nil, Nat.reduceAdd, Nat.reduceSub, Array.replicate_succ, Array.replicate_zero, List.push_toArray, List.append_toArray, List.nil_append, List.cons_append]
  gi_wp2_with (gi_at_call 59; refine (callsIn_wide.2 (all_any _ _)).mono ?_; rintro e w' ⟨rfl, rfl⟩)
  obtain ⟨w1, hw1⟩ : ∃ w1, w1 = ((((w.alloc (.cells #[.slice A N c] 39)).alloc (.cells #[.int .i64 most] 3)).alloc (.cells #[.bool false] 4)).alloc (.cells #[.pointer (some ⟨d, 0, none⟩)] 25)).alloc (.cells #[.int .i64 0] 3) := ⟨_, rfl⟩
  rw [← hw1]
  have HX1 : Hid (Ext w w1) := by rw [hw1]; exact Ext.trans (Ext.trans (Ext.trans (Ext.trans (ext_alloc _ _) (ext_alloc _ _)) (ext_alloc _ _)) (ext_alloc _ _)) (ext_alloc _ _)
  have HZ1 : Hid (w1.heap.size = w.heap.size + 5) := by rw [hw1]; simp [Hid]
  have HC0 : Hid (Boxed w1 w.heap.size 39 (.slice A N c)) := by rw [hw1]; exact ext_heap (Ext.trans (Ext.trans (Ext.trans (ext_alloc _ _) (ext_alloc _ _)) (ext_alloc _ _)) (ext_alloc _ _)) (heap_at _ _ rfl)
  have HC1 : Hid (Boxed w1 (w.heap.size + 1) 3 (.int .i64 most)) := by rw [hw1]; exact ext_heap (Ext.trans (Ext.trans (ext_alloc _ _) (ext_alloc _ _)) (ext_alloc _ _)) (heap_at _ _ (by simp))
  have HC2 : Hid (Boxed w1 (w.heap.size + 2) 4 (.bool false)) := by rw [hw1]; exact ext_heap (Ext.trans (ext_alloc _ _) (ext_alloc _ _)) (heap_at _ _ (by simp))
  have HC3 : Hid (w1.cell? ⟨w.heap.size + 3, 0, none⟩ = some (.pointer (some ⟨d, 0, none⟩))) := by rw [hw1]; exact ext_cell (ext_alloc _ _) (cell_of (heap_at _ _ (by simp)) rfl)
  have HC4 : Hid (Boxed w1 (w.heap.size + 4) 3 (.int .i64 0)) := by rw [hw1]; exact heap_at _ _ (by simp)
  clear hw1 hfn
  have HMIX : Try.prog.follows .mixedOrders = true := by kernel_rfl
  refine wpIn_over rfl enters_all (all_iter (HSEE.out.ext HX1.out) (fun f hf => (HFI.out f hf).kept (fun k hk hl => HX1.out.block k hl)) HLO.out HCNT.out HSZ.out HTOT.out HC3.out) (fun _ => rfl) (OverI w (.slice A N c) most) (fun cd A1 => cd = .ret ∧ Below w.heap.size w A1 ∧ Boxed A1 (w.heap.size + 2) 4 (.bool true)) ?hC ?hI ?hIx ?h0 ?round ?done ?stop
  case hC =>
    intro n₁ k A1 hi j hj hlt
    exact (hi.below.block j hj.2).trans (HX1.out.block j hj.2).symm
  case hI =>
    intro n₁ k A1 A2 hn hi hc
    exact hi.chg hc (fun i hb => by have := hb.1; have := HZ1.out; omega) (Nat.le_refl _)
  case hIx =>
    rintro cd A1 A2 ⟨rfl, h1, h2⟩ hc
    have z := HZ1.out
    exact ⟨rfl, h1.trans (hc.below (fun i hb => by have hb : w1.heap.size ≤ i := hb; omega) h1.size), boxed_chg h2 hc (fun hb => by have hb : w1.heap.size ≤ _ := hb; omega)⟩
  case h0 =>
    intro A1 hx
    exact ⟨Ext.trans HX1.out hx, ext_heap hx HC4.out, ext_heap hx HC2.out, ext_heap hx HC1.out, ext_heap hx HC0.out, by have := HZ1.out; have := hx.size; omega, Nat.le_refl _⟩
  case round =>
    rintro l2 n₁ k ⟨x, vv⟩ A1 hl1 hl2 hn hnA hi hk ⟨hok, hrow⟩
    have hkR : k < R.length := by have h1 := HLEN.out; have h2 := HN.out; omega
    obtain ⟨f, hf⟩ : ∃ f : RFl, f = R[k]'hkR := ⟨_, rfl⟩
    have hxn : x = f.name := by
      have h1 : (snames F)[k]? = some x := hok
      rw [← HSN.out, List.getElem?_map, List.getElem?_eq_getElem hkR, ← hf] at h1
      injection h1 with h1
      exact h1.symm
    subst hxn
    have hcur : cur F f.name = toFl f := HTIE.out.cur (by rw [hf]; exact List.getElem_mem hkR)
    obtain ⟨dat, hdat⟩ : ∃ dat, dat = nat8 (f.sure ++ f.loose) := ⟨_, rfl⟩
    have hown : Own n₁ dat vv A1 := by
      have h1 : A1.ownsRow n₁ 5 1 vv (cur F f.name).data.length (bv (cur F f.name).data) := hrow
      rw [hcur] at h1
      rw [hdat]
      exact h1
    have HO1 := Lib.hid hown
    have HDAT := Lib.hid hdat
    have HI1 := Lib.hid hi
    have HN1 := Lib.hid hn
    have HL12 := Lib.hid (And.intro hl1 hl2)
    have HK1 := Lib.hid (And.intro hk hkR)
    obtain ⟨g, rfl, hgl, hc0, hc1, hc2⟩ := HW.out k hkR
    have HFSZ : Hid (f.sure.length + f.loose.length ≤ 1048576) := HWS.out f (by rw [hf]; exact List.getElem_mem hkR)
    rw [← hf] at hc0 hc1 hc2
    have HG := Lib.hid (And.intro hgl (And.intro hc0 (And.intro hc1 hc2)))
    clear hl1 hl2 hn hnA hi hk hok hrow hf hcur hdat hown hgl hc0 hc1 hc2 HW
    dsimp only
    unfold encStr
    gi_wp2
    refine ⟨Step.refl _ _ _, fun A2 hc => ?_⟩
    have HI2 : Hid (OverI w (.slice (some ⟨g, 0, none⟩) N c) most n₁ k A2) := HI1.out.chg hc (fun i hb => by have := HL12.out.1; have := HZ1.out; omega) (Nat.le_refl _)
    have HO2 : Hid (Own n₁ dat vv A2) := HO1.out.kept fun q hq => hc.block q (HO1.out.lt hq).2 (fun e => by have := (HO1.out.lt hq).1; have := HL12.out.2; omega)
    have HS2 := Lib.hid hc.size
    obtain ⟨VA, vc, rfl⟩ := HO2.out.slice
    have hb2 := HI2.out.below
    have k0 : A2.cell? ⟨g, k * 3, none⟩ = some (encStr f.name) := (hb2.cell HG.out.1).trans HG.out.2.1
    have k1 : A2.cell? ⟨g, k * 3 + 1, none⟩ = some (encStr f.sure) := (hb2.cell HG.out.1).trans HG.out.2.2.1
    have k2 : A2.cell? ⟨g, k * 3 + 2, none⟩ = some (encStr f.loose) := (hb2.cell HG.out.1).trans HG.out.2.2.2
    unfold encStr at k0 k1 k2
    have b0 := HI2.out.num.cell
    have b1 := HI2.out.want.cell
    have dk : decide ((N : Int) ≤ (k : Int)) = false := by have h1 := HK1.out.2; have h2 := HN.out; simp; omega
    have dkn : decide (N ≤ k) = false := by have h1 := HK1.out.2; have h2 := HN.out; simp; omega
    have n1 : (0 : Int) ≤ (k : Int) := by omega
    have n2 : (k : Int) < (N : Int) := by have h1 := HK1.out.2; have h2 := HN.out; omega
    have HFA := Lib.hid (fun u => fileAll_any f.name f.sure f.loose u (by have := HFSZ.out; omega))
    unfold encStr at HFA
    obtain ⟨M, hM⟩ : ∃ M, M = dat.length := ⟨_, rfl⟩
    rw [← hM]
    have HM := Lib.hid hM
    have HMI : Hid (M ≤ 1048576) := by rw [hM, HDAT.out, nat8_len, List.length_append]; exact HFSZ.out
    have hnn : (({ data := f.name.toArray } : ByteArray).toList == ({ data := f.name.toArray } : ByteArray).toList) = true := by simp
    clear hc hb2 hM
    gi_wp2
    refine flow_in HMIX (by kernel_rfl) (fun _ _ h => h) [Is (.int .i64 (k : Int)), Is (.slice (some ⟨g, 0, none⟩) N c), Is (.int .i64 (N : Int)), Is (.bool false), Is (.bool false), Is (.string ⟨f.name.toArray⟩), Is (.slice (some ⟨g, 0, none⟩) N c), Is (.int .i64 (k : Int)), Is (.pointer (some ⟨g, k * 3, none⟩)), Is (.pointer (some ⟨g, k * 3, none⟩)), Is (.string ⟨f.name.toArray⟩), Is (.bool false), Is (.bool false), Is (.bool false), Is (.slice VA M vc), Is (.string ⟨(f.sure ++ f.loose).toArray⟩), Is (.slice (some ⟨g, 0, none⟩) N c), Is (.int .i64 (k : Int)), Is (.pointer (some ⟨g, k * 3, none⟩)), Is (.agg #[.string ⟨f.name.toArray⟩, .string ⟨f.sure.toArray⟩, .string ⟨f.loose.toArray⟩]), Is (.string ⟨(f.sure ++ f.loose).toArray⟩), Is (.bool false), Is (.bool false)] (by kernel_rfl) (by kernel_rfl) ?mono (fun f1 => ?obl) ?fin
    case mono =>
      simp only [List.forall_mem_cons, List.not_mem_nil, false_imp_iff, implies_true, and_true]
      exact ⟨.is _, .is _, .is _, .is _, .is _, .is _, .is _, .is _, .is _, .is _, .is _, .is _, .is _, .is _, .is _, .is _, .is _, .is _, .is _, .is _, .is _, .is _, .is _⟩
    case fin =>
      intro g1 u hu hg
      simp only [puts, Act.put, List.setIfInBounds_toArray, List.set_cons_zero, List.set_cons_succ]
      have h22 : g1 22 = .bool false := hg 22 (by decide)
      rw [h22]
      have HU : Hid (Ext A2 u) := Ext.trans (Ext.drew A2) hu
      have HI3 : Hid (OverI w (.slice (some ⟨g, 0, none⟩) N c) most n₁ k u) := HI2.out.chg (S := fun _ => False) (Chg.of_ext HU.out) (fun _ h => h.elim) (Nat.le_refl _)
      have HO3 : Hid (Own n₁ dat (.slice VA M vc) u) := by rw [HM.out]; exact HO2.out.below HU.out
      clear h22 hg hu b0 b1 k0 k1 k2 hnn dk dkn n1 n2
      gi_wp2
      gi_loopw [11] (fun i wr => ∃ (j : Nat) (l : List Nat), j ≤ M ∧ i = .int .i64 (j : Int) ∧ Hid (l.length = M ∧ ∀ x ∈ l, x < 256) ∧ Hid (Own n₁ l (.slice VA M vc) wr) ∧ Hid (Chg (fun q => n₁ ≤ q) u wr)) (fun i _ => M - (intOf i).toNat)
      case atStart => exact ⟨0, dat, Nat.zero_le _, rfl, Lib.hid ⟨HM.out.symm, by rw [HDAT.out]; exact nat8_lt _⟩, HO3, Lib.hid (Chg.refl _ _)⟩
      case round =>
        obtain ⟨j, l, hj, rfl, HL, HO, HC⟩ := hrel
        by_cases hlt : j < M
        · obtain ⟨gb, cb, e, hgb, hgs, hlc⟩ := HO.out.block (by rw [HL.out.1]; omega)
          injection e with e1 e2 e3
          subst e1 e3
          have hjl : j < l.length := by rw [HL.out.1]; exact hlt
          have hcell := HO.out.cell hjl
          have hfree := HO.out.free j
          obtain ⟨y, hy⟩ : ∃ y : Nat, y = l[j]'hjl := ⟨_, rfl⟩
          rw [← hy] at hcell
          have hy8 : y < 256 := by rw [hy]; exact HL.out.2 _ (List.getElem_mem _)
          have hxr : bits .xor .u8 (y : Int) 1 = ((y ^^^ 1 : Nat) : Int) := u8_xor_nat y 1 hy8 (by omega)
          have HXL : Hid (y ^^^ 1 < 256) := Nat.xor_lt_two_pow (n := 8) hy8 (by omega)
          have e1 : decide ((j : Int) < (M : Int)) = true := decide_eq_true (by omega)
          have e1n : decide (j < M) = true := decide_eq_true hlt
          have n1 : (0 : Int) ≤ (j : Int) := by omega
          have n2 : (j : Int) < (M : Int) := by omega
          have n3 : (M : Int) ≤ 1048576 := by have := HMI.out; omega
          have HGB := Lib.hid hgb
          clear hgb hgs hlc hy hy8 hjl e2
          gi_wp2
          go_roundw
          case rel => exact ⟨j + 1, l.set j (y ^^^ 1), by omega, by go_num, Lib.hid ⟨by rw [List.length_set]; exact HL.out.1, fun x hx => by rcases List.mem_or_eq_of_mem_set hx with h | h; exact HL.out.2 x h; rw [h]; exact HXL.out⟩, Lib.hid (HO.out.set j (y ^^^ 1)), Lib.hid (HC.out.trans (Chg.setCell _ _ _ HGB.out))⟩
          case measure => simp [intOf]; omega
        · have e1 : decide ((j : Int) < (M : Int)) = false := decide_eq_false (by omega)
          have e1n : decide (j < M) = false := decide_eq_false hlt
          have HI4 : Hid (OverI w (.slice (some ⟨g, 0, none⟩) N c) most n₁ k wr) := HI3.out.chg HC.out (fun i hb => by have := HN1.out; have := HZ1.out; omega) (Nat.le_refl _)
          have HST : Hid (Step w1.heap.size n₁ A2 wr) := by
            have hch : Chg (fun q => n₁ ≤ q) A2 wr := (Chg.of_ext HU.out).trans HC.out
            exact Step.of_chg hch HI2.out.z1 (fun i h1 h2 h3 => by omega)
          have b0 := HI4.out.num.cell
          have f0 := HI4.out.num.frozen
          have bm := HI4.out.most.cell
          have HKI : Hid (k < N ∧ N ≤ 128) := ⟨by have h1 := HK1.out.2; have h2 := HN.out; omega, by omega⟩
          have hw1 : wrap64 ((k : Int) + 1) = ((k + 1 : Nat) : Int) := by have := HKI.out; unfold wrap64; omega
          obtain ⟨k9, hk9⟩ : ∃ k9 : Nat, k9 = k + 1 := ⟨_, rfl⟩
          rw [← hk9] at hw1
          have HK9 := Lib.hid hk9
          have hnum : Boxed wr (w.heap.size + 4) 3 (.int .i64 (k : Int)) := HI4.out.num
          have HNM := Lib.hid hnum
          have HR4 := Lib.hid HI4.out.res
          clear hnum hk9
          by_cases hmost : (k9 : Int) = most
          · have d5 : ((k9 : Int) == most) = true := by simpa using hmost
            have r0 := (boxed_far HR4.out (p := ⟨w.heap.size + 4, 0, none⟩) (by simp) (.int .i64 (k9 : Int))).cell
            have r1 := (boxed_far HR4.out (p := ⟨w.heap.size + 4, 0, none⟩) (by simp) (.int .i64 (k9 : Int))).frozen
            have HR3 := Lib.hid (boxed_far HR4.out (p := ⟨w.heap.size + 4, 0, none⟩) (by simp) (.int .i64 (k9 : Int)))
            clear hmost
            gi_wp2_with fail
            have hS : Chg (fun i => i = w.heap.size + 4 ∨ i = w.heap.size + 2) wr ((wr.setCell ⟨w.heap.size + 4, 0, none⟩ (.int .i64 (k9 : Int))).setCell ⟨w.heap.size + 2, 0, none⟩ (.bool true)) := (Chg.setCell (S := fun i => i = w.heap.size + 4 ∨ i = w.heap.size + 2) _ _ _ (.inl rfl)).trans (Chg.setCell _ _ _ (.inr rfl))
            have hi := HI4.out
            have z1 := HZ1.out
            exact ⟨HST.out.trans (Step.of_chg hS hi.z1 (fun i h1 h2 h3 => by omega)), rfl, hi.below.trans (hS.below (fun i hb => by omega) hi.below.size), HR3.out.set _⟩
          have d5 : ((k9 : Int) == most) = false := by simpa using hmost
          clear hmost
          gi_wp2_with fail
          have hi := HI4.out
          have z1 := HZ1.out
          have hS : Chg (fun i => i = w.heap.size + 4) wr (wr.setCell ⟨w.heap.size + 4, 0, none⟩ (.int .i64 (k9 : Int))) := Chg.setCell _ _ _ rfl
          have hnn := HNM.out.set (.int .i64 (k9 : Int))
          rw [HK9.out] at hS hnn ⊢
          exact ⟨HST.out.trans (Step.of_chg hS hi.z1 (fun i h1 h2 h3 => by omega)), hi.below.trans (hS.below (fun i hb => by omega) hi.below.size), hnn, boxed_chg hi.res hS (fun hb => by omega), boxed_chg hi.most hS (fun hb => by omega), boxed_chg hi.want hS (fun hb => by omega), Nat.le_trans hi.z3 hS.size, Nat.le_trans hi.z1 hS.size⟩
    case obl =>
      refine ⟨fun u hu hd => ?_, ?_⟩
      · have hu2 := Ext.trans (Ext.drew A2) hu
        have q0 := ext_cell hu2 b0
        go_simp
        exact ⟨Ext.refl _, rfl⟩
      refine ⟨fun u hu hd => ?_, ?_⟩
      · simp only [Act.put, List.setIfInBounds_toArray, List.set_cons_zero, List.set_cons_succ]
        have hu2 := Ext.trans (Ext.drew A2) hu
        have q0 := ext_cell hu2 b1
        go_simp
        exact ⟨Ext.refl _, rfl⟩
      refine ⟨fun u hu hd => ?_, ?_⟩
      · simp only [Act.put, List.setIfInBounds_toArray, List.set_cons_zero, List.set_cons_succ]
        have e1 : f1 1 = .slice (some ⟨g, 0, none⟩) N c := hd 1 (by kernel_rfl)
        go_simp
        exact ⟨Ext.refl _, rfl⟩
      refine ⟨fun u hu hd => ?_, ?_⟩
      · simp only [Act.put, List.setIfInBounds_toArray, List.set_cons_zero, List.set_cons_succ]
        have e0 : f1 0 = .int .i64 (k : Int) := hd 0 (by kernel_rfl)
        have e2 : f1 2 = .int .i64 (N : Int) := hd 2 (by kernel_rfl)
        clear hd
        go_simp
        exact ⟨Ext.refl _, rfl⟩
      refine ⟨fun u hu hd => ?_, ?_⟩
      · simp only [Act.put, List.setIfInBounds_toArray, List.set_cons_zero, List.set_cons_succ]
        have e3 : f1 3 = .bool false := hd 3 (by kernel_rfl)
        go_simp
        exact ⟨Ext.refl _, rfl⟩
      refine ⟨fun u hu hd => ?_, ?_⟩
      · simp only [Act.put, List.setIfInBounds_toArray, List.set_cons_zero, List.set_cons_succ]
        have e4 : f1 4 = .bool false := hd 4 (by kernel_rfl)
        go_simp
        exact ⟨Ext.refl _, rfl⟩
      refine ⟨fun u hu hd => ?_, ?_⟩
      · simp only [Act.put, List.setIfInBounds_toArray, List.set_cons_zero, List.set_cons_succ]
        have e4 : f1 4 = .bool false := hd 4 (by kernel_rfl)
        have hu2 := Ext.trans (Ext.drew A2) hu
        have q0 := ext_cell hu2 b1
        go_simp
        exact ⟨Ext.refl _, rfl⟩
      refine ⟨fun u hu hd => ?_, ?_⟩
      · simp only [Act.put, List.setIfInBounds_toArray, List.set_cons_zero, List.set_cons_succ]
        have e4 : f1 4 = .bool false := hd 4 (by kernel_rfl)
        have hu2 := Ext.trans (Ext.drew A2) hu
        have q0 := ext_cell hu2 b0
        go_simp
        exact ⟨Ext.refl _, rfl⟩
      refine ⟨fun u hu hd => ?_, ?_⟩
      · simp only [Act.put, List.setIfInBounds_toArray, List.set_cons_zero, List.set_cons_succ]
        have e4 : f1 4 = .bool false := hd 4 (by kernel_rfl)
        have e6 : f1 6 = .slice (some ⟨g, 0, none⟩) N c := hd 6 (by kernel_rfl)
        have e7 : f1 7 = .int .i64 (k : Int) := hd 7 (by kernel_rfl)
        go_simp
        exact ⟨Ext.refl _, rfl⟩
      refine ⟨fun u hu hd => ?_, ?_⟩
      · simp only [Act.put, List.setIfInBounds_toArray, List.set_cons_zero, List.set_cons_succ]
        have e4 : f1 4 = .bool false := hd 4 (by kernel_rfl)
        have e8 : f1 8 = .pointer (some ⟨g, k * 3, none⟩) := hd 8 (by kernel_rfl)
        go_simp
        exact ⟨Ext.refl _, rfl⟩
      refine ⟨fun u hu hd => ?_, ?_⟩
      · simp only [Act.put, List.setIfInBounds_toArray, List.set_cons_zero, List.set_cons_succ]
        have e4 : f1 4 = .bool false := hd 4 (by kernel_rfl)
        have e9 : f1 9 = .pointer (some ⟨g, k * 3, none⟩) := hd 9 (by kernel_rfl)
        have hu2 := Ext.trans (Ext.drew A2) hu
        have q0 := ext_cell hu2 k0
        go_simp
        exact ⟨Ext.refl _, rfl⟩
      refine ⟨fun u hu hd => ?_, ?_⟩
      · simp only [Act.put, List.setIfInBounds_toArray, List.set_cons_zero, List.set_cons_succ]
        have e4 : f1 4 = .bool false := hd 4 (by kernel_rfl)
        have e5 : f1 5 = .string ⟨f.name.toArray⟩ := hd 5 (by kernel_rfl)
        have e10 : f1 10 = .string ⟨f.name.toArray⟩ := hd 10 (by kernel_rfl)
        clear hd
        go_simp
        exact ⟨Ext.refl _, rfl⟩
      refine ⟨fun u hu hd => ?_, ?_⟩
      · simp only [Act.put, List.setIfInBounds_toArray, List.set_cons_zero, List.set_cons_succ]
        have e4 : f1 4 = .bool false := hd 4 (by kernel_rfl)
        have e11 : f1 11 = .bool false := hd 11 (by kernel_rfl)
        clear hd
        go_simp
        exact ⟨Ext.refl _, rfl⟩
      refine ⟨fun u hu hd => ?_, ?_⟩
      · simp only [Act.put, List.setIfInBounds_toArray, List.set_cons_zero, List.set_cons_succ]
        have e12 : f1 12 = .bool false := hd 12 (by kernel_rfl)
        go_simp
        exact ⟨Ext.refl _, rfl⟩
      refine ⟨fun u hu hd => ?_, ?_⟩
      · simp only [Act.put, List.setIfInBounds_toArray, List.set_cons_zero, List.set_cons_succ]
        have e13 : f1 13 = .bool false := hd 13 (by kernel_rfl)
        go_simp
        exact ⟨Ext.refl _, rfl⟩
      refine ⟨fun u hu hd => ?_, ?_⟩
      · simp only [Act.put, List.setIfInBounds_toArray, List.set_cons_zero, List.set_cons_succ]
        have e13 : f1 13 = .bool false := hd 13 (by kernel_rfl)
        have e14 : f1 14 = .slice VA M vc := hd 14 (by kernel_rfl)
        have hu2 := Ext.trans (Ext.drew A2) hu
        have hcv := cv (show IsBytes (.slice VA dat.length vc) dat u from (HO2.out.below hu2).bs)
        rw [HDAT.out, tx_nat8, ← HDAT.out, ← HM.out] at hcv
        clear hd
        go_simp
        exact ⟨Ext.refl _, rfl⟩
      refine ⟨fun u hu hd => ?_, ?_⟩
      · simp only [Act.put, List.setIfInBounds_toArray, List.set_cons_zero, List.set_cons_succ]
        have e13 : f1 13 = .bool false := hd 13 (by kernel_rfl)
        have hu2 := Ext.trans (Ext.drew A2) hu
        have q0 := ext_cell hu2 b1
        go_simp
        exact ⟨Ext.refl _, rfl⟩
      refine ⟨fun u hu hd => ?_, ?_⟩
      · simp only [Act.put, List.setIfInBounds_toArray, List.set_cons_zero, List.set_cons_succ]
        have e13 : f1 13 = .bool false := hd 13 (by kernel_rfl)
        have hu2 := Ext.trans (Ext.drew A2) hu
        have q0 := ext_cell hu2 b0
        go_simp
        exact ⟨Ext.refl _, rfl⟩
      refine ⟨fun u hu hd => ?_, ?_⟩
      · simp only [Act.put, List.setIfInBounds_toArray, List.set_cons_zero, List.set_cons_succ]
        have e13 : f1 13 = .bool false := hd 13 (by kernel_rfl)
        have e16 : f1 16 = .slice (some ⟨g, 0, none⟩) N c := hd 16 (by kernel_rfl)
        have e17 : f1 17 = .int .i64 (k : Int) := hd 17 (by kernel_rfl)
        go_simp
        exact ⟨Ext.refl _, rfl⟩
      refine ⟨fun u hu hd => ?_, ?_⟩
      · simp only [Act.put, List.setIfInBounds_toArray, List.set_cons_zero, List.set_cons_succ]
        have e13 : f1 13 = .bool false := hd 13 (by kernel_rfl)
        have e18 : f1 18 = .pointer (some ⟨g, k * 3, none⟩) := hd 18 (by kernel_rfl)
        have hu2 := Ext.trans (Ext.drew A2) hu
        have q0 := ext_cell hu2 k0
        have q1 := ext_cell hu2 k1
        have q2 := ext_cell hu2 k2
        go_simp
        exact ⟨Ext.refl _, rfl⟩
      refine ⟨fun u hu hd => ?_, ?_⟩
      · simp only [Act.put, List.setIfInBounds_toArray, List.set_cons_zero, List.set_cons_succ]
        have e13 : f1 13 = .bool false := hd 13 (by kernel_rfl)
        have e19 : f1 19 = .agg #[.string ⟨f.name.toArray⟩, .string ⟨f.sure.toArray⟩, .string ⟨f.loose.toArray⟩] := hd 19 (by kernel_rfl)
        have HFU := Lib.hid (HFA.out u)
        clear hd
        go_simp
        refine HFU.out.mono ?_
        rintro e9 w9 ⟨rfl, hx9⟩
        exact ⟨_, rfl, hx9, rfl⟩
      refine ⟨fun u hu hd => ?_, ?_⟩
      · simp only [Act.put, List.setIfInBounds_toArray, List.set_cons_zero, List.set_cons_succ]
        have e13 : f1 13 = .bool false := hd 13 (by kernel_rfl)
        have e15 : f1 15 = .string ⟨(f.sure ++ f.loose).toArray⟩ := hd 15 (by kernel_rfl)
        have e20 : f1 20 = .string ⟨(f.sure ++ f.loose).toArray⟩ := hd 20 (by kernel_rfl)
        have haa : (({ data := (f.sure ++ f.loose).toArray } : ByteArray).toList == ({ data := (f.sure ++ f.loose).toArray } : ByteArray).toList) = true := by simp
        clear hd
        go_simp
        exact ⟨Ext.refl _, by simp [Is, fact, kept]⟩
      refine ⟨fun u hu hd => ?_, ?_⟩
      · simp only [Act.put, List.setIfInBounds_toArray, List.set_cons_zero, List.set_cons_succ]
        have e13 : f1 13 = .bool false := hd 13 (by kernel_rfl)
        have e21 : f1 21 = .bool false := hd 21 (by kernel_rfl)
        clear hd
        go_simp
        exact ⟨Ext.refl _, rfl⟩
      trivial
  case done =>
    rintro D' n₁ W' hDl hDn hn hi hD
    rw [HLEN.out] at hi
    have HDL := Lib.hid (And.intro hDl hDn)
    have HDD := Lib.hid hD
    have HI := Lib.hid hi
    have q0 := hi.num.cell
    have q1 := hi.want.cell
    have q2 := hi.res.cell
    have f2 := hi.res.frozen
    clear hDl hDn hn hi hD
    gi_wp2
    have hne : D' ≠ w.heap.size + 2 := by have h1 := HDL.out; have h2 := HZ1.out; omega
    have HD2 : Hid ((W'.setCell ⟨w.heap.size + 2, 0, none⟩ (.bool true)).heap[D']? = some (.deferred (some []))) := (Below.heap_setCell _ _ _ _ hne).trans HDD.out
    have HBR : Hid (Boxed (W'.setCell ⟨w.heap.size + 2, 0, none⟩ (.bool true)) (w.heap.size + 2) 4 (.bool true)) := HI.out.res.set _
    have HBW : Hid (Below w.heap.size w (W'.setCell ⟨w.heap.size + 2, 0, none⟩ (.bool true))) := Below.setCell HI.out.below (show w.heap.size ≤ w.heap.size + 2 by omega) _
    refine ⟨by simp, .inl ⟨_, _, rfl, run_takeDeferred HD2.out, ?_⟩⟩
    refine ⟨_, results_cell_bool Try.results38 _ _ (w.heap.size + 2) true rfl (Boxed.cell (boxed_chg HBR.out (putObj_chg _ D' _) (fun e => hne e.symm))), ⟨rfl, ?_⟩⟩
    exact HBW.out.trans ((putObj_chg _ D' _).below (fun i e => by have h1 := HDL.out; have h2 := HZ1.out; omega) HBW.out.size)
  case stop =>
    rintro D' cd W' hDl ⟨rfl, h1, h2⟩ hD
    have HDL := Lib.hid hDl
    have HDD := Lib.hid hD
    have HBR := Lib.hid h2
    have HBW := Lib.hid h1
    clear hDl hD h1 h2
    gi_wp2
    have hne : D' ≠ w.heap.size + 2 := by have h1 := HDL.out; have h2 := HZ1.out; omega
    refine ⟨by simp, .inl ⟨_, _, rfl, run_takeDeferred HDD.out, ?_⟩⟩
    refine ⟨_, results_cell_bool Try.results38 _ _ (w.heap.size + 2) true rfl (Boxed.cell (boxed_chg HBR.out (putObj_chg _ D' _) (fun e => hne e.symm))), ⟨rfl, ?_⟩⟩
    exact HBW.out.trans ((putObj_chg _ D' _).below (fun i e => by have h1 := HDL.out; have h2 := HZ1.out; omega) HBW.out.size)
end Go.Proofs.Ytenhfphgobalfaa

/- The law's has: a disk has these files, by all that can be looked at. -/
namespace Go.Proofs.Ytenhfphgobalfaa
open Go.RowKit Go.Maps Go.Sort Go.Shelf
attribute [local go_sem] Oper.semAt_some

theorem rowN_any {w : World} {B n m : Nat} {t : TypeId} {v : Value} {xs : List Value} (h : w.ownsRow B t m v n xs) : ∃ A c, v = .slice A n c := by
  rcases h.2 with ⟨rfl, h0⟩ | ⟨g, c, cur, rfl, _⟩
  · exact ⟨none, 0, by rw [h0]⟩
  · exact ⟨_, _, rfl⟩
theorem rtot_split (R : List RFl) (k : Nat) : rtot (R.take k) ≤ rtot R := by
  have h : rtot R = rtot (R.take k) + rtot (R.drop k) := by unfold rtot; rw [← List.sum_append, ← List.map_append, List.take_append_drop]
  omega

set_option maxRecDepth 100000 in
set_option maxHeartbeats 16000000 in
theorem has_any {w : World} {S : Nat → Prop} {B d room : Nat} {F : List Fl} (h : Disk w S B d room F) {R : List RFl} {v : Value} (ht : Tie F R) (hs : R.map RFl.name = snames F) (hv : Wnt w v R) :
    Calls Try.prog 14 #[.pointer (some ⟨d, 0, none⟩), .int .i64 (room : Int), v] w fun e w' => e = .returned (.bool true) ∧ Ext w w' := by
  have hlen := ht.len
  obtain ⟨A, c, rfl, hcells⟩ := hv.ex
  obtain ⟨N, hN⟩ : ∃ N, N = R.length := ⟨_, rfl⟩
  have HD := Lib.hid h
  have HNM : Hid (∀ f ∈ R, f.name.length ≤ 32 ∧ good f.name = true) := fun f hf => by
    have h1 := h.names (toFl f) (ht.mem.2 ⟨f, hf, rfl⟩)
    refine ⟨?_, h1⟩
    simp [good] at h1
    exact h1.1.2
  have HCNT := Lib.hid h.cnt
  have HTOT : Hid (rtot R ≤ room ∧ room ≤ 1048576) := ⟨by rw [← ht.tot]; exact h.tot, h.hi⟩
  have HTIE := Lib.hid ht
  have HSN := Lib.hid hs
  have HW := Lib.hid hv
  have HLEN : Hid (F.length = N) := by rw [hN]; exact hlen
  have HN := Lib.hid hN
  rw [← hN]
  have HWV : Hid (Wnt w (.slice A N c) R) := by rw [hN]; exact hv
  have hNI : (N : Int) ≤ 128 := by have := HCNT.out; rw [HLEN.out] at this; omega
  have hRI : (room : Int) ≤ 1048576 := by have := HTOT.out.2; omega
  have HO0 := Lib.hid (fun u (hu : Ext w u) => over_any (HD.out.ext hu) HTIE.out HSN.out (HWV.out.ext hu) 0)
  have HO1 := Lib.hid (fun u (hu : Ext w u) => over_any (HD.out.ext hu) HTIE.out HSN.out (HWV.out.ext hu) 1)
  have HCE := Lib.hid hcells
  clear h ht hs hv hcells hlen hN
  go_enter Try.func14, Try.ntmps14
  go_wp2_with fail
  refine (names_any HD.out).mono ?_
  rintro e w1 ⟨nv, rfl, hrow, hx1⟩
  have HX1 : Hid (Ext w w1) := hx1
  have HROW := Lib.hid hrow
  obtain ⟨nA, nc, rfl⟩ := rowN_any hrow
  rw [HLEN.out] at HROW ⊢
  clear hrow hx1
  go_wp2_with fail
  refine (room_any (HD.out.ext HX1.out)).mono ?_
  rintro e w1' ⟨rfl, hw⟩
  subst hw
  go_wp2_with fail
  refine (HO0.out w1 HX1.out).mono ?_
  rintro e w2 ⟨rfl, hx2⟩
  have HX2 : Hid (Ext w w2) := Ext.trans HX1.out hx2
  have HX12 : Hid (Ext w1 w2) := hx2
  clear hx2
  go_wp2_with fail
  refine (HO1.out w2 HX2.out).mono ?_
  rintro e w3 ⟨rfl, hx3⟩
  have HX3 : Hid (Ext w w3) := Ext.trans HX2.out hx3
  have HX13 : Hid (Ext w1 w3) := Ext.trans HX12.out hx3
  clear hx3
  go_wp2_with fail
  go_loopw [8, 9, 10, 11, 12, 13] (fun s i _ _ _ _ wr => ∃ k : Nat, k ≤ N ∧ i = .int .i64 (k : Int) ∧ s = .int .i64 (rtot (R.take k) : Int) ∧ Hid (Ext w1 wr)) (fun _ i _ _ _ _ _ => N - (intOf i).toNat)
  case atStart => exact ⟨0, Nat.zero_le _, rfl, by simp [rtot], HX13⟩
  case round =>
    obtain ⟨k, hk, rfl, rfl, HX⟩ := hrel
    by_cases hlt : k < N
    · have hkR : k < R.length := by have h2 := HN.out; omega
      obtain ⟨f, hf⟩ : ∃ f : RFl, f = R[k]'hkR := ⟨_, rfl⟩
      have hfm : f ∈ R := by rw [hf]; exact List.getElem_mem hkR
      have hcur : cur F f.name = toFl f := HTIE.out.cur hfm
      obtain ⟨dat, hdat⟩ : ∃ dat, dat = nat8 (f.sure ++ f.loose) := ⟨_, rfl⟩
      have HCUR : Hid ((cur F f.name).data = dat ∧ (cur F f.name).lasts = f.sure.length) := by rw [hcur, hdat]; exact Lib.hid ⟨rfl, rfl⟩
      have hth : there F f.name = true := by rw [HTIE.out.there]; exact List.any_eq_true.2 ⟨f, hfm, by simp⟩
      have hsk : (0 : Int) = seekN F f.name := by unfold seekN; rw [(HNM.out f hfm).2, hth]; rfl
      obtain ⟨g, rfl, hgl, hc0, hc1, hc2⟩ := HCE.out k hkR
      rw [← hf] at hc0 hc1 hc2
      have hsn : (snames F)[k]? = some f.name := by rw [← HSN.out, List.getElem?_map, List.getElem?_eq_getElem hkR, ← hf]; rfl
      have hks : k < ((snames F).map encStr).length := by rw [List.length_map, snames_length, HLEN.out]; exact hlt
      obtain ⟨nb, _, rfl, hncell⟩ := row_cell HROW.out hks
      have hne : ((snames F).map encStr)[k]'hks = encStr f.name := by
        have h1 : ((snames F).map encStr)[k]? = some (encStr f.name) := by rw [List.getElem?_map, hsn]; rfl
        rw [List.getElem?_eq_getElem hks] at h1
        injection h1
      rw [hne] at hncell
      have hXw := Ext.trans HX1.out HX.out
      have k0 := ext_cell hXw hc0
      have k1 := ext_cell hXw hc1
      have k2 := ext_cell hXw hc2
      have kn := ext_cell HX.out hncell
      unfold encStr at k0 k1 k2 kn
      have HFSZ : Hid (f.sure.length + f.loose.length ≤ 1048576) := HW.out.sz f hfm
      have HFN : Hid (f.name.length ≤ 32) := (HNM.out f hfm).1
      have HDAT := Lib.hid hdat
      have d1 : decide ((k : Int) < (N : Int)) = true := decide_eq_true (by omega)
      have d1n : decide (k < N) = true := decide_eq_true hlt
      have n1 : (0 : Int) ≤ (k : Int) := by omega
      have n2 : (k : Int) < (N : Int) := by omega
      have HRE := Lib.hid (fun u (hu : Ext w u) => read_any (HD.out.ext hu) (s := ⟨f.name.toArray⟩) (by have := HFN.out; simp [ByteArray.size, maxLen]; omega) (x := 0) (by simpa using hsk))
      have HLA := Lib.hid (fun u (hu : Ext w u) => lasting_any (HD.out.ext hu) (s := ⟨f.name.toArray⟩) (by have := HFN.out; simp [ByteArray.size, maxLen]; omega) (x := 0) (by simpa using hsk))
      simp only [beq_self_eq_true, HCUR.out.1, HCUR.out.2] at HRE HLA
      have HLT := Lib.hid (And.intro hlt hkR)
      have HSUM : Hid (rtot (R.take (k + 1)) = rtot (R.take k) + (f.sure.length + f.loose.length)) := by have := rtot_take_succ R hkR; rw [← hf] at this; exact this
      have HFA := Lib.hid (fun u => fileAll_any f.name f.sure f.loose u (by have := HFSZ.out; omega))
      unfold encStr at HFA
      clear hf hfm hcur hdat hth hsk hgl hc0 hc1 hc2 hsn hks hncell hne HCUR HO0 HO1
      go_wp2_with fail
      refine (HRE.out wr hXw).mono ?_
      rintro e w4 ⟨bv4, rfl, hrow4, hx4⟩
      have HX4 : Hid (Ext wr w4) := hx4
      have HO4 : Hid (Own wr.heap.size dat bv4 w4) := hrow4
      obtain ⟨bA, bc, rfl⟩ := HO4.out.slice
      have kn4 := ext_cell hx4 kn
      clear hrow4 hx4
      go_wp2_with fail
      refine (HLA.out w4 (Ext.trans hXw HX4.out)).mono ?_
      rintro e w5 ⟨rfl, hx5⟩
      have HX5 : Hid (Ext wr w5) := Ext.trans HX4.out hx5
      have HO5 := Lib.hid (HO4.out.below hx5)
      replace kn := ext_cell HX5.out kn
      replace k0 := ext_cell HX5.out k0
      replace k1 := ext_cell HX5.out k1
      replace k2 := ext_cell HX5.out k2
      obtain ⟨M, hM⟩ : ∃ M, M = dat.length := ⟨_, rfl⟩
      rw [← hM]
      have HM := Lib.hid hM
      have HMI : Hid (M = f.sure.length + f.loose.length) := by rw [hM, HDAT.out, nat8_len, List.length_append]; exact Lib.hid rfl
      clear hx5 kn4 hM HRE HLA
      go_upto_region 9 with (fail)
      refine flow (by kernel_rfl) [Is (.slice (some ⟨nb, 0, none⟩) N nc), Is (.int .i64 (k : Int)), Is (.pointer (some ⟨nb, k, none⟩)), Is (.string ⟨f.name.toArray⟩), Is (.slice (some ⟨g, 0, none⟩) N c), Is (.int .i64 (k : Int)), Is (.pointer (some ⟨g, k * 3, none⟩)), Is (.pointer (some ⟨g, k * 3, none⟩)), Is (.string ⟨f.name.toArray⟩), Is (.bool false), Is (.bool false), Is (.slice bA M bc), Is (.string ⟨(f.sure ++ f.loose).toArray⟩), Is (.slice (some ⟨g, 0, none⟩) N c), Is (.int .i64 (k : Int)), Is (.pointer (some ⟨g, k * 3, none⟩)), Is (.agg #[.string ⟨f.name.toArray⟩, .string ⟨f.sure.toArray⟩, .string ⟨f.loose.toArray⟩]), Is (.string ⟨(f.sure ++ f.loose).toArray⟩), Is (.bool false), Is (.bool false), Is (.bool false), Is (.int .i64 (f.sure.length : Int)), Is (.slice (some ⟨g, 0, none⟩) N c), Is (.int .i64 (k : Int)), Is (.pointer (some ⟨g, k * 3, none⟩)), Is (.pointer (some ⟨g, k * 3 + 1, none⟩)), Is (.string ⟨f.sure.toArray⟩), Is (.int .i64 (f.sure.length : Int)), Is (.bool false), Is (.bool false), Is (.bool false), Is (.int .i64 0), Is (.int .i64 0), Is (.int .i64 0), Is (.int .i64 0), Is (.int .i64 0), Is (.bool false), Is (.bool false)] (by kernel_rfl) (by kernel_rfl) ?mono (fun f1 => ?obl) ?fin
      case mono =>
        simp only [List.forall_mem_cons, List.not_mem_nil, false_imp_iff, implies_true, and_true]
        exact ⟨.is _, .is _, .is _, .is _, .is _, .is _, .is _, .is _, .is _, .is _, .is _, .is _, .is _, .is _, .is _, .is _, .is _, .is _, .is _, .is _, .is _, .is _, .is _, .is _, .is _, .is _, .is _, .is _, .is _, .is _, .is _, .is _, .is _, .is _, .is _, .is _, .is _, .is _⟩
      case fin =>
        intro g1 u hu hg
        simp only [puts, Act.put, List.setIfInBounds_toArray, List.set_cons_zero, List.set_cons_succ]
        have h37 : g1 37 = .bool false := hg 37 (by decide)
        rw [h37]
        have HU : Hid (Ext w1 u) := Ext.trans HX.out (Ext.trans HX5.out (Ext.trans (Ext.drew w5) hu))
        have hsum : wrap64 ((rtot (R.take k) : Int) + (M : Int)) = (rtot (R.take (k + 1)) : Int) := by
          have h1 := HSUM.out
          have h2 := HMI.out
          have h3 := rtot_split R (k + 1)
          have h4 := HTOT.out
          unfold wrap64
          omega
        obtain ⟨s2, hs2⟩ : ∃ s2, s2 = rtot (R.take (k + 1)) := ⟨_, rfl⟩
        rw [← hs2] at hsum
        have HS2 := Lib.hid hs2
        clear h37 hg hu kn k0 k1 k2 hXw hs2
        go_wp2_with fail
        go_roundw
        case rel => exact ⟨k + 1, by omega, by go_num, by rw [hsum, HS2.out], HU⟩
        case measure => simp [intOf]; omega
      case obl =>
        refine ⟨fun u hu hd => ?_, ?_⟩
        · go_simp
          exact ⟨Ext.refl _, rfl⟩
        refine ⟨fun u hu hd => ?_, ?_⟩
        · simp only [Act.put, List.setIfInBounds_toArray, List.set_cons_zero, List.set_cons_succ]
          go_simp
          exact ⟨Ext.refl _, rfl⟩
        refine ⟨fun u hu hd => ?_, ?_⟩
        · simp only [Act.put, List.setIfInBounds_toArray, List.set_cons_zero, List.set_cons_succ]
          have e0 : f1 0 = .slice (some ⟨nb, 0, none⟩) N nc := hd 0 (by kernel_rfl)
          have e1 : f1 1 = .int .i64 (k : Int) := hd 1 (by kernel_rfl)
          go_simp
          exact ⟨Ext.refl _, rfl⟩
        refine ⟨fun u hu hd => ?_, ?_⟩
        · simp only [Act.put, List.setIfInBounds_toArray, List.set_cons_zero, List.set_cons_succ]
          have e2 : f1 2 = .pointer (some ⟨nb, k, none⟩) := hd 2 (by kernel_rfl)
          have hu2 := Ext.trans (Ext.drew w5) hu
          have q0 := ext_cell hu2 kn
          go_simp
          exact ⟨Ext.refl _, rfl⟩
        refine ⟨fun u hu hd => ?_, ?_⟩
        · simp only [Act.put, List.setIfInBounds_toArray, List.set_cons_zero, List.set_cons_succ]
          go_simp
          exact ⟨Ext.refl _, rfl⟩
        refine ⟨fun u hu hd => ?_, ?_⟩
        · simp only [Act.put, List.setIfInBounds_toArray, List.set_cons_zero, List.set_cons_succ]
          go_simp
          exact ⟨Ext.refl _, rfl⟩
        refine ⟨fun u hu hd => ?_, ?_⟩
        · simp only [Act.put, List.setIfInBounds_toArray, List.set_cons_zero, List.set_cons_succ]
          have e4 : f1 4 = .slice (some ⟨g, 0, none⟩) N c := hd 4 (by kernel_rfl)
          have e5 : f1 5 = .int .i64 (k : Int) := hd 5 (by kernel_rfl)
          go_simp
          exact ⟨Ext.refl _, rfl⟩
        refine ⟨fun u hu hd => ?_, ?_⟩
        · simp only [Act.put, List.setIfInBounds_toArray, List.set_cons_zero, List.set_cons_succ]
          have e6 : f1 6 = .pointer (some ⟨g, k * 3, none⟩) := hd 6 (by kernel_rfl)
          go_simp
          exact ⟨Ext.refl _, rfl⟩
        refine ⟨fun u hu hd => ?_, ?_⟩
        · simp only [Act.put, List.setIfInBounds_toArray, List.set_cons_zero, List.set_cons_succ]
          have e7 : f1 7 = .pointer (some ⟨g, k * 3, none⟩) := hd 7 (by kernel_rfl)
          have hu2 := Ext.trans (Ext.drew w5) hu
          have q0 := ext_cell hu2 k0
          go_simp
          exact ⟨Ext.refl _, rfl⟩
        refine ⟨fun u hu hd => ?_, ?_⟩
        · simp only [Act.put, List.setIfInBounds_toArray, List.set_cons_zero, List.set_cons_succ]
          have e3 : f1 3 = .string ⟨f.name.toArray⟩ := hd 3 (by kernel_rfl)
          have e8 : f1 8 = .string ⟨f.name.toArray⟩ := hd 8 (by kernel_rfl)
          have hnn : (({ data := f.name.toArray } : ByteArray).toList == ({ data := f.name.toArray } : ByteArray).toList) = true := by simp
          clear hd
          go_simp
          exact ⟨Ext.refl _, rfl⟩
        refine ⟨fun u hu hd => ?_, ?_⟩
        · simp only [Act.put, List.setIfInBounds_toArray, List.set_cons_zero, List.set_cons_succ]
          have e9 : f1 9 = .bool false := hd 9 (by kernel_rfl)
          go_simp
          exact ⟨Ext.refl _, rfl⟩
        refine ⟨fun u hu hd => ?_, ?_⟩
        · simp only [Act.put, List.setIfInBounds_toArray, List.set_cons_zero, List.set_cons_succ]
          have e10 : f1 10 = .bool false := hd 10 (by kernel_rfl)
          go_simp
          exact ⟨Ext.refl _, rfl⟩
        refine ⟨fun u hu hd => ?_, ?_⟩
        · simp only [Act.put, List.setIfInBounds_toArray, List.set_cons_zero, List.set_cons_succ]
          have e10 : f1 10 = .bool false := hd 10 (by kernel_rfl)
          have e11 : f1 11 = .slice bA M bc := hd 11 (by kernel_rfl)
          have hu2 := Ext.trans (Ext.drew w5) hu
          have hcv := cv (show IsBytes (.slice bA dat.length bc) dat u from (HO5.out.below hu2).bs)
          rw [HDAT.out, tx_nat8, ← HDAT.out, ← HM.out] at hcv
          clear hd
          go_simp
          exact ⟨Ext.refl _, rfl⟩
        refine ⟨fun u hu hd => ?_, ?_⟩
        · simp only [Act.put, List.setIfInBounds_toArray, List.set_cons_zero, List.set_cons_succ]
          have e10 : f1 10 = .bool false := hd 10 (by kernel_rfl)
          go_simp
          exact ⟨Ext.refl _, rfl⟩
        refine ⟨fun u hu hd => ?_, ?_⟩
        · simp only [Act.put, List.setIfInBounds_toArray, List.set_cons_zero, List.set_cons_succ]
          have e10 : f1 10 = .bool false := hd 10 (by kernel_rfl)
          go_simp
          exact ⟨Ext.refl _, rfl⟩
        refine ⟨fun u hu hd => ?_, ?_⟩
        · simp only [Act.put, List.setIfInBounds_toArray, List.set_cons_zero, List.set_cons_succ]
          have e10 : f1 10 = .bool false := hd 10 (by kernel_rfl)
          have e13 : f1 13 = .slice (some ⟨g, 0, none⟩) N c := hd 13 (by kernel_rfl)
          have e14 : f1 14 = .int .i64 (k : Int) := hd 14 (by kernel_rfl)
          go_simp
          exact ⟨Ext.refl _, rfl⟩
        refine ⟨fun u hu hd => ?_, ?_⟩
        · simp only [Act.put, List.setIfInBounds_toArray, List.set_cons_zero, List.set_cons_succ]
          have e10 : f1 10 = .bool false := hd 10 (by kernel_rfl)
          have e15 : f1 15 = .pointer (some ⟨g, k * 3, none⟩) := hd 15 (by kernel_rfl)
          have hu2 := Ext.trans (Ext.drew w5) hu
          have q0 := ext_cell hu2 k0
          have q1 := ext_cell hu2 k1
          have q2 := ext_cell hu2 k2
          go_simp
          exact ⟨Ext.refl _, rfl⟩
        refine ⟨fun u hu hd => ?_, ?_⟩
        · simp only [Act.put, List.setIfInBounds_toArray, List.set_cons_zero, List.set_cons_succ]
          have e10 : f1 10 = .bool false := hd 10 (by kernel_rfl)
          have e16 : f1 16 = .agg #[.string ⟨f.name.toArray⟩, .string ⟨f.sure.toArray⟩, .string ⟨f.loose.toArray⟩] := hd 16 (by kernel_rfl)
          have HFU := Lib.hid (HFA.out u)
          clear hd
          go_simp
          refine HFU.out.mono ?_
          rintro e9 w9 ⟨rfl, hx9⟩
          exact ⟨_, rfl, hx9, rfl⟩
        refine ⟨fun u hu hd => ?_, ?_⟩
        · simp only [Act.put, List.setIfInBounds_toArray, List.set_cons_zero, List.set_cons_succ]
          have e10 : f1 10 = .bool false := hd 10 (by kernel_rfl)
          have e12 : f1 12 = .string ⟨(f.sure ++ f.loose).toArray⟩ := hd 12 (by kernel_rfl)
          have e17 : f1 17 = .string ⟨(f.sure ++ f.loose).toArray⟩ := hd 17 (by kernel_rfl)
          have haa : (({ data := (f.sure ++ f.loose).toArray } : ByteArray).toList == ({ data := (f.sure ++ f.loose).toArray } : ByteArray).toList) = true := by simp
          clear hd
          go_simp
          exact ⟨Ext.refl _, by simp [Is, fact, kept]⟩
        refine ⟨fun u hu hd => ?_, ?_⟩
        · simp only [Act.put, List.setIfInBounds_toArray, List.set_cons_zero, List.set_cons_succ]
          have e10 : f1 10 = .bool false := hd 10 (by kernel_rfl)
          have e18 : f1 18 = .bool false := hd 18 (by kernel_rfl)
          clear hd
          go_simp
          exact ⟨Ext.refl _, rfl⟩
        refine ⟨fun u hu hd => ?_, ?_⟩
        · simp only [Act.put, List.setIfInBounds_toArray, List.set_cons_zero, List.set_cons_succ]
          have e19 : f1 19 = .bool false := hd 19 (by kernel_rfl)
          go_simp
          exact ⟨Ext.refl _, rfl⟩
        refine ⟨fun u hu hd => ?_, ?_⟩
        · simp only [Act.put, List.setIfInBounds_toArray, List.set_cons_zero, List.set_cons_succ]
          have e20 : f1 20 = .bool false := hd 20 (by kernel_rfl)
          go_simp
          exact ⟨Ext.refl _, rfl⟩
        refine ⟨fun u hu hd => ?_, ?_⟩
        · simp only [Act.put, List.setIfInBounds_toArray, List.set_cons_zero, List.set_cons_succ]
          have e20 : f1 20 = .bool false := hd 20 (by kernel_rfl)
          go_simp
          exact ⟨Ext.refl _, rfl⟩
        refine ⟨fun u hu hd => ?_, ?_⟩
        · simp only [Act.put, List.setIfInBounds_toArray, List.set_cons_zero, List.set_cons_succ]
          have e20 : f1 20 = .bool false := hd 20 (by kernel_rfl)
          go_simp
          exact ⟨Ext.refl _, rfl⟩
        refine ⟨fun u hu hd => ?_, ?_⟩
        · simp only [Act.put, List.setIfInBounds_toArray, List.set_cons_zero, List.set_cons_succ]
          have e20 : f1 20 = .bool false := hd 20 (by kernel_rfl)
          have e22 : f1 22 = .slice (some ⟨g, 0, none⟩) N c := hd 22 (by kernel_rfl)
          have e23 : f1 23 = .int .i64 (k : Int) := hd 23 (by kernel_rfl)
          go_simp
          exact ⟨Ext.refl _, rfl⟩
        refine ⟨fun u hu hd => ?_, ?_⟩
        · simp only [Act.put, List.setIfInBounds_toArray, List.set_cons_zero, List.set_cons_succ]
          have e20 : f1 20 = .bool false := hd 20 (by kernel_rfl)
          have e24 : f1 24 = .pointer (some ⟨g, k * 3, none⟩) := hd 24 (by kernel_rfl)
          go_simp
          exact ⟨Ext.refl _, rfl⟩
        refine ⟨fun u hu hd => ?_, ?_⟩
        · simp only [Act.put, List.setIfInBounds_toArray, List.set_cons_zero, List.set_cons_succ]
          have e20 : f1 20 = .bool false := hd 20 (by kernel_rfl)
          have e25 : f1 25 = .pointer (some ⟨g, k * 3 + 1, none⟩) := hd 25 (by kernel_rfl)
          have hu2 := Ext.trans (Ext.drew w5) hu
          have q0 := ext_cell hu2 k1
          go_simp
          exact ⟨Ext.refl _, rfl⟩
        refine ⟨fun u hu hd => ?_, ?_⟩
        · simp only [Act.put, List.setIfInBounds_toArray, List.set_cons_zero, List.set_cons_succ]
          have e20 : f1 20 = .bool false := hd 20 (by kernel_rfl)
          have e26 : f1 26 = .string ⟨f.sure.toArray⟩ := hd 26 (by kernel_rfl)
          clear hd
          go_simp
          exact ⟨Ext.refl _, by simp [Is, fact, kept]⟩
        refine ⟨fun u hu hd => ?_, ?_⟩
        · simp only [Act.put, List.setIfInBounds_toArray, List.set_cons_zero, List.set_cons_succ]
          have e20 : f1 20 = .bool false := hd 20 (by kernel_rfl)
          have e21 : f1 21 = .int .i64 (f.sure.length : Int) := hd 21 (by kernel_rfl)
          have e27 : f1 27 = .int .i64 (f.sure.length : Int) := hd 27 (by kernel_rfl)
          clear hd
          have hll : ((f.sure.length : Int) != (f.sure.length : Int)) = false := by simp
          go_simp
          exact ⟨Ext.refl _, rfl⟩
        refine ⟨fun u hu hd => ?_, ?_⟩
        · simp only [Act.put, List.setIfInBounds_toArray, List.set_cons_zero, List.set_cons_succ]
          have e20 : f1 20 = .bool false := hd 20 (by kernel_rfl)
          have e28 : f1 28 = .bool false := hd 28 (by kernel_rfl)
          clear hd
          go_simp
          exact ⟨Ext.refl _, rfl⟩
        refine ⟨fun u hu hd => ?_, ?_⟩
        · simp only [Act.put, List.setIfInBounds_toArray, List.set_cons_zero, List.set_cons_succ]
          have e29 : f1 29 = .bool false := hd 29 (by kernel_rfl)
          go_simp
          exact ⟨Ext.refl _, rfl⟩
        refine ⟨fun u hu hd => ?_, ?_⟩
        · simp only [Act.put, List.setIfInBounds_toArray, List.set_cons_zero, List.set_cons_succ]
          have e30 : f1 30 = .bool false := hd 30 (by kernel_rfl)
          go_simp
          exact ⟨Ext.refl _, rfl⟩
        refine ⟨fun u hu hd => ?_, ?_⟩
        · simp only [Act.put, List.setIfInBounds_toArray, List.set_cons_zero, List.set_cons_succ]
          have e30 : f1 30 = .bool false := hd 30 (by kernel_rfl)
          have e31 : f1 31 = .int .i64 0 := hd 31 (by kernel_rfl)
          clear hd
          go_simp
          refine (num_any _ _).mono ?_
          rintro e9 w9 ⟨rfl, rfl⟩
          exact ⟨_, rfl, Ext.refl _, rfl⟩
        refine ⟨fun u hu hd => ?_, ?_⟩
        · simp only [Act.put, List.setIfInBounds_toArray, List.set_cons_zero, List.set_cons_succ]
          have e30 : f1 30 = .bool false := hd 30 (by kernel_rfl)
          go_simp
          exact ⟨Ext.refl _, rfl⟩
        refine ⟨fun u hu hd => ?_, ?_⟩
        · simp only [Act.put, List.setIfInBounds_toArray, List.set_cons_zero, List.set_cons_succ]
          have e30 : f1 30 = .bool false := hd 30 (by kernel_rfl)
          have e33 : f1 33 = .int .i64 0 := hd 33 (by kernel_rfl)
          clear hd
          go_simp
          refine (num_any _ _).mono ?_
          rintro e9 w9 ⟨rfl, rfl⟩
          exact ⟨_, rfl, Ext.refl _, rfl⟩
        refine ⟨fun u hu hd => ?_, ?_⟩
        · simp only [Act.put, List.setIfInBounds_toArray, List.set_cons_zero, List.set_cons_succ]
          have e30 : f1 30 = .bool false := hd 30 (by kernel_rfl)
          have e32 : f1 32 = .int .i64 0 := hd 32 (by kernel_rfl)
          have e34 : f1 34 = .int .i64 0 := hd 34 (by kernel_rfl)
          clear hd
          go_simp
          exact ⟨Ext.refl _, rfl⟩
        refine ⟨fun u hu hd => ?_, ?_⟩
        · simp only [Act.put, List.setIfInBounds_toArray, List.set_cons_zero, List.set_cons_succ]
          have e30 : f1 30 = .bool false := hd 30 (by kernel_rfl)
          have e35 : f1 35 = .int .i64 0 := hd 35 (by kernel_rfl)
          clear hd
          go_simp
          exact ⟨Ext.refl _, rfl⟩
        refine ⟨fun u hu hd => ?_, ?_⟩
        · simp only [Act.put, List.setIfInBounds_toArray, List.set_cons_zero, List.set_cons_succ]
          have e30 : f1 30 = .bool false := hd 30 (by kernel_rfl)
          have e36 : f1 36 = .bool false := hd 36 (by kernel_rfl)
          clear hd
          go_simp
          exact ⟨Ext.refl _, rfl⟩
        trivial
    · have d1 : decide ((k : Int) < (N : Int)) = false := decide_eq_false (by omega)
      have d1n : decide (k < N) = false := decide_eq_false hlt
      have hkn : k = N := by omega
      have HUS := Lib.hid (Used_any (HD.out.ext (Ext.trans HX1.out HX.out)))
      rw [HTIE.out.tot] at HUS
      have htk : R.take k = R := by rw [hkn, HN.out, List.take_length]
      rw [htk]
      obtain ⟨U, hU⟩ : ∃ U, U = rtot R := ⟨_, rfl⟩
      rw [← hU] at HUS ⊢
      have dle : decide ((U : Int) ≤ (room : Int)) = true := decide_eq_true (by have := HTOT.out.1; omega)
      have dlen : decide (U ≤ room) = true := decide_eq_true (by have := HTOT.out.1; omega)
      clear htk hU hkn
      go_wp2_with fail
      refine HUS.out.mono ?_
      rintro e w6 ⟨rfl, hx6⟩
      have HX6 : Hid (Ext w w6) := Ext.trans (Ext.trans HX1.out HX.out) hx6
      clear hx6
      go_wp2_with fail
      go_ret
      exact ⟨rfl, HX6.out⟩
end Go.Proofs.Ytenhfphgobalfaa

/- A disk of the program's and one of the reference's that hold the same files, beside others, behind a beginning w0. -/
namespace Go.Proofs.Ytenhfphgobalfaa
open Go.RowKit Go.Maps
set_option linter.unusedVariables false

/-- Both disks. -/
structure Bo (w0 : World) (d r room : Nat) (F : List Fl) (G : List RFl) (L : List Dk) (P : World → Prop) (w : World) : Prop where
  live : Lives w0.heap.size ((d, room, F) :: L) (fun u => RD u w0.heap.size r room G ∧ (Ext w0 u ∧ P u)) w
  tie : Tie F G
section
variable {w0 w w' : World} {d r room : Nat} {F : List Fl} {G : List RFl} {L : List Dk} {P Q : World → Prop}
theorem Bo.rd (h : Bo w0 d r room F G L P w) : RD w w0.heap.size r room G := h.live.here.1
theorem Bo.base (h : Bo w0 d r room F G L P w) : Ext w0 w := h.live.here.2.1
theorem Bo.p (h : Bo w0 d r room F G L P w) : P w := h.live.here.2.2
theorem Bo.le (h : Bo w0 d r room F G L P w) : w0.heap.size ≤ r := h.rd.le
theorem Bo.ext (h : Bo w0 d r room F G L P w) (hx : Ext w w') : Bo w0 d r room F G L P w' := ⟨h.live.ext hx, h.tie⟩
theorem Bo.imp (h : Bo w0 d r room F G L P w) (hq : ∀ u, P u → Q u) : Bo w0 d r room F G L Q w := ⟨h.live.imp fun u hu => ⟨hu.1, hu.2.1, hq u hu.2.2⟩, h.tie⟩
theorem Bo.disk (h : Bo w0 d r room F G L P w) : ∃ S, Disk w S w0.heap.size d room F := h.live.disk
theorem Bo.nums (h : Bo w0 d r room F G L P w) : 1024 ≤ room ∧ room ≤ 1048576 ∧ tot F ≤ room ∧ F.length ≤ 128 := by
  obtain ⟨S, hd⟩ := h.disk
  exact ⟨hd.lo, hd.hi, hd.tot, hd.cnt⟩
theorem Bo.good (h : Bo w0 d r room F G L P w) : ∀ f ∈ F, good f.name = true := by
  obtain ⟨S, hd⟩ := h.disk
  exact hd.names
theorem Bo.sz (h : Bo w0 d r room F G L P w) : w0.heap.size ≤ w.heap.size := h.base.size
/-- What is new says Q. -/
theorem Bo.add (h : Bo w0 d r room F G L P w) (hx : Ext w w') (hQ : ∀ w'', (∀ k, w.heap.size ≤ k → k < w'.heap.size → w''.heap[k]? = w'.heap[k]?) → w'.heap.size ≤ w''.heap.size → Q w'') : Bo w0 d r room F G L (fun u => P u ∧ Q u) w' :=
  ⟨(h.live.add hx hQ).imp fun u hu => ⟨hu.1.1, hu.1.2.1, hu.1.2.2, hu.2⟩, h.tie⟩
theorem Stab.base (h : w0.heap.size ≤ r) (hP : Stab r P) : Stab r (fun u => Ext w0 u ∧ P u) := (Stab.below h).and hP
/-- New ones. -/
theorem Bo.new {w1 w2 : World} (hd : Disk w1 (Frm w0.heap.size) w0.heap.size d room []) (hx : Ext w0 w1) (hr : RD w2 w1.heap.size r room []) (hx2 : Ext w1 w2) : Bo w0 d r room [] [] [] (fun _ => True) w2 := by
  have h1 : Lives w0.heap.size [(d, room, [])] (fun u => Ext w0 u ∧ True) w1 := (Lives.none w0.heap.size (w := w0) (P := fun u => Ext w0 u ∧ True) (fun _ h => ⟨h, trivial⟩)).other hx hd (Nat.le_refl _)
  exact ⟨h1.newref hx2 hr hx.size, Tie.nil⟩
theorem snames_eq {R : List RFl} (ht : Tie F R) (hs : SdF R) : R.map RFl.name = snames F := by
  have h1 : snames F = (R.map RFl.name).mergeSort (fun x y => decide (x ≤ y)) := by
    refine Go.mergeSort_of_perm ?_
    exact (ht.perm.map Fl.name).trans (List.Perm.of_eq (map_toFl R))
  rw [h1]
  refine (List.mergeSort_of_pairwise ?_).symm
  refine List.Pairwise.map RFl.name (S := fun a b => decide (a ≤ b) = true) (fun a b hab => ?_) hs
  exact decide_eq_true hab
/-- The reference's files, looked at. -/
theorem files_bo (h : Bo w0 d r room F G L P w) : Calls Try.prog 16 #[.pointer (some ⟨r, 0, none⟩)] w fun e w' => ∃ v R, e = .returned v ∧ Wnt w' v R ∧ Tie F R ∧ R.map RFl.name = snames F ∧ R.Perm G ∧ Ext w w' := by
  refine (filesRef_any h.rd).mono ?_
  rintro e w' ⟨v, R, h1, h2, rfl, h3, h4⟩
  have ht := h.tie.turn h1.symm
  exact ⟨v, R, rfl, Wnt.of_row h3 (fun f hf => (h.rd.sz f (h1.mem_iff.1 hf)).2), ht, snames_eq ht h2, h1, h4⟩
theorem has_bo (h : Bo w0 d r room F G L P w) {R : List RFl} {v : Value} (hw : Wnt w v R) (ht : Tie F R) (hs : R.map RFl.name = snames F) {x : Int} (hx : x = (room : Int)) :
    Calls Try.prog 14 #[.pointer (some ⟨d, 0, none⟩), .int .i64 x, v] w fun e w' => e = .returned (.bool true) ∧ Ext w w' := by
  subst hx
  obtain ⟨S, hd⟩ := h.disk
  exact has_any hd ht hs hw
/-! The two disks' calls, one behind the other: between them the program's has gone ahead. -/
/-- The program's disk has F', the reference's G yet. -/
structure Mid (w0 : World) (d r room : Nat) (F' F : List Fl) (G : List RFl) (L : List Dk) (P : World → Prop) (w : World) : Prop where
  live : Lives w0.heap.size ((d, room, F') :: L) (fun u => RD u w0.heap.size r room G ∧ (Ext w0 u ∧ P u)) w
  tie : Tie F G
  le : w0.heap.size ≤ r
theorem Mid.p {F' : List Fl} (h : Mid w0 d r room F' F G L P w) : Ext w0 w ∧ P w := h.live.here.2
theorem sync_mid (h : Bo w0 d r room F G L P w) {s : ByteArray} (hs : s.size ≤ maxLen) {x : Int} (hx : x = seekN F s.data.toList) :
    Calls Try.prog 23 #[.pointer (some ⟨d, 0, none⟩), .string s] w fun e w' => e = .returned (.int .i64 x) ∧ Mid w0 d r room (iff0 x (syn F s.data.toList) F) F G L P w' :=
  (sync_live h.live hs hx rfl).mono fun e w' hc => ⟨hc.1, hc.2, h.tie, h.le⟩
theorem sync_end {x : Int} {s : ByteArray} (h : Mid w0 d r room (iff0 x (syn F s.data.toList) F) F G L P w) (hs : s.size ≤ maxLen) (hx : x = seekN F s.data.toList) (hP : Stab r P) :
    Calls Try.prog 27 #[.pointer (some ⟨r, 0, none⟩), .string s] w fun e w' => e = .returned (.int .i64 x) ∧ ∃ G', Bo w0 d r room (iff0 x (syn F s.data.toList) F) G' L P w' :=
  (sync_ref h.live (Stab.base h.le hP) h.tie s hs hx).mono fun e w' ⟨G', h1, h2, h3⟩ => ⟨h1, G', h2, h3⟩
theorem remove_mid (h : Bo w0 d r room F G L P w) {s : ByteArray} (hs : s.size ≤ maxLen) {x : Int} (hx : x = seekN F s.data.toList) :
    Calls Try.prog 22 #[.pointer (some ⟨d, 0, none⟩), .string s] w fun e w' => e = .returned (.int .i64 x) ∧ Mid w0 d r room (iff0 x (del F s.data.toList) F) F G L P w' :=
  (remove_live h.live hs hx rfl).mono fun e w' hc => ⟨hc.1, hc.2, h.tie, h.le⟩
theorem remove_end {x : Int} {s : ByteArray} (h : Mid w0 d r room (iff0 x (del F s.data.toList) F) F G L P w) (hs : s.size ≤ maxLen) (hx : x = seekN F s.data.toList) (hP : Stab r P) :
    Calls Try.prog 31 #[.pointer (some ⟨r, 0, none⟩), .string s] w fun e w' => e = .returned (.int .i64 x) ∧ ∃ G', Bo w0 d r room (iff0 x (del F s.data.toList) F) G' L P w' :=
  (remove_ref h.live (Stab.base h.le hP) h.tie s hs hx).mono fun e w' ⟨G', h1, h2, h3⟩ => ⟨h1, G', h2, h3⟩
theorem rename_mid (h : Bo w0 d r room F G L P w) {s t : ByteArray} (hs : s.size ≤ maxLen) (ht : t.size ≤ maxLen) {x : Int} (hx : x = seek2 F s.data.toList t.data.toList) :
    Calls Try.prog 28 #[.pointer (some ⟨d, 0, none⟩), .string s, .string t] w fun e w' => e = .returned (.int .i64 x) ∧ Mid w0 d r room (iff0 x (ren F s.data.toList t.data.toList) F) F G L P w' :=
  (rename_live h.live hs ht hx rfl).mono fun e w' hc => ⟨hc.1, hc.2, h.tie, h.le⟩
theorem rename_end {x : Int} {s t : ByteArray} (h : Mid w0 d r room (iff0 x (ren F s.data.toList t.data.toList) F) F G L P w) (hs : s.size ≤ maxLen) (ht : t.size ≤ maxLen) (hx : x = seek2 F s.data.toList t.data.toList) (hP : Stab r P) :
    Calls Try.prog 39 #[.pointer (some ⟨r, 0, none⟩), .string s, .string t] w fun e w' => e = .returned (.int .i64 x) ∧ ∃ G', Bo w0 d r room (iff0 x (ren F s.data.toList t.data.toList) F) G' L P w' :=
  (rename_ref h.live (Stab.base h.le hP) h.tie s t hs ht hx).mono fun e w' ⟨G', h1, h2, h3⟩ => ⟨h1, G', h2, h3⟩
theorem append_mid (h : Bo w0 d r room F G L P w) {s : ByteArray} (hs : s.size ≤ maxLen) {vb : Value} {bs : List UInt8} {lo hi M : Nat} (hb : Bs w lo hi vb (nat8 bs)) (hhi : hi ≤ w.heap.size) (hM : M = bs.length) {x : Int} (hx : x = appN F room M s.data.toList) :
    Calls Try.prog 25 #[.pointer (some ⟨d, 0, none⟩), .string s, vb] w fun e w' => e = .returned (.int .i64 x) ∧ Mid w0 d r room (iff0 x (app F s.data.toList (nat8 bs)) F) F G L P w' :=
  (append_live h.live hs hb hhi (nat8_lt bs) (by rw [nat8_len, ← hM]; exact hx) rfl).mono fun e w' hc => ⟨hc.1, hc.2, h.tie, h.le⟩
theorem append_end {x : Int} {s : ByteArray} {bs : List UInt8} {F' : List Fl} (h : Mid w0 d r room F' F G L P w) (hF : F' = iff0 x (app F s.data.toList (nat8 bs)) F) (hn : room ≤ 1048576 ∧ tot F ≤ room ∧ F.length ≤ 128) (hs : s.size ≤ maxLen) {A0 : Option Addr} {M c0 lo hi : Nat} (hb : Bs w lo hi (.slice A0 M c0) (nat8 bs)) (hhi : hi ≤ w.heap.size) (hM : M = bs.length) (hL : M ≤ 1099511627776) (hx : x = appN F room M s.data.toList) (hP : Stab r P) :
    Calls Try.prog 26 #[.pointer (some ⟨r, 0, none⟩), .string s, .slice A0 M c0] w fun e w' => e = .returned (.int .i64 x) ∧ ∃ G', Bo w0 d r room F' G' L P w' := by
  subst hF
  exact (append_ref h.live (Stab.base h.le hP) h.tie hn.1 hn.2.1 hn.2.2 s hs hb hhi hM hL hx).mono fun e w' ⟨G', h1, h2, h3⟩ => ⟨h1, G', h2, h3⟩
end
end Go.Proofs.Ytenhfphgobalfaa

/- A region that draws its order, by facts, up to an operation from which on each one waits for all ahead of it: from there on it is walked in the order of the text (no function of the program). -/
namespace Go.Proofs.Ytenhfphgobalfaa
open Go.RowKit

/-- Operation i waits for the j-th, by way of others. -/
def reachB (ops : Array Oper) : Nat → Nat → Nat → Bool
  | 0, _, _ => false
  | f + 1, i, j => match ops[i]? with | some o => aft o j || (List.range i).any (fun k => aft o k && reachB ops f k j) | none => false
/-- From the m-th operation on, each waits for the one ahead of it, and for all of the first m. -/
def tailOk (ops : Array Oper) (m : Nat) : Bool := (List.range ops.size).all fun i => decide (i < m) || ((decide (i = m) || match ops[i]? with | some o => aft o (i - 1) | none => false) && (List.range m).all (reachB ops ops.size i))

section
variable {P : Program} {ops : Array Oper} {Q : Exit → Act → World → Prop} {φ : List (Value → World → Prop)} {a0 : Act} {w0 : World} {m : Nat}

theorem tail_prev (h : tailOk ops m = true) {i : Nat} {o : Oper} (hi : ops[i]? = some o) (hm : m < i) : aft o (i - 1) = true := by
  have hlt := (Array.getElem?_eq_some_iff.1 hi).1
  have h1 := (List.all_eq_true.1 h) i (List.mem_range.2 hlt)
  simp only [hi, Bool.or_eq_true, Bool.and_eq_true, decide_eq_true_eq] at h1
  rcases h1 with h1 | ⟨h1 | h1, _⟩
  · omega
  · omega
  · exact h1
theorem tail_reach (h : tailOk ops m = true) {i : Nat} {o : Oper} (hi : ops[i]? = some o) (hm : m ≤ i) : ∀ j, j < m → reachB ops ops.size i j = true := by
  intro j hj
  have hlt := (Array.getElem?_eq_some_iff.1 hi).1
  have h1 := (List.all_eq_true.1 h) i (List.mem_range.2 hlt)
  simp only [hi, Bool.or_eq_true, Bool.and_eq_true, decide_eq_true_eq] at h1
  rcases h1 with h1 | ⟨_, h1⟩
  · omega
  · exact (List.all_eq_true.1 h1) j (List.mem_range.2 hj)
theorem reach_seen {seen : Array Bool} {a : Act} {u : World} (hI : Inv ops φ a0 w0 seen a u) : ∀ (f k j : Nat), seen.getD k false = true → reachB ops f k j = true → seen.getD j false = true := by
  intro f
  induction f with
  | zero => intro k j _ h; cases h
  | succ f ih =>
    intro k j hk h
    simp only [reachB] at h
    split at h
    · rename_i o ho
      rcases Bool.or_eq_true_iff.1 h with h | h
      · exact hI.closed k o ho hk j h
      · obtain ⟨k', _, h2⟩ := List.any_eq_true.1 h
        simp only [Bool.and_eq_true] at h2
        exact ih k' j (hI.closed k o ho hk k' h2.1) h2.2
    · cases h
theorem aft_seen {seen : Array Bool} {o : Oper} (hed : ∀ e ∈ o.after, Region.binds .any e = true → seen.getD e.on false = true) {j : Nat} (h : aft o j = true) : seen.getD j false = true := by
  unfold aft at h
  obtain ⟨e, he, hb⟩ := Array.any_eq_true'.1 h
  simp only [Bool.and_eq_true, beq_iff_eq] at hb
  rw [← hb.2]
  exact hed e he hb.1
theorem ready_seen {seen : Array Bool} {a : Act} {u : World} (hI : Inv ops φ a0 w0 seen a u) {i : Nat} {o : Oper} (hi : ops[i]? = some o) (hed : ∀ e ∈ o.after, Region.binds .any e = true → seen.getD e.on false = true) {f j : Nat} (h : reachB ops f i j = true) : seen.getD j false = true := by
  cases f with
  | zero => cases h
  | succ f =>
    simp only [reachB, hi] at h
    rcases Bool.or_eq_true_iff.1 h with h | h
    · exact aft_seen hed h
    · obtain ⟨k', _, h2⟩ := List.any_eq_true.1 h
      simp only [Bool.and_eq_true] at h2
      exact reach_seen hI f k' j (aft_seen hed h2.1) h2.2

theorem done_getD {n k j : Nat} (b : Bool) (hj : j < n) : (Done n k).getD j b = decide (j < k) := by simp [Done, Array.getD, hj]
theorem done_size (n k : Nat) : (Done n k).size = n := by simp [Done]

theorem seq_tail {size : Nat} (hok : flowOk ops size = true) (ht : tailOk ops m = true) : ∀ (r k : Nat) (a : Act) (u : World), k + r = ops.size → m ≤ k → wpList P ops Q (ops.toList.drop k) a u → wpAny P .any ops Q r (Done ops.size k) a u := by
  intro r
  induction r with
  | zero =>
    intro k a u hk hm h
    have hk' : k = ops.size := by omega
    subst hk'
    rw [List.drop_of_length_le (by simp)] at h
    refine ⟨List.eq_nil_iff_forall_not_mem.2 fun i hi => ?_, h⟩
    obtain ⟨hun, oi, hio, _⟩ := mem_ready.1 hi
    have hlt := (Array.getElem?_eq_some_iff.1 hio).1
    rw [done_getD true hlt] at hun
    simp at hun; omega
  | succ r ih =>
    intro k a u hk hm h
    have hlt : k < ops.size := by omega
    have ho : ops[k]? = some ops[k] := Array.getElem?_eq_getElem hlt
    rw [List.drop_eq_getElem_cons (by simpa using hlt)] at h
    have hready : k ∈ Region.ready .any ops (Done ops.size k) := mem_ready.2 ⟨by rw [done_getD true hlt]; simp, ops[k], ho, fun e he hb => by
      have h1 := (flowOk_at hok ho).1 e he hb
      rw [done_getD false (by omega)]; simpa using h1⟩
    refine ⟨fun h0 => absurd hready (by rw [h0]; simp), fun i hi => ?_⟩
    have hik : i = k := by
      obtain ⟨hun, oi, hio, hed⟩ := mem_ready.1 hi
      have hil := (Array.getElem?_eq_some_iff.1 hio).1
      rw [done_getD true hil] at hun
      have hge : k ≤ i := by simpa using hun
      rcases Nat.lt_or_ge k i with hki | hki
      · have h2 := aft_seen hed (tail_prev ht hio (by omega))
        rw [done_getD false (by omega)] at h2
        simp at h2; omega
      · omega
    subst hik
    have hnext : ∀ a u, wpList P ops Q (ops.toList.drop (i + 1)) a u → wpAny P .any ops Q r ((Done ops.size i).setIfInBounds i true) a u := fun a u h => by
      rw [Done.succ hlt]
      exact ih (i + 1) a u (by omega) (by omega) h
    unfold wpOp
    simp only [ho]
    unfold wpList at h
    rw [Array.getElem_toList] at h
    split
    · rename_i hw
      rw [if_pos hw] at h
      rcases h with h | h
      · exact .inl (Oper.wp_mono (fun a u h => hnext a u h) h)
      · exact .inr h
    · rename_i hw
      rw [if_neg hw] at h
      exact hnext _ _ h

theorem act_tail {seen : Array Bool} {a : Act} {u : World} (hok : flowOk ops a0.tmps.size = true) (hI : Inv ops φ a0 w0 seen a u) (hn : ∀ j, m ≤ j → seen.getD j false = false) : a = puts (held ops a) 0 (ops.toList.take m) a0 := by
  have hd : a.defers = (puts (held ops a) 0 (ops.toList.take m) a0).defers := by rw [puts_defers]; exact hI.defs
  have conv : ∀ (j : Nat) (o : Oper), (ops.toList.take m)[j]? = some o → j < m ∧ ops[j]? = some o := fun j o h => by
    rw [List.getElem?_take] at h
    split at h
    · rename_i hj; exact ⟨hj, by rw [← Array.getElem?_toList]; exact h⟩
    · cases h
  have ht : a.tmps = (puts (held ops a) 0 (ops.toList.take m) a0).tmps := by
    apply Array.ext_getElem?
    intro t
    by_cases hsz : t < a0.tmps.size
    · have huniq : ∀ (x y : Nat) (ox oy : Oper), (ops.toList.take m)[x]? = some ox → (ops.toList.take m)[y]? = some oy → ox.dst = some t → oy.dst = some t → x = y := fun x y ox oy hx hy h1 h2 => by
        rcases Nat.decEq x y with hne | he
        · exact absurd h1 (((flowOk_at hok (conv x ox hx).2).2.2.2 y oy t (conv y oy hy).2 h2).1 (fun e => hne e.symm))
        · exact he
      obtain ⟨h1, h2⟩ := puts_get (held ops a) (ops.toList.take m) 0 a0 t hsz huniq
      by_cases hex : ∃ (j : Nat) (oj : Oper), (ops.toList.take m)[j]? = some oj ∧ oj.dst = some t
      · obtain ⟨j, oj, hj, hd⟩ := hex
        rw [h2 j oj hj hd, Nat.zero_add]
        simp only [held, (conv j oj hj).2, slot, hd]
        have hts : t < a.tmps.size := by rw [hI.tsz]; exact hsz
        simp [Array.getD, hts]
      · have hex' : ∀ (j : Nat) (o : Oper), (ops.toList.take m)[j]? = some o → o.dst ≠ some t := fun j o hj hd => hex ⟨j, o, hj, hd⟩
        rw [h1 hex']
        refine hI.old t fun j oj hj hs => ?_
        have hjm : j < m := by
          rcases Nat.lt_or_ge j m with h | h
          · exact h
          · rw [hn j h] at hs; cases hs
        exact hex' j oj (by rw [List.getElem?_take, if_pos hjm, Array.getElem?_toList]; exact hj)
    · rw [Array.getElem?_eq_none (by rw [hI.tsz]; omega), Array.getElem?_eq_none (by rw [puts_size]; omega)]
  have ext : ∀ x y : Act, x.tmps = y.tmps → x.defers = y.defers → x = y := by rintro ⟨_, _⟩ ⟨_, _⟩ rfl rfl; rfl
  exact ext _ _ ht hd

theorem flow_tail_any (hok : flowOk ops a0.tmps.size = true) (hsel : Region.noSelect ops = true) (hmn : m ≤ ops.size) (htl : tailOk ops m = true) (hmono : ∀ p ∈ φ, Mono p)
    (hobl : ∀ f, Obls P ops φ w0 f 0 (ops.toList.take m) a0)
    (hfin : ∀ (g : Nat → Value) u, Ext w0 u → (∀ j, j < m → fact φ j (g j) u) → wpList P ops Q (ops.toList.drop m) (puts g 0 (ops.toList.take m) a0) u) :
    ∀ (n : Nat) (seen : Array Bool) (a : Act) (u : World), Inv ops φ a0 w0 seen a u → (∀ j, m ≤ j → seen.getD j false = false) → left ops seen = n → wpAny P .any ops Q n seen a u := by
  have whole : ∀ (n : Nat) (seen : Array Bool) (a : Act) (u : World), Inv ops φ a0 w0 seen a u → (∀ j, m ≤ j → seen.getD j false = false) → left ops seen = n → (∀ j, j < m → seen.getD j false = true) → wpAny P .any ops Q n seen a u := fun n seen a u hI hn hl hall => by
    have hseen : seen = Done ops.size m := by
      apply Array.ext
      · rw [hI.size, done_size]
      · intro i h1 h2
        have e1 : seen[i] = seen.getD i false := by simp [Array.getD, h1]
        have e2 : (Done ops.size m)[i] = (Done ops.size m).getD i false := by simp [Array.getD, h2]
        rw [e1, e2, done_getD false (by rw [← hI.size]; exact h1)]
        rcases Nat.lt_or_ge i m with h | h
        · rw [hall i h]; simp [h]
        · rw [hn i h]; simp; omega
    have hleft : left ops seen = ops.size - m := by
      unfold left
      have : (List.range ops.size).countP (fun i => !seen.getD i false) = (List.range ops.size).countP (fun i => decide (m ≤ i)) := by
        apply List.countP_congr
        intro j hj
        rcases Nat.lt_or_ge j m with h | h
        · rw [hall j h]; simp; omega
        · rw [hn j h]; simp; omega
      rw [this]
      have cnt : ∀ N, (List.range N).countP (fun i => decide (m ≤ i)) = N - m := by
        intro N
        induction N with
        | zero => simp
        | succ N ih =>
          rw [List.range_succ, List.countP_append, ih, List.countP_singleton]
          by_cases h : m ≤ N
          · simp [h]; omega
          · simp [h]; omega
      exact cnt _
    have hA := act_tail hok hI hn
    have hF := hfin (held ops a) u hI.ext fun j hj => by
      have hoj : ops[j]? = some ops[j] := Array.getElem?_eq_getElem (by omega)
      simp only [held, hoj]
      exact hI.facts j _ hoj (hall j hj)
    rw [← hA] at hF
    rw [← hl, hleft, hseen]
    exact seq_tail hok htl _ _ _ _ (by omega) (Nat.le_refl _) hF
  intro n
  induction n with
  | zero =>
    intro seen a u hI hn hl
    refine whole 0 seen a u hI hn hl fun j hj => ?_
    have := List.countP_eq_zero.1 hl j (List.mem_range.2 (by omega))
    simpa using this
  | succ n ih =>
    intro seen a u hI hn hl
    by_cases hall : ∀ j, j < m → seen.getD j false = true
    · exact whole _ seen a u hI hn hl hall
    · have hread : Region.ready .any ops seen = [] → False := fun hr => hall fun j hj => by
        exact all_seen hok hI hr j (by omega)
      refine ⟨fun hr => (hread hr).elim, fun i hi => ?_⟩
      obtain ⟨hun, oi, hio, hed⟩ := mem_ready.1 hi
      have hlt := (Array.getElem?_eq_some_iff.1 hio).1
      rw [getD_both seen (by rw [hI.size]; exact hlt)] at hun
      have hleft := left_next hI.size hlt hun
      have him : i < m := by
        rcases Nat.lt_or_ge i m with h | h
        · exact h
        · exfalso
          refine hall fun j hj => ?_
          exact ready_seen hI hio hed (tail_reach htl hio h j hj)
      refine wpOp_mono (fun b u' hb => ih _ b u' hb ?_ (by omega)) (flow_step hok hsel hmono hobl hI him hi)
      intro j hj
      rw [set_getD, if_neg (fun h => by have := h.1; omega)]; exact hn j hj

/-- A region that draws its order, whose last operations are done one behind the other. -/
theorem flow_tail {id : Nat} {w : World} (hm0 : P.follows .mixedOrders = true) (φ : List (Value → World → Prop)) (m : Nat) (hok : flowOk ops a0.tmps.size = true) (hsel : Region.noSelect ops = true) (hmn : decide (m ≤ ops.size) = true) (htl : tailOk ops m = true) (hmono : ∀ p ∈ φ, Mono p)
    (hobl : ∀ f, Obls P ops φ w.drew f 0 (ops.toList.take m) a0)
    (hfin : ∀ (g : Nat → Value) u, Ext w.drew u → (∀ j, j < m → fact φ j (g j) u) → wpList P ops Q (ops.toList.drop m) (puts g 0 (ops.toList.take m) a0) u) :
    (Code.region id ops true).wp P Q a0 w := by
  refine wp_region_any hm0 (flow_tail_any hok hsel (of_decide_eq_true hmn) htl hmono hobl hfin ops.size _ a0 w.drew inv_start (fun j _ => ?_) left_start)
  rw [Array.getD_eq_getD_getElem?]
  by_cases hj : j < ops.size
  · simp [hj]
  · simp [hj]
end
end Go.Proofs.Ytenhfphgobalfaa

/- A region that draws its order and holds one store, behind which (or ahead of which) some operations may come that neither read nor change memory: facts for all others, then what the store makes (no function of the program). -/
namespace Go.Proofs.Ytenhfphgobalfaa.St
open Go.RowKit

/-- Each operation gives its fact; the s-th is the store, those of T look at no memory. -/
def Obls (P : Program) (ops : Array Oper) (φ : List (Value → World → Prop)) (w0 : World) (s : Nat) (T : List Nat) (S : (Nat → Value) → World → World → Prop) (f : Nat → Value) : Nat → List Oper → Act → Prop
  | _, [], _ => True
  | k, o :: rest, a => (if k = s then (∀ u, Ext w0 u → (∀ j, j ≠ s → j ∉ T → j < ops.size → fact φ j (f j) u) → if Region.wanted o (yielded ops a.tmps) = true then GivesR P ((execOp a.eval o).run P u) (fun _ u' => S f u u') else S f u u)
    else if k ∈ T then (∀ u u', Ext w0 u → (∀ j, aft o j = true → fact φ j (f j) u) → if Region.wanted o (yielded ops a.tmps) = true then GivesR P ((execOp a.eval o).run P u') (fun v u2 => u2 = u' ∧ fact φ k (kept o v) u) else fact φ k undef u)
    else (∀ u, Ext w0 u → (∀ j, aft o j = true → fact φ j (f j) u) →
      if Region.wanted o (yielded ops a.tmps) = true then GivesR P ((execOp a.eval o).run P u) (fun v u' => Ext u u' ∧ fact φ k (kept o v) u') else fact φ k undef u)) ∧ Obls P ops φ w0 s T S f (k + 1) rest (a.put o.dst (f k))

/-- All but the store and those of T stand ahead of the store. -/
def storeOk (ops : Array Oper) (s : Nat) (T : List Nat) : Bool := (List.range ops.size).all fun j => decide (j = s) || decide (j ∈ T) || reachB ops ops.size s j
structure SInv (ops : Array Oper) (φ : List (Value → World → Prop)) (w0 : World) (s : Nat) (S : (Nat → Value) → World → World → Prop) (seen : Nat → Bool) (f : Nat → Value) (u : World) : Prop where
  closed : ∀ j oj, ops[j]? = some oj → seen j = true → ∀ k, aft oj k = true → seen k = true
  holds : (seen s = false ∧ Ext w0 u ∧ ∀ j, seen j = true → fact φ j (f j) u) ∨ (seen s = true ∧ ∃ u1, Ext w0 u1 ∧ (∀ j, j ≠ s → seen j = true → fact φ j (f j) u1) ∧ S f u1 u)

theorem reach_seen {ops : Array Oper} {seen : Nat → Bool} (hc : ∀ j oj, ops[j]? = some oj → seen j = true → ∀ k, aft oj k = true → seen k = true) : ∀ (n k j : Nat), seen k = true → reachB ops n k j = true → seen j = true := by
  intro n
  induction n with
  | zero => intro k j _ h; cases h
  | succ n ih =>
    intro k j hk h
    simp only [reachB] at h
    split at h
    · rename_i o ho
      rcases Bool.or_eq_true_iff.1 h with h | h
      · exact hc k o ho hk j h
      · obtain ⟨k', _, h2⟩ := List.any_eq_true.1 h
        simp only [Bool.and_eq_true] at h2
        exact ih k' j (hc k o ho hk k' h2.1) h2.2
    · cases h

section
variable {P : Program} {ops : Array Oper} {Q : Exit → Act → World → Prop} {φ : List (Value → World → Prop)} {a0 : Act} {w0 : World} {s : Nat} {T : List Nat} {S : (Nat → Value) → World → World → Prop}

theorem GivesR.mono {r : Result Next} {R R' : Value → World → Prop} (h : GivesR P r R) (hr : ∀ v u, R v u → R' v u) : GivesR P r R' := by
  unfold GivesR at *
  split at h
  · exact hr _ _ h
  · exact hr _ _ h
  · exact h.mono fun e w ⟨v, h1, h2⟩ => ⟨v, h1, hr _ _ h2⟩
  · exact h.elim

theorem closed_upd {seen : Nat → Bool} (hc : ∀ j oj, ops[j]? = some oj → seen j = true → ∀ k, aft oj k = true → seen k = true) {i : Nat} {o : Oper} (hi : ops[i]? = some o) (hd : ∀ j, aft o j = true → seen j = true) :
    ∀ j oj, ops[j]? = some oj → Fi.upd seen i true j = true → ∀ k, aft oj k = true → Fi.upd seen i true k = true := by
  intro j oj hj hs k hk
  have h1 : seen k = true := by
    by_cases e : j = i
    · subst e
      rw [hi] at hj
      injection hj with hj
      subst hj
      exact hd k hk
    · rw [Fi.upd_ne _ _ e] at hs
      exact hc j oj hj hs k hk
  unfold Fi.upd
  split
  · rfl
  · exact h1

theorem to_fi (hss : s < ops.size) (hst : storeOk ops s T = true) (htr : ∀ v u, fact φ s v u) (hmono : ∀ p ∈ φ, Mono p) (hS : ∀ f v i u u', i = s ∨ i ∈ T → S f u u' → S (Fi.upd f i v) u u') (f : Nat → Value) :
    ∀ (l : List Oper) (k : Nat) (a : Act), (∀ i o, l[i]? = some o → ops[k + i]? = some o) → Obls P ops φ w0 s T S f k l a → Fi.Obls P ops (SInv ops φ w0 s S) f k l a := by
  intro l
  induction l with
  | nil => intro k a _ _; trivial
  | cons o l ih =>
    intro k a hops h
    refine ⟨fun seen u hI hn hd => ?_, ih (k + 1) _ (fun i o h => by rw [show k + 1 + i = k + (i + 1) by omega]; exact hops (i + 1) o (by simpa using h)) h.2⟩
    have hk : ops[k]? = some o := by have := hops 0 o rfl; simpa using this
    have hlt : k < ops.size := (Array.getElem?_eq_some_iff.1 hk).1
    have hcl := closed_upd hI.closed hk hd
    have h0 := h.1
    by_cases hks : k = s
    · rw [if_pos hks] at h0
      rcases hI.holds with ⟨h1, h2, h3⟩ | ⟨h1, _⟩
      · have hall : ∀ j, j ≠ s → j ∉ T → j < ops.size → seen j = true := fun j hj hjT hjl => by
          have h4 := (List.all_eq_true.1 hst) j (List.mem_range.2 hjl)
          simp only [Bool.or_eq_true, decide_eq_true_eq] at h4
          rcases h4 with (h4 | h4) | h4
          · exact absurd h4 hj
          · exact absurd h4 hjT
          · rw [← hks] at h4
            revert h4
            cases hn2 : ops.size with
            | zero => omega
            | succ n =>
              intro h4
              simp only [reachB, hk] at h4
              rcases Bool.or_eq_true_iff.1 h4 with h4 | h4
              · exact hd j h4
              · obtain ⟨k', _, h5⟩ := List.any_eq_true.1 h4
                simp only [Bool.and_eq_true] at h5
                exact reach_seen hI.closed n k' j (hd k' h5.1) h5.2
        have h5 := h0 u h2 fun j hj hjT hjl => h3 j (hall j hj hjT hjl)
        have keep : ∀ v j, j ≠ s → Fi.upd seen k true j = true → fact φ j (Fi.upd f k v j) u := fun v j hj hs => by
          rw [← hks] at hj
          rw [Fi.upd_ne _ _ hj] at hs ⊢
          exact h3 j hs
        split
        · rename_i hw
          rw [if_pos hw] at h5
          refine GivesR.mono h5 fun v u' hv => ⟨hcl, .inr ⟨by rw [hks, Fi.upd_at], u, h2, keep _, hS _ _ _ _ _ (.inl hks) hv⟩⟩
        · rename_i hw
          rw [if_neg hw] at h5
          exact ⟨hcl, .inr ⟨by rw [hks, Fi.upd_at], u, h2, keep _, hS _ _ _ _ _ (.inl hks) h5⟩⟩
      · rw [hks, h1] at hn; cases hn
    · rw [if_neg hks] at h0
      have hsk : s ≠ k := fun e => hks e.symm
      have more : ∀ {v : Value} {u u' : World}, Ext u u' → fact φ k v u' → (∀ j, j ≠ s → seen j = true → fact φ j (f j) u) → ∀ j, j ≠ s → Fi.upd seen k true j = true → fact φ j (Fi.upd f k v j) u' := fun hx hv h3 j hj hs => by
        by_cases e : j = k
        · subst e; rw [Fi.upd_at]; exact hv
        · rw [Fi.upd_ne _ _ e] at hs ⊢; exact fact_mono hmono j (h3 j hj hs) hx
      have notS : seen s = false → ∀ j, Fi.upd seen k true j = true → j ≠ s := fun h1 j hj e => by
        rw [e, Fi.upd_ne _ _ hsk, h1] at hj; cases hj
      by_cases hkT : k ∈ T
      · rw [if_pos hkT] at h0
        rcases hI.holds with ⟨h1, h2, h3⟩ | ⟨h1, u1, h2, h3, h4⟩
        · have h5 := h0 u u h2 fun j hj => h3 j (hd j hj)
          have keep : ∀ v, fact φ k v u → SInv ops φ w0 s S (Fi.upd seen k true) (Fi.upd f k v) u := fun v hv => ⟨hcl, .inl ⟨by rw [Fi.upd_ne _ _ hsk]; exact h1, h2, fun j hs => more (Ext.refl _) hv (fun j _ => h3 j) j (notS h1 j hs) hs⟩⟩
          split
          · rename_i hw
            rw [if_pos hw] at h5
            refine GivesR.mono h5 fun v u' hv => ?_
            rw [hv.1]
            exact keep _ hv.2
          · rename_i hw
            rw [if_neg hw] at h5
            exact keep _ h5
        · have h5 := h0 u1 u h2 fun j hj => by
            by_cases e : j = s
            · rw [e]; exact htr _ _
            · exact h3 j e (hd j hj)
          have keep : ∀ v, fact φ k v u1 → SInv ops φ w0 s S (Fi.upd seen k true) (Fi.upd f k v) u := fun v hv => ⟨hcl, .inr ⟨by rw [Fi.upd_ne _ _ hsk]; exact h1, u1, h2, more (Ext.refl _) hv h3, hS _ _ _ _ _ (.inr hkT) h4⟩⟩
          split
          · rename_i hw
            rw [if_pos hw] at h5
            refine GivesR.mono h5 fun v u' hv => ?_
            rw [hv.1]
            exact keep _ hv.2
          · rename_i hw
            rw [if_neg hw] at h5
            exact keep _ h5
      · rw [if_neg hkT] at h0
        rcases hI.holds with ⟨h1, h2, h3⟩ | ⟨h1, _⟩
        · have h5 := h0 u h2 fun j hj => h3 j (hd j hj)
          have keep : ∀ v u', Ext u u' → fact φ k v u' → SInv ops φ w0 s S (Fi.upd seen k true) (Fi.upd f k v) u' := fun v u' hx hv => ⟨hcl, .inl ⟨by rw [Fi.upd_ne _ _ hsk]; exact h1, Ext.trans h2 hx, fun j hs => more hx hv (fun j _ => h3 j) j (notS h1 j hs) hs⟩⟩
          split
          · rename_i hw
            rw [if_pos hw] at h5
            exact GivesR.mono h5 fun v u' hv => keep _ _ hv.1 hv.2
          · rename_i hw
            rw [if_neg hw] at h5
            exact keep _ _ (Ext.refl _) h5
        · exfalso
          have hsz : s < ops.size := hss
          have h4 := (List.all_eq_true.1 hst) k (List.mem_range.2 hlt)
          simp only [Bool.or_eq_true, decide_eq_true_eq] at h4
          rcases h4 with (h4 | h4) | h4
          · exact hks h4
          · exact hkT h4
          · have := reach_seen hI.closed _ _ _ h1 h4
            rw [hn] at this; cases this

/-- A region that draws its order, with one store in it. -/
theorem flow {id : Nat} {w : World} (hm : P.follows .mixedOrders = true) (φ : List (Value → World → Prop)) (s : Nat) (T : List Nat) (S : (Nat → Value) → World → World → Prop) (hok : flowOk ops a0.tmps.size = true) (hsel : Region.noSelect ops = true) (hss : decide (s < ops.size) = true)
    (hst : storeOk ops s T = true) (htr : ∀ v u, fact φ s v u) (hmono : ∀ p ∈ φ, Mono p) (hS : ∀ f v i u u', i = s ∨ i ∈ T → S f u u' → S (Fi.upd f i v) u u')
    (hobl : ∀ f, Obls P ops φ w.drew s T S f 0 ops.toList a0)
    (hfin : ∀ (g : Nat → Value) u u', Ext w.drew u → (∀ j, j < ops.size → j ≠ s → fact φ j (g j) u) → S g u u' → Q .normal (puts g 0 ops.toList a0) u') : (Code.region id ops true).wp P Q a0 w := by
  refine Fi.flow hm (SInv ops φ w.drew s S) hok hsel (fun f => ⟨fun j oj _ h => (by cases h), .inl ⟨rfl, Ext.refl _, fun j h => (by cases h)⟩⟩) (fun f => to_fi (of_decide_eq_true hss) hst htr hmono hS f _ _ _ (fun i o h => by rw [Nat.zero_add, ← Array.getElem?_toList]; exact h) (hobl f)) fun g seen u hall hI => ?_
  rcases hI.holds with ⟨h1, _⟩ | ⟨_, u1, h2, h3, h4⟩
  · rw [hall s (of_decide_eq_true hss)] at h1; cases h1
  · exact hfin g u1 u h2 (fun j hj hjs => h3 j hjs (hall j hj)) h4
end
end Go.Proofs.Ytenhfphgobalfaa.St
