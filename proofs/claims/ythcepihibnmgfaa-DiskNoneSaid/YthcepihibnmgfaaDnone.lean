/- Going over a disk that is none. -/
import Derived.Test.YthcepihibnmgfaaDnonem
import Derived.Test.YthcepihibnmgfaaDall
namespace Go.Proofs.Ythcepihibnmgfaa
open Go.RowKit Go.Maps Go.Sort Go.Shelf

attribute [local go_sem] Oper.semAt_some
/-- Going over no disk's files: none is told. -/
theorem each_none {w : World} {bd : Nat} {o : Option Addr} (hN : NoDisk w (.pointer o)) (hbd : w.cell? ⟨bd, 0, none⟩ = some (.pointer o)) {Ok : Nat → Nat → (List UInt8 × Value) → World → Prop} :
    Iter Try.prog 68 #[.pointer (some ⟨bd, 0, none⟩)] 0 (fun x : List UInt8 × Value => #[encStr x.1, x.2]) Ok (fun _ => True) w := by
  intro mm l J Jx W hx _ hJ hJx h0 hY
  have HJ0 := Lib.hid (h0 W (Ext.refl _))
  have c1 := ext_cell hx hbd
  have HC := Lib.hid (none_yes (hN.ext hx))
  clear hN hbd hJ hJx h0 hY hx
  have hf1 : Fence.wide.fn 52 := trivial
  refine (callsIn_wide (n := 6)).1 ?_
  refine callsIn_of_wp Try.func68 rfl trivial ?_ rfl
  simp only [Try.ntmps68, List.size_toArray, List.length_cons, List.length_nil, Nat.reduceAdd, Nat.reduceSub, Array.replicate_succ, Array.replicate_zero, List.push_toArray, List.append_toArray, List.nil_append, List.cons_append]
  gi_wp2_with (gi_at_call 52; refine (callsIn_wide.2 HC.out).mono ?_; rintro e w' ⟨rfl, rfl⟩)
  refine bodyPost_ret (results_none rfl _ _ _) rfl ?_
  exact ⟨⟨_, rfl⟩, .inl ⟨_, Nat.le_refl _, HJ0.out⟩⟩

set_option maxRecDepth 100000 in
set_option maxHeartbeats 4000000 in
theorem all_none {w : World} {bd : Nat} {o : Option Addr} (hN : NoDisk w (.pointer o)) (hbd : w.cell? ⟨bd, 0, none⟩ = some (.pointer o)) {Ok : Nat → Nat → (List UInt8 × Value) → World → Prop} :
    Iter Try.prog 62 #[.pointer (some ⟨bd, 0, none⟩)] 0 (fun x : List UInt8 × Value => #[encStr x.1, x.2]) Ok (fun _ => True) w := by
  intro mm l J Jx W hx _ hJ hJx h0 hY
  have HJ := Lib.hid hJ
  have H0 := Lib.hid h0
  have HN := Lib.hid (hN.ext hx)
  have c1 := ext_cell hx hbd
  have c1a := cell_new c1 (.cells #[.func (.yield l) #[] #[]] 107)
  clear hN hbd hJ hJx h0 hY hx
  have hf1 : Fence.wide.fn 61 := trivial
  refine (callsIn_wide (n := 6)).1 ?_
  refine callsIn_of_wp_marks Try.func62 rfl trivial ?_
  simp only [Try.ntmps62, List.size_toArray, List.length_cons, List.length_nil, Nat.reduceAdd, Nat.reduceSub, Array.replicate_succ, Array.replicate_zero, List.push_toArray, List.append_toArray, List.nil_append, List.cons_append]
  gi_wp2_with (gi_at_call 61; refine (callsIn_wide.2 (each_any _ _)).mono ?_; rintro e w' ⟨rfl, rfl⟩)
  obtain ⟨w1, hw1⟩ : ∃ w1, w1 = (W.alloc (.cells #[.func (.yield l) #[] #[]] 107)).alloc (.cells #[.pointer o] 25) := ⟨_, rfl⟩
  rw [← hw1]
  have HX1 : Hid (Ext W w1) := by rw [hw1]; exact Ext.trans (ext_alloc _ _) (ext_alloc _ _)
  have HB1 : Hid (w1.cell? ⟨W.heap.size + 1, 0, none⟩ = some (.pointer o)) := by rw [hw1]; exact cell_of (heap_at _ _ (by simp)) rfl
  clear hw1
  refine wpIn_over rfl enters_each (each_none (HN.out.ext HX1.out) HB1.out (Ok := fun _ _ _ _ => True)) (fun _ => rfl) (fun n₁ k A => J n₁ k A) (fun _ _ => False) (fun _ _ _ _ => trivial) ?hI (fun _ _ _ h _ => h) (fun A hx => H0.out A (Ext.trans HX1.out hx)) (fun _ _ _ _ _ _ _ _ _ _ h => absurd h (Nat.not_lt_zero _)) ?done (fun _ _ _ _ h _ => h.elim)
  case hI => intro n₁ k A A' hn hj hc; exact HJ.out n₁ k A A' (by have := HX1.out.size; omega) hj (hc.mono fun i _ hb => ⟨Nat.le_trans HX1.out.size hb.1, hb.2⟩)
  case done =>
    rintro D' n₁ W' hDl hDn hn hj hD
    have HDL := Lib.hid (And.intro hDl hDn)
    have HJJ := Lib.hid hj
    have HNN := Lib.hid hn
    have HDD := Lib.hid hD
    clear hDl hDn hn hj hD
    gi_wp2
    refine ⟨by simp, .inl ⟨_, _, rfl, run_takeDeferred HDD.out, ?_⟩⟩
    refine ⟨_, results_none rfl _ _ _, ⟨⟨_, rfl⟩, .inl ⟨n₁, by have := HNN.out; have := HX1.out.size; omega, ?_⟩⟩⟩
    exact HJ.out n₁ _ _ _ (by have := HNN.out; have := HX1.out.size; omega) HJJ.out ((putObj_chg W' D' _).mono fun i _ e => ⟨by have := HDL.out.1; have := HX1.out.size; omega, by have := HDL.out.2; omega⟩)

set_option maxRecDepth 100000 in
set_option maxHeartbeats 4000000 in
theorem names_nil {w : World} {o : Option Addr} (hN : NoDisk w (.pointer o)) : Calls Try.prog 37 #[.pointer o] w fun e w' => e = .returned (.slice none 0 0) ∧ Below w.heap.size w w' := by
  have HN := Lib.hid hN
  clear hN
  have hf1 : Fence.wide.fn 61 := trivial
  refine (callsIn_wide (n := 6)).1 ?_
  refine callsIn_of_wp_marks Try.func37 rfl trivial ?_
  simp only [Try.ntmps37, List.size_toArray, List.length_cons, List.length_nil, Nat.reduceAdd, Nat.reduceSub, Array.replicate_succ, Array.replicate_zero, List.push_toArray, List.append_toArray, List.nil_append, List.cons_append]
  gi_wp2_with (gi_at_call 61; refine (callsIn_wide.2 (each_any _ _)).mono ?_; rintro e w' ⟨rfl, rfl⟩)
  obtain ⟨w1, hw1⟩ : ∃ w1, w1 = (w.alloc (.cells #[.slice none 0 0] 73)).alloc (.cells #[.pointer o] 25) := ⟨_, rfl⟩
  rw [← hw1]
  have HX1 : Hid (Ext w w1) := by rw [hw1]; exact Ext.trans (ext_alloc _ _) (ext_alloc _ _)
  have HZ1 : Hid (w1.heap.size = w.heap.size + 2) := by rw [hw1]; simp [Hid]
  have HB0 : Hid (Boxed w1 w.heap.size 73 (.slice none 0 0)) := by rw [hw1]; exact ext_heap (ext_alloc _ _) (heap_at _ _ rfl)
  have HB1 : Hid (w1.cell? ⟨w.heap.size + 1, 0, none⟩ = some (.pointer o)) := by rw [hw1]; exact cell_of (heap_at _ _ (by simp)) rfl
  clear hw1
  refine wpIn_over rfl enters_each (each_none (HN.out.ext HX1.out) HB1.out (Ok := fun _ _ _ _ => True)) (fun _ => rfl) (fun _ _ A => Boxed A w.heap.size 73 (.slice none 0 0) ∧ Below w.heap.size w A) (fun _ _ => False) (fun _ _ _ _ => trivial) ?hI (fun _ _ _ h _ => h) (fun A hx => ⟨ext_heap hx HB0.out, Ext.trans HX1.out hx⟩) (fun _ _ _ _ _ _ _ _ _ _ h => absurd h (Nat.not_lt_zero _)) ?done (fun _ _ _ _ h _ => h.elim)
  case hI => intro n₁ k A A' hn hj hc; exact ⟨boxed_chg hj.1 hc (fun hb => by have := hb.1; have := HZ1.out; omega), hj.2.trans (hc.below (fun i hb => by have := hb.1; have := HZ1.out; omega) hj.2.size)⟩
  case done =>
    rintro D' n₁ W' hDl hDn hn ⟨hb, hbel⟩ hD
    have HDL := Lib.hid hDl
    have q0 := hb.cell
    have HBEL := Lib.hid hbel
    have HDD := Lib.hid hD
    clear hDl hDn hn hb hbel hD
    gi_wp2
    refine ⟨by simp, .inl ⟨_, _, rfl, run_takeDeferred HDD.out, ?_⟩⟩
    refine ⟨_, results_tmp rfl _ _ _, ⟨rfl, ?_⟩⟩
    exact HBEL.out.trans ((putObj_chg W' D' _).below (fun i e => by have := HDL.out; have := HX1.out.size; omega) HBEL.out.size)

theorem results_cell_bool {fn : Func} {p : Tmp} (h : fn.results = #[.cell p 4]) (tmps : Array Value) (w : World) (g : Nat) (z : Bool) (hp : tmps.getD p undef = .pointer (some ⟨g, 0, none⟩)) (hc : w.cell? ⟨g, 0, none⟩ = some (.bool z)) :
    (results fn tmps).run Try.prog w = .ok (.bool z) w := by
  simp only [results, h]
  have hp' : tmps[p]?.getD undef = .pointer (some ⟨g, 0, none⟩) := by simpa using hp
  simp [Sem.run_bind, hp', go_sem, hc]
theorem enters_all : ∀ args w, (callFunc 62 args).run Try.prog w = .ok (.enter 62 args) w := enters_of Try.func62 (by kernel_rfl) rfl
theorem func_some (g : Nat) (w : World) : (binOp .eql 83 (.func (.func 62) #[] #[.pointer (some ⟨g, 0, none⟩)]) .nilFunc).run Try.prog w = .ok (.bool false) w := by kernel_rfl

set_option maxRecDepth 100000 in
set_option maxHeartbeats 4000000 in
theorem over_nil {w : World} {o : Option Addr} (hN : NoDisk w (.pointer o)) : Calls Try.prog 40 #[.pointer o, .slice none 0 0, .int .i64 0] w fun e w' => e = .returned (.bool true) ∧ Below w.heap.size w w' := by
  have HN := Lib.hid hN
  clear hN
  have hf1 : Fence.wide.fn 41 := trivial
  have hfn := func_some (w.heap.size + 3)
  refine (callsIn_wide (n := 6)).1 ?_
  refine callsIn_of_wp_marks Try.func40 rfl trivial ?_
  simp only [Try.ntmps40, List.size_toArray, List.length_cons, List.length_nil, Nat.reduceAdd, Nat.reduceSub, Array.replicate_succ, Array.replicate_zero, List.push_toArray, List.append_toArray, List.nil_append, List.cons_append]
  gi_wp2_with (gi_at_call 41; refine (callsIn_wide.2 (all_any _ _)).mono ?_; rintro e w' ⟨rfl, rfl⟩)
  obtain ⟨w1, hw1⟩ : ∃ w1, w1 = ((((w.alloc (.cells #[.slice none 0 0] 39)).alloc (.cells #[.int .i64 0] 3)).alloc (.cells #[.bool false] 4)).alloc (.cells #[.pointer o] 25)).alloc (.cells #[.int .i64 0] 3) := ⟨_, rfl⟩
  rw [← hw1]
  have HX1 : Hid (Ext w w1) := by rw [hw1]; exact Ext.trans (Ext.trans (Ext.trans (Ext.trans (ext_alloc _ _) (ext_alloc _ _)) (ext_alloc _ _)) (ext_alloc _ _)) (ext_alloc _ _)
  have HZ1 : Hid (w1.heap.size = w.heap.size + 5) := by rw [hw1]; simp [Hid]
  have HC0 : Hid (Boxed w1 w.heap.size 39 (.slice none 0 0)) := by rw [hw1]; exact ext_heap (Ext.trans (Ext.trans (Ext.trans (ext_alloc _ _) (ext_alloc _ _)) (ext_alloc _ _)) (ext_alloc _ _)) (heap_at _ _ rfl)
  have HC2 : Hid (Boxed w1 (w.heap.size + 2) 4 (.bool false)) := by rw [hw1]; exact ext_heap (Ext.trans (ext_alloc _ _) (ext_alloc _ _)) (heap_at _ _ (by simp))
  have HC3 : Hid (w1.cell? ⟨w.heap.size + 3, 0, none⟩ = some (.pointer o)) := by rw [hw1]; exact ext_cell (ext_alloc _ _) (cell_of (heap_at _ _ (by simp)) rfl)
  have HC4 : Hid (Boxed w1 (w.heap.size + 4) 3 (.int .i64 0)) := by rw [hw1]; exact heap_at _ _ (by simp)
  clear hw1 hfn
  refine wpIn_over rfl enters_all (all_none (HN.out.ext HX1.out) HC3.out (Ok := fun _ _ _ _ => True)) (fun _ => rfl) (fun _ _ A => Boxed A w.heap.size 39 (.slice none 0 0) ∧ Boxed A (w.heap.size + 2) 4 (.bool false) ∧ Boxed A (w.heap.size + 4) 3 (.int .i64 0) ∧ Below w.heap.size w A) (fun _ _ => False) (fun _ _ _ _ => trivial) ?hI (fun _ _ _ h _ => h) (fun A hx => ⟨ext_heap hx HC0.out, ext_heap hx HC2.out, ext_heap hx HC4.out, Ext.trans HX1.out hx⟩) (fun _ _ _ _ _ _ _ _ _ _ h => absurd h (Nat.not_lt_zero _)) ?done (fun _ _ _ _ h _ => h.elim)
  case hI => intro n₁ k A A' hn hj hc; exact ⟨boxed_chg hj.1 hc (fun hb => by have := hb.1; have := HZ1.out; omega), boxed_chg hj.2.1 hc (fun hb => by have := hb.1; have := HZ1.out; omega), boxed_chg hj.2.2.1 hc (fun hb => by have := hb.1; have := HZ1.out; omega), hj.2.2.2.trans (hc.below (fun i hb => by have := hb.1; have := HZ1.out; omega) hj.2.2.2.size)⟩
  case done =>
    rintro D' n₁ W' hDl hDn hn ⟨hb0, hb2, hb4, hbel⟩ hD
    have HDL := Lib.hid hDl
    have HB2 := Lib.hid hb2
    have q0 := hb0.cell
    have q2 := hb2.cell
    have f2 := hb2.frozen
    have q4 := hb4.cell
    have HBEL := Lib.hid hbel
    have HDD := Lib.hid hD
    clear hDl hDn hn hb0 hb2 hb4 hbel hD
    gi_wp2
    have hne : D' ≠ w.heap.size + 2 := by have h1 := HDL.out; have h2 := HZ1.out; omega
    have HD2 : Hid ((W'.setCell ⟨w.heap.size + 2, 0, none⟩ (.bool true)).heap[D']? = some (.deferred (some []))) := (Below.heap_setCell _ _ _ _ hne).trans HDD.out
    have HBR : Hid (Boxed (W'.setCell ⟨w.heap.size + 2, 0, none⟩ (.bool true)) (w.heap.size + 2) 4 (.bool true)) := HB2.out.set _
    have HBW : Hid (Below w.heap.size w (W'.setCell ⟨w.heap.size + 2, 0, none⟩ (.bool true))) := Below.setCell HBEL.out (show w.heap.size ≤ w.heap.size + 2 by omega) _
    refine ⟨by simp, .inl ⟨_, _, rfl, run_takeDeferred HD2.out, ?_⟩⟩
    refine ⟨_, results_cell_bool Try.results40 _ _ (w.heap.size + 2) true rfl (Boxed.cell (boxed_chg HBR.out (putObj_chg _ D' _) (fun e => hne e.symm))), ⟨rfl, ?_⟩⟩
    exact HBW.out.trans ((putObj_chg _ D' _).below (fun i e => by have h1 := HDL.out; have h2 := HZ1.out; omega) HBW.out.size)
end Go.Proofs.Ythcepihibnmgfaa
