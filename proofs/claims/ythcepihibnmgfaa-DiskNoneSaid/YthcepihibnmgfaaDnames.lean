/- The names of all files. -/
import Derived.Test.YthcepihibnmgfaaDeach
import Derived.RangeFuncBox
import Derived.Maps.AppendAt
namespace Go.Proofs.Ythcepihibnmgfaa
open Go.RowKit Go.Maps Go.Sort Go.Shelf
attribute [local go_sem] Oper.semAt_some

theorem t9info : (Try.prog.info? 9).map (fun i => (i.zero, i.size, i.bytes)) = some (some (.string ⟨#[]⟩), 1, 16) := by kernel_rfl
theorem enters_each : ∀ args w, (callFunc 68 args).run Try.prog w = .ok (.enter 68 args) w := enters_of Try.func68 (by kernel_rfl) rfl

/-- Names that are answered. -/
def NamesAns (w : World) (F : List Fl) (e : Ending) (w' : World) : Prop := ∃ v, e = .returned v ∧ w'.ownsRow w.heap.size 9 1 v F.length ((snames F).map encStr) ∧ Below w.heap.size w w'

/-- Between two rounds. -/
structure NamesI (w : World) (bl : Nat) (F : List Fl) (n₁ k : Nat) (A : World) : Prop where
  ex : ∃ v, Boxed A bl 73 v ∧ A.ownsRow n₁ 9 1 v k (((snames F).take k).map encStr)
  below : Below w.heap.size w A
  le : n₁ ≤ A.heap.size

theorem row_chg {A A' : World} {S : Nat → Prop} {B n : Nat} {t : TypeId} {v : Value} {xs : List Value} (h : A.ownsRow B t 1 v n xs) (hc : Chg S A A') (hS : ∀ k, B ≤ k → ¬ S k) : A'.ownsRow B t 1 v n xs :=
  row_kept h fun g hg => hc.block g (row_lt h g hg).2 (hS g (row_lt h g hg).1)
theorem boxed_chg {A A' : World} {S : Nat → Prop} {b : Nat} {t : TypeId} {v : Value} (h : Boxed A b t v) (hc : Chg S A A') (hS : ¬ S b) : Boxed A' b t v := (hc.block b h.lt hS).trans h

theorem NamesI.chg {w W : World} {bl n₁ k : Nat} {F : List Fl} {A A' : World} (h : NamesI w bl F n₁ k A) (hbl : bl < W.heap.size) (hw : w.heap.size ≤ W.heap.size) (hc : Chg (Btw W.heap.size n₁) A A') : NamesI w bl F n₁ k A' := by
  obtain ⟨⟨v, h1, h2⟩, h3, h4⟩ := h
  exact ⟨⟨v, boxed_chg h1 hc (fun hb => by have := hb.1; omega), row_chg h2 hc (fun k hk hb => by have := hb.2; omega)⟩, h3.trans (hc.below (fun k hk => Nat.le_trans hw hk.1) h3.size), Nat.le_trans h4 hc.size⟩

theorem row_any {w : World} {B n : Nat} {t : TypeId} {v : Value} {xs : List Value} (hr : w.ownsRow B t 1 v n xs) {k : Nat} (hk : v.ownBlock = some k) : ∃ cur, w.heap[k]? = some (.cells cur t (0, 0)) := by
  rcases hr.2 with ⟨rfl, _⟩ | ⟨g, cap, cur, rfl, _, hh, _⟩
  · cases hk
  · injection hk with hk
    subst hk
    exact ⟨cur, hh⟩
theorem names_box {A w5 : World} {bl n₁ k : Nat} {o : Obj} {v u : Value} {xs : List Value} (h : Boxed A bl 73 u) (hr : A.ownsRow n₁ 9 1 v k xs) (hg : (A.alloc o).grownBy w5 v.ownBlock) (hlt : bl < n₁) : Boxed w5 bl 73 u :=
  (h.alloc o).kept hg (fun e => by have := (row_lt hr bl e.symm).1; omega)

set_option maxRecDepth 100000 in
set_option maxHeartbeats 4000000 in
theorem names_any {w : World} {S : Nat → Prop} {B d room : Nat} {F : List Fl} (h : Disk w S B d room F) : Calls Try.prog 37 #[.pointer (some ⟨d, 0, none⟩)] w (NamesAns w F) := by
  obtain ⟨m, D, V, hsee, hfiles, hBm, hap⟩ := h.seen
  have HSEE := Lib.hid hsee
  have HSZ : Hid (∀ f ∈ F, f.name.length ≤ maxLen) := fun f hf => by
    have := h.names f hf; simp [good] at this; unfold maxLen; omega
  have HLO := Lib.hid h.lo
  have HCNT := Lib.hid h.cnt
  clear hsee hfiles hBm hap h
  obtain ⟨i0, hi0, hz0, hz1, hz2⟩ := info_parts t9info
  have HI0 := Lib.hid hi0
  clear hi0
  have hf1 : Fence.wide.fn 61 := trivial
  refine (callsIn_wide (n := 6)).1 ?_
  refine callsIn_of_wp_marks Try.func37 rfl trivial ?_
  simp only [Try.ntmps37, List.size_toArray, List.length_cons, List.length_nil, Nat.reduceAdd, Nat.reduceSub, Array.replicate_succ, Array.replicate_zero, List.push_toArray, List.append_toArray, List.nil_append, List.cons_append]
  gi_wp2_with (gi_at_call 61; refine (callsIn_wide.2 (each_any _ _)).mono ?_; rintro e w' ⟨rfl, rfl⟩)
  obtain ⟨w1, hw1⟩ : ∃ w1, w1 = (w.alloc (.cells #[.slice none 0 0] 73)).alloc (.cells #[.pointer (some ⟨d, 0, none⟩)] 25) := ⟨_, rfl⟩
  rw [← hw1]
  have HX1 : Hid (Ext w w1) := by rw [hw1]; exact (ext_alloc _ _).trans (ext_alloc _ _)
  have HZ1 : Hid (w1.heap.size = w.heap.size + 2) := by rw [hw1]; simp [Hid]
  have HB0 : Hid (Boxed w1 w.heap.size 73 (.slice none 0 0)) := by rw [hw1]; exact ext_heap (ext_alloc _ _) (heap_at _ _ rfl)
  have HB1 : Hid (w1.heap[w.heap.size + 1]? = some (.cells #[.pointer (some ⟨d, 0, none⟩)] 25)) := by rw [hw1]; exact heap_at _ _ (by simp)
  clear hw1
  refine wpIn_over rfl enters_each (each_iter (HSEE.out.ext HX1.out) HLO.out HCNT.out HSZ.out (cell_of HB1.out rfl)) (fun _ => rfl) (NamesI w w.heap.size F) (fun _ _ => False) (fun _ _ _ _ => trivial) ?hI (fun _ _ _ h _ => h) ?h0 ?round ?done (fun _ _ _ _ h _ => h.elim)
  case hI => intro n₁ k A A' _ hi hc; exact hi.chg (by have := HZ1.out; omega) HX1.out.size hc
  case h0 =>
    intro A hx
    exact ⟨⟨_, ext_heap hx HB0.out, by simpa using World.ownsRow_nil A A.heap.size 9 1⟩, Ext.trans HX1.out hx, Nat.le_refl _⟩
  case round =>
    rintro l n₁ k ⟨x, vv⟩ A hl1 hl2 hn hnA hi hk ⟨hok, hvv⟩
    have hok' : (snames F)[k]? = some x := hok
    have HOKX : Hid ((snames F).take (k + 1) = (snames F).take k ++ [x]) := by unfold Hid; rw [List.take_add_one, hok']; rfl
    have HI := Lib.hid hi
    have HN := Lib.hid hn
    have HL := Lib.hid (And.intro hl1 hl2)
    have HK := Lib.hid hk
    clear hok hok' hvv hi hn hl1 hl2 hk
    gi_wp2
    refine ⟨Step.refl _ _ _, fun A2 hc => ?_⟩
    have hi2 := HI.out.chg (W := w1) (by have := HZ1.out; omega) HX1.out.size (hc.mono fun i _ e => ⟨by have := HL.out.1; omega, by have := HL.out.2; omega⟩)
    obtain ⟨⟨v, hbox, hrow⟩, hbel, hle⟩ := hi2
    obtain ⟨A0, c0, rfl, h1, h2, h3, h4⟩ := Sl.of_own hrow
    have HBOX := Lib.hid hbox
    have HROW := Lib.hid hrow
    have HBEL := Lib.hid hbel
    have q0 := hbox.cell
    have HCN := HCNT.out
    have HKK := HK.out
    clear h1 h2 h3 h4 hc hbox hbel
    gi_wp2_with (gi_at_builtin; refine wpListIn_append_own _ rfl _ _ 73 rfl n₁ 9 i0 (.string ⟨#[]⟩) 1 16 Try.underlying73 HI0.out hz0 hz1 hz2 rfl (by decide) _ _ _ rfl (HROW.out.alloc _) ⟨A2.heap.size, 0, none⟩ 1 1 [encStr x] rfl rfl (cell_one_new _ _ _) (by simp [encStr, Value.oneCell']) (by unfold maxLen; omega) (by omega) (by simp; omega) ?_; intro v' w5 hown' hgrow _; obtain ⟨g', cap', rfl⟩ := ownsRow_succ hown'; have HOWN5 := Lib.hid hown'; have HG5 := Lib.hid hgrow; have q1 := names_box HBOX.out HROW.out hgrow (by have := HZ1.out; have := HN.out; omega); have q2 := q1.cell; have q3 := q1.frozen; clear hown' hgrow)
    have hn1 : w1.heap.size + 2 ≤ n₁ := HN.out
    have hz1 := HZ1.out
    have hrl := row_lt HROW.out
    have hc5 : Chg (fun i => n₁ ≤ i ∨ i = w.heap.size) A2 w5 := (Chg.alloc (S := fun i => n₁ ≤ i ∨ i = w.heap.size) A2 (.cells #[encStr x] 9)).trans (Chg.grown HG5.out (fun i e => .inl (hrl i e).1))
    have hc6 := hc5.trans (Chg.setCell (S := fun i => n₁ ≤ i ∨ i = w.heap.size) w5 ⟨w.heap.size, 0, none⟩ (.slice (some ⟨g', 0, none⟩) (k + 1) cap') (.inr rfl))
    refine ⟨Step.of_chg hc6 hle (fun i h1 h2 hs => by rcases hs with hs | hs <;> omega), ⟨⟨_, q1.set _, ?_⟩, ?_, Nat.le_trans hle hc6.size⟩⟩
    · rw [HOKX.out, List.map_append]
      exact row_kept HOWN5.out (fun g hg => Below.heap_setCell _ _ _ _ (fun e => by have e : g = w.heap.size := e; have := (row_lt HOWN5.out g hg).1; omega))
    · exact HBEL.out.trans (hc6.below (fun i hi => by rcases hi with hi | hi <;> omega) HBEL.out.size)
  case done =>
    rintro D' n₁ W hDl _ hn ⟨⟨v, hbox, hrow⟩, hbel, hle⟩ hD
    have HDL := Lib.hid hDl
    obtain ⟨A0, c0, rfl, h1, h2, h3, h4⟩ := Sl.of_own hrow
    have q0 := hbox.cell
    have HROW := Lib.hid hrow
    have HBEL := Lib.hid hbel
    have HN := Lib.hid hn
    have HDD := Lib.hid hD
    clear h1 h2 h3 h4 hbox hbel hrow hle hn hD hDl
    gi_wp2
    refine ⟨by simp, .inl ⟨_, _, rfl, run_takeDeferred HDD.out, ?_⟩⟩
    refine ⟨_, results_tmp rfl _ _ _, ⟨_, rfl, ?_, ?_⟩⟩
    · have h := HROW.out
      rw [List.take_of_length_le (by rw [snames_length]; exact Nat.le_refl _)] at h
      have hx := HX1.out.size
      have hn := HN.out
      exact ownsRow_base (row_kept h (fun g hg => World.putObj_heap_other (fun e => by subst e; obtain ⟨c, hc⟩ := row_any h hg; rw [HDD.out] at hc; cases hc))) (by omega)
    · exact HBEL.out.trans ((putObj_chg W D' _).below (fun i e => by have := HDL.out; have := HX1.out.size; omega) HBEL.out.size)
end Go.Proofs.Ythcepihibnmgfaa
