/- Another disk, made file by file. -/
import Derived.Test.YthcepihibnmgfaaDnames
import Derived.BigRegionIn
import Derived.RegionIn
namespace Go.Proofs.Ythcepihibnmgfaa
open Go.RowKit Go.Maps Go.Sort Go.Shelf
attribute [local go_sem] Oper.semAt_some

/-- The files that a map has. -/
structure Files (w : World) (S : Nat → Prop) (B m : Nat) (F : List Fl) : Prop where
  ex : ∃ D V, w.ownsMap Try.prog 9 rdf m F.length D ∧ Con D F V ∧ (∀ f ∈ F, FileAt w S B f (V f.name)) ∧ (∀ f ∈ F, ∀ g ∈ F, f.name ≠ g.name → ∀ b, blk (V f.name) = some b → blk (V g.name) ≠ some b)

theorem Files.chg {w w' : World} {S T : Nat → Prop} {B m : Nat} {F : List Fl} (h : Files w S B m F) (hc : Chg T w w') (hm : ¬ T m) (hS : ∀ k, S k → ¬ T k) : Files w' S B m F := by
  obtain ⟨D, V, h1, h2, h3, h4⟩ := h
  exact ⟨D, V, map_kept h1 (hc.block m h1.lt hm), h2, fun f hf => (h3 f hf).kept (fun k hk hl => hc.block k hl (hS k hk)), h4⟩
theorem Files.none (w : World) (S : Nat → Prop) (B m : Nat) (h : w.ownsMap Try.prog 9 rdf m 0 (.map [])) : Files w S B m [] :=
  ⟨.map [], fun _ => undef, h, ⟨tidy_empty, rfl, fun n => by simp [Maps.has], (fun f hf => (by simp at hf)), by simp⟩, (fun f hf => (by simp at hf)), (fun f hf => (by simp at hf))⟩

/-- A file more, its row new; w: a world ahead of the row. -/
theorem Files.put {w w5 w6 : World} {S : Nat → Prop} {B m : Nat} {F : List Fl} (hS5 : ∀ (k : Nat) (cc : Array Value), w.heap[k]? = some (Obj.cells cc 5 (0, 0)) → w5.heap[k]? = w.heap[k]?)
    (f : Fl) (u : Value) (hnew : there F f.name = false) (hk : WideAt.IsKeyLit (.string f.name)) (hrow : w5.ownsRow B 5 1 u f.data.length (bv f.data)) (hu : ∀ g, u.ownBlock = some g → S g ∧ w.heap.size ≤ g) (hl : f.lasts ≤ f.data.length) (hb : ∀ b ∈ f.data, b < 256)
    (D V) (hD : w5.ownsMap Try.prog 9 rdf m F.length D) (hV : ∀ f ∈ F, FileAt w S B f (V f.name)) (hC : Con D F V) (hap : ∀ f ∈ F, ∀ g ∈ F, f.name ≠ g.name → ∀ b, blk (V f.name) = some b → blk (V g.name) ≠ some b)
    (h6 : w5.grownBy w6 (some m)) {n : Nat} (ho : w6.ownsMap Try.prog 9 rdf m n (D.put (.string f.name) (.held (.agg #[u, .int .i64 (f.lasts : Int)])))) : Files w6 S B m (f :: F) := by
  have hup : upd F f = f :: F := by unfold upd; rw [del_none (there_no hnew)]
  have hcon := hC.put f (.agg #[u, .int .i64 (f.lasts : Int)]) hk
  rw [hup] at hcon
  have hne : ∀ g ∈ F, g.name ≠ f.name := fun g hg e => there_no hnew ⟨g, hg, e⟩
  have hmne : ∀ {k : Nat} {t : TypeId} {cc : Array Value} {fz}, w5.heap[k]? = some (.cells cc t fz) → k ≠ m := fun hk e => by
    obtain ⟨es, clock, hm, _⟩ := hD
    rw [e, hm] at hk; cases hk
  have hv : ∀ g ∈ F, vset V f.name (.agg #[u, .int .i64 (f.lasts : Int)]) g.name = V g.name := fun g hg => by simp [vset, hne g hg]
  have hvf : vset V f.name (.agg #[u, .int .i64 (f.lasts : Int)]) f.name = .agg #[u, .int .i64 (f.lasts : Int)] := by simp [vset]
  refine ⟨_, _, ?_, hcon, fun g hg => ?_, fun x hx y hy hxy b hbx => ?_⟩
  · have := own_exact ho
    rw [hcon.size] at this
    exact this
  · rcases List.mem_cons.1 hg with rfl | hg
    · rw [hvf]
      refine ⟨⟨u, rfl, row_kept hrow (fun k hk => h6.block k (row_lt hrow k hk).2 (fun e => ?_)), fun g hg => (hu g hg).1⟩, hl, hb⟩
      injection e with e
      obtain ⟨cc, hcc⟩ := row_not hrow hk
      exact hmne hcc e
    · rw [hv g hg]
      refine (hV g hg).keep1 (fun b hb => ?_) (fun _ hk => hk)
      obtain ⟨h1, h2, cc, h3⟩ := (hV g hg).blk_lt hb
      have h5 := (hS5 b cc h3).trans h3
      exact (h6.block b (Array.getElem?_eq_some_iff.1 h5).1 (fun e => by injection e with e; exact hmne h5 e)).trans (hS5 b cc h3)
  · rcases List.mem_cons.1 hx with ex | hx' <;> rcases List.mem_cons.1 hy with ey | hy'
    · exact absurd (by rw [ex, ey]) hxy
    · rw [ex, hvf] at hbx
      rw [hv y hy']
      intro e
      have := ((hV y hy').blk_lt e).1
      have := (hu b hbx).2
      omega
    · rw [hv x hx'] at hbx
      rw [ey, hvf]
      intro e
      have := ((hV x hx').blk_lt hbx).1
      have := (hu b e).2
      omega
    · rw [hv x hx'] at hbx
      rw [hv y hy']
      exact hap x hx' y hy' hxy b hbx

theorem Files.perm {w : World} {S : Nat → Prop} {B m : Nat} {F F' : List Fl} (h : Files w S B m F) (p : F.Perm F') : Files w S B m F' := by
  obtain ⟨D, V, h1, h2, h3, h4⟩ := h
  exact ⟨D, V, by rw [← p.length_eq]; exact h1, h2.perm p, fun x hx => h3 x (p.mem_iff.2 hx), fun x hx y hy => h4 x (p.mem_iff.2 hx) y (p.mem_iff.2 hy)⟩
theorem Files.wide {w : World} {S S' : Nat → Prop} {B B' m : Nat} {F : List Fl} (h : Files w S B m F) (hS : ∀ k, S k → S' k) (hB : B' ≤ B) : Files w S' B' m F := by
  obtain ⟨D, V, h1, h2, h3, h4⟩ := h
  exact ⟨D, V, h1, h2, fun f hf => by obtain ⟨⟨u, q1, q2, q3⟩, q4, q5⟩ := h3 f hf; exact ⟨⟨u, q1, ownsRow_base q2 hB, fun g hg => hS g (q3 g hg)⟩, q4, q5⟩, h4⟩

/-- The files that have been made so far. -/
def acc (G : Fl → Fl) (F : List Fl) (k : Nat) : List Fl := ((snames F).take k).map fun n => G (cur F n)
theorem snames_nodup {F : List Fl} (h : (F.map Fl.name).Nodup) : (snames F).Nodup := (List.mergeSort_perm _ _).nodup_iff.2 h
theorem acc_new {D : DataW Value} {V : List UInt8 → Value} {G : Fl → Fl} {F : List Fl} (hC : Con D F V) (hG : ∀ f ∈ F, (G f).name = f.name ∧ (G f).lasts ≤ (G f).data.length ∧ (G f).data.length ≤ f.data.length ∧ ∀ b ∈ (G f).data, b < 256)
    {k : Nat} {x n : List UInt8} (hx : (snames F)[k]? = some x) (hn : n = x) : there (acc G F k) n = false := by
  subst hn
  unfold there acc
  rw [List.any_eq_false]
  intro g hg
  obtain ⟨y, hy, rfl⟩ := List.mem_map.1 hg
  have hym : y ∈ snames F := List.mem_of_mem_take hy
  obtain ⟨f, hf, rfl⟩ := snames_mem.1 hym
  rw [cur_mem hC.nodup hf, (hG f hf).1]
  intro e
  have e : f.name = n := by simpa using e
  obtain ⟨i, hi, hiy⟩ := List.mem_take_iff_getElem.1 hy
  obtain ⟨hk, hkx⟩ := List.getElem?_eq_some_iff.1 hx
  exact List.pairwise_iff_getElem.1 (snames_nodup hC.nodup) i k (by omega) hk (by omega) (hiy.trans (e.trans hkx.symm))
theorem acc_all {G : Fl → Fl} {F : List Fl} (h : (F.map Fl.name).Nodup) : (acc G F F.length).Perm (F.map G) := by
  unfold acc
  rw [List.take_of_length_le (by rw [snames_length]; exact Nat.le_refl _)]
  have h1 : ((F.map Fl.name).map fun n => G (cur F n)) = F.map G := by
    rw [List.map_map]
    exact List.map_congr_left fun f hf => by simp [cur_mem h hf]
  rw [← h1]
  exact (List.mergeSort_perm _ _).map _

theorem tot_map (F : List Fl) (G : Fl → Fl) (h : ∀ f ∈ F, (G f).data.length ≤ f.data.length) : tot (F.map G) ≤ tot F := by
  induction F with
  | nil => exact Nat.le_refl _
  | cons f F ih =>
    have h1 := h f (by simp)
    have h2 := ih fun g hg => h g (by simp [hg])
    rw [List.map_cons, tot_cons, tot_cons]
    omega

/-- What leaves of a file answers. -/
def LeftAns (hi : Nat) (f' : Fl) (A : World) (e : Ending) (A' : World) : Prop := ∃ A1 c1, e = .returned (.agg #[.slice A1 f'.data.length c1, .int .i64 (f'.lasts : Int)]) ∧ Below A.heap.size A A' ∧ Bs A' 0 hi (.slice A1 f'.data.length c1) f'.data

/-- Between two rounds. -/
structure OtherI (w : World) (b0 m' b2 : Nat) (lf : Value) (G : Fl → Fl) (F : List Fl) (n₁ k : Nat) (A : World) : Prop where
  files : Files A (Frm n₁) n₁ m' (acc G F k)
  fn : Boxed A b0 97 lf
  box : Boxed A b2 78 (.map (some m'))
  below : Below w.heap.size w A
  le : n₁ ≤ A.heap.size
theorem OtherI.chg {w W : World} {b0 m' b2 n₁ k : Nat} {lf : Value} {G : Fl → Fl} {F : List Fl} {A A' : World} (h : OtherI w b0 m' b2 lf G F n₁ k A) (h0 : b0 < W.heap.size) (hm : m' < W.heap.size) (h2 : b2 < W.heap.size) (hw : w.heap.size ≤ W.heap.size) (hc : Chg (Btw W.heap.size n₁) A A') :
    OtherI w b0 m' b2 lf G F n₁ k A' :=
  ⟨h.files.chg hc (fun hb => by have := hb.1; omega) (fun i hi hb => by have h1 : n₁ ≤ i := hi; have := hb.2; omega), boxed_chg h.fn hc (fun hb => by have := hb.1; omega), boxed_chg h.box hc (fun hb => by have := hb.1; omega),
    h.below.trans (hc.below (fun i hi => Nat.le_trans hw hi.1) h.below.size), Nat.le_trans h.le hc.size⟩

/-- Another disk that is answered. -/
def OtherAns (w : World) (room : Nat) (F' : List Fl) (e : Ending) (w' : World) : Prop := ∃ d', e = .returned (.pointer (some ⟨d', 0, none⟩)) ∧ Disk w' (Frm w.heap.size) w.heap.size d' room F' ∧ Below w.heap.size w w'

set_option maxRecDepth 100000 in
set_option maxHeartbeats 4000000 in
theorem another_any {w : World} {S : Nat → Prop} {B d room : Nat} {F : List Fl} (h : Disk w S B d room F) (G : Fl → Fl) (hG : ∀ f ∈ F, (G f).name = f.name ∧ (G f).lasts ≤ (G f).data.length ∧ (G f).data.length ≤ f.data.length ∧ ∀ b ∈ (G f).data, b < 256)
    (lf : Nat) (lb : Array Value) (eg : ∀ args w, (callFunc lf args).run Try.prog w = .ok (.enter lf args) w)
    (hL : ∀ (A : World) (f : Fl) (v : Value), f ∈ F → FileAt w S B f v → Below w.heap.size w A → Calls Try.prog lf (#[encStr f.name, v] ++ lb) A (LeftAns w.heap.size (G f) A)) :
    Calls Try.prog 49 #[.pointer (some ⟨d, 0, none⟩), .func (.func lf) #[] lb] w (OtherAns w room (F.map G)) := by
  obtain ⟨m, D, V, hsee, hfiles, hBm, hap⟩ := h.seen
  have H := Lib.hid h
  have HSEE := Lib.hid hsee
  have HFI := Lib.hid hfiles
  have HG := Lib.hid hG
  have HLF := Lib.hid hL
  have HSZ : Hid (∀ f ∈ F, f.name.length ≤ maxLen) := fun f hf => by
    have := h.names f hf; simp [good] at this; unfold maxLen; omega
  clear hsee hfiles hBm hap h hG hL
  have hf1 : Fence.wide.fn 61 := trivial
  have hf2 : Fence.wide.fn 51 := trivial
  have hf3 : Fence.wide.fn lf := trivial
  have hmm := @run_makeMap Try.prog
  refine (callsIn_wide (n := 6)).1 ?_
  refine callsIn_of_wp_marks Try.func49 rfl trivial ?_
  simp only [Try.ntmps49, List.size_toArray, List.length_cons, List.length_nil, Nat.reduceAdd, Nat.reduceSub, Array.replicate_succ, Array.replicate_zero, List.push_toArray, List.append_toArray, List.nil_append, List.cons_append]
  gi_wp2_with (gi_at_call 61; refine (callsIn_wide.2 (each_any _ _)).mono ?_; rintro e w' ⟨rfl, rfl⟩)
  clear hmm
  obtain ⟨w1, hw1⟩ : ∃ w1, w1 = ((((w.alloc (.cells #[.func (.func lf) #[] lb] 97)).alloc (.map #[] 0)).alloc (.cells #[.map (some (w.heap.size + 1))] 78)).alloc (.cells #[.pointer (some ⟨d, 0, none⟩)] 25)) := ⟨_, rfl⟩
  rw [← hw1]
  have HX1 : Hid (Ext w w1) := by rw [hw1]; exact (((ext_alloc _ _).trans (ext_alloc _ _)).trans (ext_alloc _ _)).trans (ext_alloc _ _)
  have HZ1 : Hid (w1.heap.size = w.heap.size + 4) := by rw [hw1]; simp [Hid]
  have HB0 : Hid (Boxed w1 w.heap.size 97 (.func (.func lf) #[] lb)) := by rw [hw1]; exact ext_heap (((ext_alloc _ _).trans (ext_alloc _ _)).trans (ext_alloc _ _)) (heap_at _ _ rfl)
  have HM1 : Hid (w1.ownsMap Try.prog 9 rdf (w.heap.size + 1) 0 (.map [])) := by
    have h := World.ownsMap_made (w.alloc (.cells #[.func (.func lf) #[] lb] 97)) Try.prog 9 rdf
    rw [hw1]; unfold Hid; simpa using (h.alloc (.cells #[.map (some (w.heap.size + 1))] 78)).alloc (.cells #[.pointer (some ⟨d, 0, none⟩)] 25)
  have HB2 : Hid (Boxed w1 (w.heap.size + 2) 78 (.map (some (w.heap.size + 1)))) := by rw [hw1]; exact ext_heap (ext_alloc _ _) (heap_at _ _ (by simp))
  have HB3 : Hid (w1.heap[w.heap.size + 3]? = some (.cells #[.pointer (some ⟨d, 0, none⟩)] 25)) := by rw [hw1]; exact heap_at _ _ (by simp)
  clear hw1
  have hchg : ∀ n₁ k A A', OtherI w w.heap.size (w.heap.size + 1) (w.heap.size + 2) (.func (.func lf) #[] lb) G F n₁ k A → Chg (Btw w1.heap.size n₁) A A' → OtherI w w.heap.size (w.heap.size + 1) (w.heap.size + 2) (.func (.func lf) #[] lb) G F n₁ k A' :=
    fun _ _ _ _ hi hc => hi.chg (by have := HZ1.out; omega) (by have := HZ1.out; omega) (by have := HZ1.out; omega) HX1.out.size hc
  have HCHG := Lib.hid hchg
  clear hchg
  refine wpIn_over rfl enters_each (each_iter (HSEE.out.ext HX1.out) H.out.lo H.out.cnt HSZ.out (cell_of HB3.out rfl)) (fun _ => rfl) (OtherI w w.heap.size (w.heap.size + 1) (w.heap.size + 2) (.func (.func lf) #[] lb) G F) (fun _ _ => False) (fun _ _ _ _ => trivial) ?hI (fun _ _ _ h _ => h) ?h0 ?round ?done (fun _ _ _ _ h _ => h.elim)
  case hI => intro n₁ k A A' _ hi hc; exact HCHG.out _ _ _ _ hi hc
  case h0 =>
    intro A hx
    refine ⟨(Files.none A _ _ _ (map_kept HM1.out (hx.block _ HM1.out.lt))), ext_heap hx HB0.out, ext_heap hx HB2.out, Ext.trans HX1.out hx, Nat.le_refl _⟩
  case round =>
    rintro l n₁ k ⟨x, vv⟩ A hl1 hl2 hn hnA hi hk ⟨hok, hvv⟩
    have hok' : (snames F)[k]? = some x := hok
    have hvv' : vv = V x := hvv
    subst hvv'
    have hmem : x ∈ snames F := List.mem_of_getElem? hok'
    obtain ⟨f, hf, hfx⟩ := snames_mem.1 hmem
    have hcur := cur_mem HSEE.out.con.nodup hf
    rw [hfx] at hcur
    have HACC : Hid (acc G F (k + 1) = acc G F k ++ [G f]) := by unfold Hid acc; rw [List.take_add_one, hok']; simp [hcur]
    obtain ⟨A0, c0, y0, hshape⟩ : ∃ A0 c0 y0, V x = fv A0 f.data.length c0 y0 := by
      obtain ⟨⟨u, e, hr, _⟩, _⟩ := HFI.out f hf
      obtain ⟨A', c', rfl, _⟩ := Sl.of_own hr
      rw [hfx] at e
      exact ⟨_, _, _, e⟩
    have HFILE := HFI.out f hf
    rw [hfx] at HFILE
    rw [hshape] at HFILE ⊢
    unfold fv at HFILE ⊢
    have HFILE := Lib.hid HFILE
    have HI := Lib.hid hi
    have HN := Lib.hid hn
    have HL := Lib.hid (And.intro hl1 hl2)
    have HK := Lib.hid hk
    have HF := Lib.hid hf
    have HFX := Lib.hid hfx
    have HOK := Lib.hid hok'
    clear hok hok' hvv hi hn hl1 hl2 hk hmem hcur hshape hf hfx hnA
    gi_wp2
    refine ⟨?_, fun A2 hc => ?_⟩
    · exact Step.of_chg (Chg.alloc (S := fun _ => False) _ _) HI.out.le (fun _ _ _ h => h)
    have HBX : Hid (A2.heap[A.heap.size]? = some (.cells #[.slice A0 f.data.length c0, .int .i64 y0] 96 (0, 0))) := (hc.block _ (by simp) (by have := HI.out.le; have := HL.out.2; omega)).trans (heap_at _ _ rfl)
    have HI2 := Lib.hid (HCHG.out _ _ _ _ (HCHG.out _ _ _ _ HI.out (Chg.alloc A (.cells #[.slice A0 f.data.length c0, .int .i64 y0] 96))) (hc.mono fun i _ e => ⟨by have := HL.out.1; omega, by have := HL.out.2; omega⟩))
    have hz2 : A.heap.size < A2.heap.size := by have := hc.size; simp at this; omega
    have q0 := HI2.out.fn.cell
    have q1 := cell_of (k := 0) HBX.out rfl
    have q2 := cell_of (k := 1) HBX.out rfl
    have HC := Lib.hid (HLF.out A2 f _ HF.out HFILE.out HI2.out.below)
    rw [HFX.out] at HC
    clear hc
    gi_wp2_with fail
    refine CallsIn.mono (CallsIn.inRound l (callsIn_wide.2 HC.out)) ?_
    rintro e A3 ⟨A1', c1, rfl, hb3, hbs3⟩
    have HB3' := Lib.hid hb3
    have HBS3 := Lib.hid hbs3
    have hbx3 := ext_heap hb3 HBX.out
    have r1 := cell_of (k := 0) hbx3 rfl
    have r2 := cell_of (k := 1) hbx3 rfl
    have r3 := free_of (k := 0) hbx3
    have r4 := free_of (k := 1) hbx3
    have HBX3 := Lib.hid hbx3
    clear hb3 hbs3 hbx3 q0 q1 q2
    gi_wp2_with fail
    obtain ⟨A4, hA4⟩ : ∃ A4, A4 = (A3.setCell ⟨A.heap.size, 0, none⟩ (.slice A1' (G f).data.length c1)).setCell ⟨A.heap.size, 1, none⟩ (.int .i64 ((G f).lasts : Int)) := ⟨_, rfl⟩
    rw [← hA4]
    have HBX4 : Hid (A4.heap[A.heap.size]? = some (.cells #[.slice A1' (G f).data.length c1, .int .i64 ((G f).lasts : Int)] 96 (0, 0))) := by
      rw [hA4]; exact heap_set (k := 1) _ (heap_set (k := 0) _ HBX3.out)
    have hwA : w.heap.size ≤ A.heap.size := HI.out.below.size
    have HBS4 : Hid (Bs A4 0 w.heap.size (.slice A1' (G f).data.length c1) (G f).data) := by
      rw [hA4]; exact (HBS3.out.setCell (.inr hwA) _).setCell (.inr hwA) _
    have HC24 : Hid (Chg (fun i => i = A.heap.size) A2 A4) := by
      rw [hA4]; exact ((Chg.of_ext HB3'.out).trans (Chg.setCell (S := fun i => i = A.heap.size) _ ⟨A.heap.size, 0, none⟩ _ rfl)).trans (Chg.setCell (S := fun i => i = A.heap.size) _ ⟨A.heap.size, 1, none⟩ _ rfl)
    clear hA4 r1 r2 r3 r4 hwA
    obtain ⟨hgn, hgl, hgd, hgb⟩ := HG.out f HF.out
    have hfl : f.data.length ≤ 1048576 := by have h1 := tot_mem HF.out; have h2 := H.out.tot; have h3 := H.out.hi; omega
    refine CallsIn.mono (CallsIn.inRound l (callsIn_wide.2 (clone_any _ 0 w.heap.size _ A4 HBS4.out (Nat.le_trans HI2.out.below.size HC24.out.size) (by omega)))) ?_
    rintro e A5 ⟨v5, rfl, hown5, hb5⟩
    have hb5' : Ext A4 A5 := hb5
    obtain ⟨R, cR, rfl, _, _, _, _⟩ := Sl.of_own hown5
    have HOWN5 := Lib.hid hown5
    have HX45 := Lib.hid hb5'
    have HBX5 := Lib.hid (ext_heap hb5' HBX4.out)
    have hc25 : Chg (fun i => i = A.heap.size) A2 A5 := HC24.out.trans (Chg.of_ext hb5')
    have hc26 := hc25.trans (Chg.setCell (S := fun i => i = A.heap.size) A5 ⟨A.heap.size, 0, none⟩ (.slice R (G f).data.length cR) rfl)
    have HC26 := Lib.hid hc26
    obtain ⟨D2, V2, hD2, hC2, hV2, hap2⟩ := HI2.out.files
    have hmA : w.heap.size + 1 ≠ A.heap.size := by have := HN.out; have := HI.out.le; have := HX1.out.size; have := HZ1.out; omega
    have hm6 := hc26.block (w.heap.size + 1) hD2.lt hmA
    have hD6 := map_kept hD2 hm6
    have hxl : x.length ≤ maxLen := by rw [← HFX.out]; exact HSZ.out f HF.out
    have hkey : keyOf Try.prog 9 (encStr x) = some (.string x) := by
      have := WideMaps.keyOf_string_mk (P := Try.prog) (s := ⟨x.toArray⟩) Try.underlying9 (by simpa [ByteArray.size] using hxl)
      simpa [encStr] using this
    have hlen2 : (acc G F k).length < maxLen := by have h1 := H.out.cnt; have h2 := HK.out; unfold maxLen acc; simp [snames_length]; omega
    obtain ⟨A7, hrun7, hown7, hg7⟩ := hD6.update lawS Try.underlying78 hlen2 (val := .agg #[.slice R (G f).data.length cR, .int .i64 ((G f).lasts : Int)]) hkey (rdf_mk _ _ _ _)
    have HOWN7 := Lib.hid hown7
    have HG7 := Lib.hid hg7
    have HKEY := Lib.hid hkey
    have HHD := Lib.hid hD2
    have HHC := Lib.hid hC2
    have HHV := Lib.hid hV2
    have HHA := Lib.hid hap2
    have s1 := cell_of (k := 0) HBX5.out rfl
    have s2 := cell_of (k := 1) HBX5.out rfl
    have s3 := free_of (k := 0) HBX5.out
    have s4 : A5.cell? ⟨w.heap.size + 2, 0, none⟩ = some (.map (some (w.heap.size + 1))) := (boxed_chg HI2.out.box hc25 (by have := HN.out; have := HI.out.le; have := HX1.out.size; have := HZ1.out; omega)).cell
    have hne : w.heap.size + 2 ≠ A.heap.size := by have := HN.out; have := HI.out.le; have := HX1.out.size; have := HZ1.out; omega
    clear hown5 hb5 hb5' hc25 hc26 hD2 hC2 hV2 hap2 hmA hm6 hD6 hxl hkey hlen2 hown7 hg7 hgn hgl hgd hgb hfl
    gi_wp2_with fail
    have hz1 := HZ1.out
    have hn1 := HN.out
    have hAn := HI.out.le
    have hc27 : Chg (fun i => i = A.heap.size ∨ i = w.heap.size + 1) A2 A7 := (HC26.out.mono fun i _ e => .inl e).trans (Chg.grown HG7.out (fun i e => by injection e with e; exact .inr e.symm))
    have hstep : Step w1.heap.size n₁ A2 A7 := Step.of_chg hc27 HI2.out.le (fun i h1 h2 hs => by rcases hs with hs | hs <;> omega)
    obtain ⟨hgn, hgl, hgd, hgb⟩ := HG.out f HF.out
    have hgx : (G f).name = x := hgn.trans HFX.out
    have hkey2 := lawS.key HKEY.out
    refine ⟨hstep, ⟨?_, boxed_chg HI2.out.fn hc27 (fun hs => by rcases hs with hs | hs <;> omega), boxed_chg HI2.out.box hc27 (fun hs => by rcases hs with hs | hs <;> omega),
      HI2.out.below.trans (hc27.below (fun i hi => by rcases hi with hi | hi <;> omega) HI2.out.below.size), Nat.le_trans HI2.out.le hc27.size⟩⟩
    rw [HACC.out]
    refine Files.perm (Files.put (w := A2) (w5 := A5.setCell ⟨A.heap.size, 0, none⟩ (.slice R (G f).data.length cR)) (S := Frm n₁) (fun k' cc hk' => HC26.out.block k' (Array.getElem?_eq_some_iff.1 hk').1 (fun e => ?_)) (G f) (.slice R (G f).data.length cR) (acc_new HSEE.out.con HG.out HOK.out (hgx)) (by rw [hgx]; exact hkey2)
      (ownsRow_base (row_kept HOWN5.out (fun g hg => Below.heap_setCell _ _ _ _ (fun e => ?_))) (by have h1 := HI2.out.le; have h2 := HC24.out.size; omega)) (fun g hg => ?_) hgl hgb _ _ (map_kept HHD.out (HC26.out.block _ HHD.out.lt (by omega))) HHV.out HHC.out HHA.out HG7.out (by rw [hgx]; exact HOWN7.out)) (List.perm_append_singleton _ _).symm
    · rw [e, HBX.out] at hk'
      injection hk' with hk'
      injection hk' with _ hk'
      exact absurd hk' (by decide)
    · have e : g = A.heap.size := e
      have h1 := (row_lt HOWN5.out g hg).1
      have h2 := HC24.out.size
      have h3 : A.heap.size < A2.heap.size := hz2
      omega
    · have h1 := (row_lt HOWN5.out g hg).1
      have h2 := HC24.out.size
      have h3 := HI2.out.le
      exact ⟨show n₁ ≤ g by omega, by omega⟩
  case done =>
    rintro D' n₁ W hDl _ hn hi hD
    have HI := Lib.hid hi
    have HDL := Lib.hid hDl
    have HDD := Lib.hid hD
    have q0 : W.cell? ⟨d, 0, none⟩ = some (.int .i64 (room : Int)) := ext_cell (hi.below) HSEE.out.c0
    have q1 : W.cell? ⟨w.heap.size + 2, 0, none⟩ = some (.map (some (w.heap.size + 1))) := hi.box.cell
    have HWN : Hid (w.heap.size ≤ n₁) := by have := HX1.out.size; unfold Hid; omega
    clear hi hDl hn hD
    gi_wp2
    gi_region
    gi_wp2
    have hDlt := (Array.getElem?_eq_some_iff.1 HDD.out).1
    have hD2 : ((W.alloc (.cells #[.int .i64 (room : Int), .map (some (w.heap.size + 1))] 80)).drew).heap[D']? = some (.deferred (some [])) := (Below.heap_alloc _ _ _ hDlt).trans HDD.out
    refine ⟨by simp, .inl ⟨_, _, rfl, run_takeDeferred hD2, ?_⟩⟩
    refine ⟨_, results_tmp rfl _ _ _, ⟨W.heap.size, rfl, ?_, ?_⟩⟩
    · have hc : Chg (fun i => i = D') W (((W.alloc (.cells #[.int .i64 (room : Int), .map (some (w.heap.size + 1))] 80)).drew).putObj D' (.deferred none)) :=
        ((Chg.alloc W _).trans (Chg.drew _)).trans (putObj_chg _ _ _)
      have hz1 := HZ1.out
      have hdl := HDL.out
      have hb := HI.out.below.size
      have hwn := HWN.out
      have hf := ((HI.out.files.perm (acc_all (G := G) HSEE.out.con.nodup)).wide (S' := Frm w.heap.size) (B' := w.heap.size) (fun k hk => show w.heap.size ≤ k from Nat.le_trans hwn hk) hwn)
      obtain ⟨D2, V2, h1, h2, h3, h4⟩ := HI.out.files.perm (acc_all (G := G) HSEE.out.con.nodup)
      have hrows : ∀ k cc, W.heap[k]? = some (Obj.cells cc 5 (0, 0)) → k ≠ D' := fun k cc hk e => by rw [e, HDD.out] at hk; cases hk
      refine ⟨⟨w.heap.size + 1, D2, V2, ?_, map_kept h1 (hc.block _ h1.lt (by omega)), h2, fun f hf => ?_, h4, show w.heap.size ≤ w.heap.size + 1 by omega, by omega⟩, show w.heap.size ≤ W.heap.size from hb, hb, H.out.lo, H.out.hi, ?_, by simpa using H.out.cnt, ?_⟩
      · exact (World.putObj_heap_other (by omega)).trans (heap_at _ _ rfl)
      · have := (h3 f hf)
        obtain ⟨⟨u, e1, e2, e3⟩, e4, e5⟩ := this
        exact ⟨⟨u, e1, ownsRow_base (row_kept e2 (fun g hg => hc.block g (row_lt e2 g hg).2 (fun e => by obtain ⟨cc, hcc⟩ := row_not e2 hg; exact hrows g cc hcc e))) hwn, fun g hg => Nat.le_trans hwn (e3 g hg)⟩, e4, e5⟩
      · refine Nat.le_trans (tot_map F G (fun f hf => (HG.out f hf).2.2.1)) H.out.tot
      · intro g hg
        obtain ⟨f, hf, rfl⟩ := List.mem_map.1 hg
        rw [(HG.out f hf).1]
        exact H.out.names f hf
    · exact HI.out.below.trans ((((Below.refl _ W).alloc (Nat.le_refl _) _).drew.mono HI.out.below.size).trans ((putObj_chg _ D' _).below (fun i e => by have := HDL.out; have := HX1.out.size; omega) (by have := HI.out.below.size; simp; omega)))
end Go.Proofs.Ythcepihibnmgfaa
