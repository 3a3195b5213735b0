/- DiskTwins: from the walk to the statement. For every input the law answers true and leaves its arguments as they were. -/
import Derived.Test.YtenhfphgobalfaaMa14
import Derived.Test.YtenhfphgobalfaaMa10

/- DiskTwins: two disks are the same just if their rooms and files are; a copy goes on apart. -/
namespace Go.Proofs.Ytenhfphgobalfaa
open Go.RowKit Go.Maps
attribute [local go_sem] Oper.semAt_some

theorem eq_of_names : ∀ {RA RB : List RFl}, RA.map RFl.name = RB.map RFl.name → (RB.map RFl.name).Nodup → (∀ g ∈ RA, g ∈ RB) → RA = RB
  | [], [], _, _, _ => rfl
  | [], _ :: _, h, _, _ => by simp at h
  | _ :: _, [], h, _, _ => by simp at h
  | a :: RA, b :: RB, h, hn, hs => by
    simp only [List.map_cons, List.cons.injEq] at h
    rw [List.map_cons, List.nodup_cons] at hn
    have e : a = b := by
      rcases List.mem_cons.1 (hs a (List.mem_cons_self ..)) with e | e
      · exact e
      · exact absurd (by rw [← h.1]; exact List.mem_map_of_mem e) hn.1
    subst e
    congr 1
    refine eq_of_names h.2 hn.2 fun g hg => ?_
    rcases List.mem_cons.1 (hs g (List.mem_cons_of_mem _ hg)) with e | e
    · subst e
      exact absurd (by rw [← h.2]; exact List.mem_map_of_mem hg) hn.1
    · exact e
theorem sorted_same {F F2 : List Fl} {G G2 RA RB : List RFl} (ht : Tie F G) (ht2 : Tie F2 G2) (ha : RA.Perm G) (hb : RB.Perm G2) (sa : SdF RA) (sb : SdF RB) : RA = RB ↔ F.Perm F2 := by
  have ta := ht.turn ha.symm
  have tb := ht2.turn hb.symm
  refine ⟨fun e => ?_, fun p => ?_⟩
  · subst e
    exact ta.perm.trans tb.perm.symm
  · have hn : RB.map RFl.name = snames F2 := snames_eq tb sb
    have hm : snames F = snames F2 := by
      unfold snames
      exact (Go.mergeSort_of_perm (p.map Fl.name)).trans rfl
    refine eq_of_names ((snames_eq ta sa).trans (hm.trans hn.symm)) ?_ fun g hg => ?_
    · have h1 : (F2.map Fl.name).Perm ((RB.map toFl).map Fl.name) := tb.perm.map _
      rw [map_toFl] at h1
      exact h1.nodup_iff.1 tb.nf
    · have h1 : toFl g ∈ RA.map toFl := List.mem_map_of_mem hg
      have h2 : toFl g ∈ RB.map toFl := (ta.perm.symm.trans (p.trans tb.perm)).mem_iff.1 h1
      obtain ⟨g', hg', e⟩ := List.mem_map.1 h2
      rw [← toFl_inj e]
      exact hg'
def SameZ (z : Bool) (room room2 : Nat) (F F2 : List Fl) : Prop := z = true ↔ room = room2 ∧ F.Perm F2
theorem ex_z (room room2 : Nat) (F F2 : List Fl) : ∃ z : Bool, SameZ z room room2 F F2 := by
  by_cases hp : room = room2 ∧ F.Perm F2
  · exact ⟨true, fun _ => hp, fun _ => rfl⟩
  · exact ⟨false, fun e => (by cases e), fun e => absurd e hp⟩
theorem SameZ.flip {z : Bool} {room room2 : Nat} {F F2 : List Fl} (h : SameZ z room room2 F F2) : SameZ z room2 room F2 F := h.trans ⟨fun e => ⟨e.1.symm, e.2.symm⟩, fun e => ⟨e.1.symm, e.2.symm⟩⟩
theorem SameZ.self (room : Nat) (F : List Fl) : SameZ true room room F F := ⟨fun _ => ⟨rfl, .refl _⟩, fun _ => rfl⟩
theorem sameD_z {w : World} {d room d2 room2 B B2 : Nat} {S S2 : Nat → Prop} {F F2 : List Fl} {z : Bool} (h : Disk w S B d room F) (h2 : Disk w S2 B2 d2 room2 F2) (hz : SameZ z room room2 F F2) :
    Calls Try.prog 24 #[.pointer (some ⟨d, 0, none⟩), .pointer (some ⟨d2, 0, none⟩)] w fun e w' => e = .returned (.bool z) ∧ Ext w w' :=
  (same_any h h2).mono fun e w' ⟨y, h1, h3, h4⟩ => ⟨by rw [h3, (Bool.eq_iff_iff.2 (h1.trans hz.symm) : y = z)], h4⟩
theorem sameR_z {w : World} {B r room B2 r2 room2 : Nat} {F F2 : List Fl} {G G2 : List RFl} {z : Bool} (h : RD w B r room G) (h2 : RD w B2 r2 room2 G2) (ht : Tie F G) (ht2 : Tie F2 G2) (hz : SameZ z room room2 F F2) :
    Calls Try.prog 32 #[.pointer (some ⟨r, 0, none⟩), .pointer (some ⟨r2, 0, none⟩)] w fun e w' => e = .returned (.bool z) ∧ Ext w w' :=
  (sameRef_any h h2).mono fun e w' ⟨RA, RB, y, ha, sa, hb, sb, h3, h1, h4⟩ => ⟨by
    have h5 : y = z := Bool.eq_iff_iff.2 (h1.trans ((and_congr_right fun _ => sorted_same ht ht2 ha hb sa sb).trans hz.symm))
    rw [h3, h5], h4⟩
theorem same_nod {w : World} {d : Nat} (h : IsDisk w d) : Calls Try.prog 24 #[.pointer none, .pointer (some ⟨d, 0, none⟩)] w fun e w' => e = .returned (.bool false) ∧ w = w' := by
  have HN := Lib.hid (none_yes (w := w) (v := .pointer none) (.inl rfl))
  have HI := Lib.hid (none_no h)
  clear h
  go_enter Try.func24, Try.ntmps24
  go_wp2_with fail
  refine HN.out.mono ?_
  rintro e w1 ⟨rfl, hw⟩
  subst hw
  go_wp2_with fail
  refine HN.out.mono ?_
  rintro e w1 ⟨rfl, hw⟩
  subst hw
  go_wp2_with fail
  refine HI.out.mono ?_
  rintro e w1 ⟨rfl, hw⟩
  subst hw
  go_wp2_with fail
  go_ret
  exact ⟨rfl, rfl⟩
theorem bo_nod {w0 w : World} {d r room : Nat} {F : List Fl} {G : List RFl} {L : List Dk} {P : World → Prop} (h : Bo w0 d r room F G L P w) : Calls Try.prog 24 #[.pointer none, .pointer (some ⟨d, 0, none⟩)] w fun e w' => e = .returned (.bool false) ∧ w = w' := by
  obtain ⟨S9, hd9⟩ := h.disk
  exact same_nod hd9.isDisk
theorem bo_not {w0 w : World} {d r room : Nat} {F : List Fl} {G : List RFl} {L : List Dk} {P : World → Prop} (h : Bo w0 d r room F G L P w) : Calls Try.prog 24 #[.pointer (some ⟨d, 0, none⟩), .pointer none] w fun e w' => e = .returned (.bool false) ∧ w = w' := by
  obtain ⟨S9, hd9⟩ := h.disk
  exact same_not hd9.isDisk
theorem bo_two {w0 w02 w : World} {d r room d2 r2 room2 : Nat} {F F2 : List Fl} {G G2 : List RFl} {L L2 : List Dk} {P P2 : World → Prop} {z : Bool} (h : Bo w0 d r room F G L P w) (h2 : Bo w02 d2 r2 room2 F2 G2 L2 P2 w) (hz : SameZ z room room2 F F2) : Calls Try.prog 24 #[.pointer (some ⟨d, 0, none⟩), .pointer (some ⟨d2, 0, none⟩)] w fun e w' => e = .returned (.bool z) ∧ Ext w w' := by
  obtain ⟨S9, hd9⟩ := h.disk
  obtain ⟨S8, hd8⟩ := h2.disk
  exact sameD_z hd9 hd8 hz
/-- Files of the reference's, looked at. -/
def FFl (F : List Fl) (v : Value) (u : World) : Prop := ∃ R, Wnt u v R ∧ Tie F R ∧ R.map RFl.name = snames F
theorem Mono.ffl (F : List Fl) : Mono (FFl F) := fun _ _ _ ⟨R, h1, h2, h3⟩ hu => ⟨R, h1.ext hu, h2, h3⟩
theorem files_rd {w : World} {B r room : Nat} {F : List Fl} {G : List RFl} (h : RD w B r room G) (ht0 : Tie F G) : Calls Try.prog 16 #[.pointer (some ⟨r, 0, none⟩)] w fun e w' => ∃ v, e = .returned v ∧ FFl F v w' ∧ Ext w w' := by
  refine (filesRef_any h).mono ?_
  rintro e w' ⟨v, R, h1, h2, rfl, h3, h4⟩
  have ht := ht0.turn h1.symm
  exact ⟨v, rfl, ⟨R, Wnt.of_row h3 (fun f hf => (h.sz f (h1.mem_iff.1 hf)).2), ht, snames_eq ht h2⟩, h4⟩
theorem KeptsI.ext2 {w w' : World} {A : Option Addr} {ks : List (ByteArray × Int)} (h : KeptsI w A ks) (hx : Ext w w') : KeptsI w' A ks := by
  refine ⟨?_, h.sz, h.wf, h.len⟩
  rcases h.ex with h1 | ⟨b, o, e, hb, hc⟩
  · exact .inl h1
  · exact .inr ⟨b, o, e, Nat.lt_of_lt_of_le hb hx.size, fun i s z hi => ⟨ext_cell hx (hc i s z hi).1, ext_cell hx (hc i s z hi).2⟩⟩
theorem StpIn.ext2 {w w' : World} {x : Stp} (h : StpIn w x) (hx : Ext w w') : StpIn w' x := ⟨h.a, h.b, (h.dat.below hx (Nat.le_refl _)).wide (Nat.le_refl _) hx.size, h.keep.ext2 hx⟩
theorem StpsI.ext2 {w w' : World} {A : Option Addr} {X : List Stp} (h : StpsI w A X) (hx : Ext w w') : StpsI w' A X := by
  refine ⟨fun k hk => ?_, fun x hm => (h.each x hm).ext2 hx⟩
  obtain ⟨b, o, h1, h2, h3⟩ := h.at_ k hk
  exact ⟨b, o, h1, Nat.lt_of_lt_of_le h2 hx.size, fun j q hq => ext_cell hx (h3 j q hq)⟩
/-- A row of one step that is built. -/
theorem StpsI.one {w : World} {x : Stp} {t : TypeId} (h : StpIn w x) : StpsI (w.alloc (.cells #[.int .i64 x.kind, .string x.a, .string x.b, .slice x.dA x.dat.length x.dc, .slice x.kA x.keep.length x.kc] t)) (some ⟨w.heap.size, 0, none⟩) [x] := by
  refine ⟨fun k hk => ?_, fun y hy => ?_⟩
  · obtain rfl : k = 0 := by simp at hk; omega
    refine ⟨_, _, rfl, by simp, fun j q hq => ?_⟩
    have h1 : (w.alloc (.cells #[.int .i64 x.kind, .string x.a, .string x.b, .slice x.dA x.dat.length x.dc, .slice x.kA x.keep.length x.kc] t)).heap[w.heap.size]? = some (.cells #[.int .i64 x.kind, .string x.a, .string x.b, .slice x.dA x.dat.length x.dc, .slice x.kA x.keep.length x.kc] t (0, 0)) := heap_at _ _ rfl
    exact cell_of h1 (k := 0 + 0 * 5 + j) (by simpa [Stp.cells] using hq)
  · obtain rfl : y = x := by simpa using hy
    exact h.ext2 (ext_alloc _ _)

set_option maxRecDepth 100000 in
set_option maxHeartbeats 32000000 in
theorem dtwins_walk (w : World) (a0 : Int) (h0 : (Lit.int .i64 a0).wf = true) (a1 : Int) (h1 : (Lit.int .i64 a1).wf = true) (A : Option Addr) (c : Nat) (X : List Stp) (hs : StpsI w A X) (A2 : Option Addr) (c2 : Nat) (Y : List Stp) (hs2 : StpsI w A2 Y) (x : Stp) (hx : StpIn w x) :
    Calls Try.prog 7 #[.agg #[.int .i64 a0, .int .i64 a1], .slice A X.length c, .slice A2 Y.length c2, x.val] w fun e w' => e = .returned (.bool true) ∧ Ext w w' := by
  have HB0 : Hid (-9223372036854775808 ≤ a0 ∧ a0 ≤ 9223372036854775807) := by simpa [Hid, Lit.wf, IntKind.min, IntKind.max, IntKind.signed, IntKind.bits] using h0
  have HB1 : Hid (-9223372036854775808 ≤ a1 ∧ a1 ≤ 9223372036854775807) := by simpa [Hid, Lit.wf, IntKind.min, IntKind.max, IntKind.signed, IntKind.bits] using h1
  have HSI := Lib.hid hs
  have HSJ := Lib.hid hs2
  have HXI := Lib.hid hx
  have HMU := Lib.hid (fun u (hu : Ext w u) => dmuch_any (c := c) (hs.ext2 hu) 30 (by decide))
  have HMV := Lib.hid (fun u (hu : Ext w u) => dmuch_any (c := c2) (hs2.ext2 hu) 30 (by decide))
  have HMX := Lib.hid (fun u (hu : Ext w u) => dmuch_any (c := 1) (StpsI.one (t := 38) (hx.ext2 hu)) 1 (by decide))
  simp only [List.length_singleton] at HMX
  obtain ⟨N, hN⟩ : ∃ N, N = X.length := ⟨_, rfl⟩
  have HN := Lib.hid hN
  obtain ⟨M, hM⟩ : ∃ M, M = Y.length := ⟨_, rfl⟩
  have HM := Lib.hid hM
  rw [← hN] at HMU
  rw [← hM] at HMV
  obtain ⟨C2, hC2⟩ : ∃ C, C = (#[.int .i64 a0, .int .i64 a1] : Array Value) := ⟨_, rfl⟩
  obtain ⟨C5, hC5⟩ : ∃ C, C = (#[.int .i64 x.kind, .string x.a, .string x.b, .slice x.dA x.dat.length x.dc, .slice x.kA x.keep.length x.kc] : Array Value) := ⟨_, rfl⟩
  rw [← hN, ← hM, show x.val = .agg C5 by rw [hC5]; rfl, ← hC2]
  obtain ⟨w1, hw1⟩ : ∃ w1, w1 = (w.alloc (.cells C2 68)).alloc (.cells C5 38) := ⟨_, rfl⟩
  have HW1 : Hid (Ext w w1) := by rw [hw1]; exact Ext.trans (ext_alloc _ _) (ext_alloc _ _)
  have hk2 : w1.heap[w.heap.size]? = some (.cells C2 68 (0, 0)) := by
    rw [hw1]
    exact ((ext_alloc (w.alloc (.cells C2 68)) (.cells C5 38)).block w.heap.size (by simp)).trans (heap_at _ _ rfl)
  have hk5 : w1.heap[w.heap.size + 1]? = some (.cells C5 38 (0, 0)) := by rw [hw1]; exact heap_at _ _ (by simp)
  have HR0 : Hid (∀ u, Ext w1 u → u.cell? ⟨w.heap.size, 0, none⟩ = some (.int .i64 a0)) := fun u hu => ext_cell hu (cell_of hk2 (k := 0) (by rw [hC2]; rfl))
  have HR1 : Hid (∀ u, Ext w1 u → u.cell? ⟨w.heap.size, 1, none⟩ = some (.int .i64 a1)) := fun u hu => ext_cell hu (cell_of hk2 (k := 1) (by rw [hC2]; rfl))
  have HX0C : Hid (∀ u, Ext w1 u → u.cell? ⟨w.heap.size + 1, 0, none⟩ = some (.int .i64 x.kind)) := fun u hu => ext_cell hu (cell_of hk5 (k := 0) (by rw [hC5]; rfl))
  have HX1C : Hid (∀ u, Ext w1 u → u.cell? ⟨w.heap.size + 1, 1, none⟩ = some (.string x.a)) := fun u hu => ext_cell hu (cell_of hk5 (k := 1) (by rw [hC5]; rfl))
  have HX2C : Hid (∀ u, Ext w1 u → u.cell? ⟨w.heap.size + 1, 2, none⟩ = some (.string x.b)) := fun u hu => ext_cell hu (cell_of hk5 (k := 2) (by rw [hC5]; rfl))
  have HX3C : Hid (∀ u, Ext w1 u → u.cell? ⟨w.heap.size + 1, 3, none⟩ = some (.slice x.dA x.dat.length x.dc)) := fun u hu => ext_cell hu (cell_of hk5 (k := 3) (by rw [hC5]; rfl))
  have HX4C : Hid (∀ u, Ext w1 u → u.cell? ⟨w.heap.size + 1, 4, none⟩ = some (.slice x.kA x.keep.length x.kc)) := fun u hu => ext_cell hu (cell_of hk5 (k := 4) (by rw [hC5]; rfl))
  clear h0 h1 hs hs2 hx hN hM hk2 hk5 hC2 hC5
  go_enter Try.func7, Try.ntmps7
  go_upto_region 1 with (fail)
  rw [← hw1]
  clear hw1
  go_wp2_with fail
  refine (HMU.out w1 HW1.out).mono ?_
  rintro e w2 ⟨z, hz, rfl, hx2⟩
  have HZ := Lib.hid hz
  have HY2 : Hid (Ext w1 w2) := hx2
  have HX2 : Hid (Ext w w2) := Ext.trans HW1.out hx2
  clear hz hx2 HMU
  cases z with
  | true =>
    go_wp2_with fail
    refine (known_any w2).mono ?_
    rintro e wk ⟨rfl, hbk⟩
    have HE : Hid (Ext w wk) := Ext.trans HX2.out hbk
    clear hbk
    go_wp2_with fail
    go_ret
    exact ⟨rfl, HE.out⟩
  | false =>
  go_wp2_with fail
  refine (HMV.out w2 HX2.out).mono ?_
  rintro e w3 ⟨z, hz, rfl, hx3⟩
  have HZV := Lib.hid hz
  have HY3 : Hid (Ext w1 w3) := Ext.trans HY2.out hx3
  have HX3 : Hid (Ext w w3) := Ext.trans HX2.out hx3
  clear hz hx3 HMV
  have q0 := HX0C.out w3 HY3.out
  have q1 := HX1C.out w3 HY3.out
  have q2 := HX2C.out w3 HY3.out
  have q3 := HX3C.out w3 HY3.out
  have q4 := HX4C.out w3 HY3.out
  cases z with
  | true =>
    clear q0 q1 q2 q3 q4
    go_wp2_with fail
    refine (known_any w3).mono ?_
    rintro e wk ⟨rfl, hbk⟩
    have HE : Hid (Ext w wk) := Ext.trans HX3.out hbk
    clear hbk
    go_wp2_with fail
    go_ret
    exact ⟨rfl, HE.out⟩
  | false =>
  have HMW := Lib.hid (HMX.out w3 HX3.out)
  have HYA : Hid (Ext w3 (w3.alloc (.cells #[.int .i64 x.kind, .string x.a, .string x.b, .slice x.dA x.dat.length x.dc, .slice x.kA x.keep.length x.kc] 38))) := ext_alloc _ _
  clear HMX
  go_wp2_with fail
  refine HMW.out.mono ?_
  rintro e wv ⟨z, hz, rfl, hxv⟩
  have HZX := Lib.hid hz
  have HYV : Hid (Ext w1 wv) := Ext.trans HY3.out (Ext.trans HYA.out hxv)
  have HXV : Hid (Ext w wv) := Ext.trans HW1.out HYV.out
  clear hz hxv HMW HYA q0 q1 q2 q3 q4
  cases z with
  | true =>
    go_wp2_with fail
    refine (known_any wv).mono ?_
    rintro e wk ⟨rfl, hbk⟩
    have HE : Hid (Ext w wk) := Ext.trans HXV.out hbk
    clear hbk
    go_wp2_with fail
    go_ret
    exact ⟨rfl, HE.out⟩
  | false =>
    have hnm := HZ.out rfl
    have HDL : Hid (∀ x ∈ X, x.dat.length ≤ 300000) := fun x hx => (hnm.2 x hx).1
    have HST : Hid (Stps wv A X) := (HSI.out.stps fun x hx => (hnm.2 x hx).2).ext HXV.out
    have HNL : Hid (X.length ≤ 1000) := Nat.le_trans hnm.1 (by decide)
    have hnv := HZV.out rfl
    have HDL2 : Hid (∀ x ∈ Y, x.dat.length ≤ 300000) := fun x hx => (hnv.2 x hx).1
    have HST2 : Hid (Stps wv A2 Y) := (HSJ.out.stps fun x hx => (hnv.2 x hx).2).ext HXV.out
    have HNL2 : Hid (Y.length ≤ 1000) := Nat.le_trans hnv.1 (by decide)
    have hnx := HZX.out rfl
    have HXO : Hid (StpOk wv x ∧ x.dat.length ≤ 300000) := ⟨(HXI.out.ok (hnx.2 x (by simp)).2).ext HXV.out, (hnx.2 x (by simp)).1⟩
    clear hnm hnv hnx HZ HZV HZX
    have r0 := HR0.out wv HYV.out
    have r1 := HR1.out wv HYV.out
    by_cases hbad : a0 < 1024 ∨ 1048576 < a0
    · have HMB := Lib.hid (made_bad (A := A) (N := N) (c := c) HB0.out.1 HB0.out.2 hbad wv)
      have HRN := Lib.hid (fun u => newRef_no a0 u HB0.out hbad)
      clear hbad
      go_wp2_with fail
      refine HMB.out.mono ?_
      rintro e w4 ⟨rfl, hx4⟩
      have HY4 : Hid (Ext wv w4) := hx4
      have s1 := HR1.out w4 (Ext.trans HYV.out hx4)
      clear hx4 HMB r0 r1
      by_cases hbad2 : a1 < 1024 ∨ 1048576 < a1
      · have HMB2 := Lib.hid (made_bad (A := A2) (N := M) (c := c2) HB1.out.1 HB1.out.2 hbad2 w4)
        clear hbad2
        go_wp2_with fail
        refine HMB2.out.mono ?_
        rintro e wc ⟨rfl, hx5⟩
        have HYC : Hid (Ext wv wc) := Ext.trans HY4.out hx5
        clear hx5 HMB2 s1
        have HP1 := Lib.hid (fun u (_ : Ext wc u) => same_nil (w := u) (v := .pointer none) (.inl rfl))
        have HP2 := Lib.hid (fun u (_ : Ext wc u) => sameRef_nil u)
        have hb1 : (true != true) = false := rfl
        have hb2 : (false != false) = false := rfl
        go_wp2_with fail
        refine (HP1.out wc (Ext.refl _)).mono ?_
        rintro e u9 ⟨rfl, hw⟩
        subst hw
        go_wp2_with fail
        refine (HP2.out wc (Ext.refl _)).mono ?_
        rintro e y1 ⟨rfl, hx9⟩
        have HG1 : Hid (Ext wc y1) := Ext.trans (Ext.refl wc) hx9
        clear hx9
        go_wp2_with fail
        refine (HP1.out y1 HG1.out).mono ?_
        rintro e u9 ⟨rfl, hw⟩
        subst hw
        go_wp2_with fail
        refine (HP2.out y1 HG1.out).mono ?_
        rintro e y2 ⟨rfl, hx9⟩
        have HG2 : Hid (Ext wc y2) := Ext.trans HG1.out hx9
        clear hx9
        go_wp2_with fail
        refine (HP1.out y2 HG2.out).mono ?_
        rintro e u9 ⟨rfl, hw⟩
        subst hw
        have p0 := HR0.out y2 (Ext.trans HYV.out (Ext.trans HYC.out HG2.out))
        go_wp2_with fail
        refine (HRN.out _).mono ?_
        rintro e u9 ⟨rfl, hw⟩
        subst hw
        go_wp2_with fail
        refine (known_any y2).mono ?_
        rintro e wk ⟨rfl, hbk⟩
        have HE : Hid (Ext w wk) := Ext.trans (Ext.trans HXV.out (Ext.trans HYC.out HG2.out)) hbk
        clear hbk
        go_wp2_with fail
        go_ret
        exact ⟨rfl, HE.out⟩
      · obtain ⟨room2, rfl⟩ : ∃ r : Nat, a1 = (r : Int) := ⟨a1.toNat, by omega⟩
        have h1 : 1024 ≤ room2 := by omega
        have h2 : room2 ≤ 1048576 := by omega
        have HMD := Lib.hid (made_yes (c := c2) (HST2.out.ext HY4.out) HNL2.out HDL2.out h1 h2)
        rw [← HM.out] at HMD
        clear hbad2 h1 h2
        go_wp2_with fail
        refine HMD.out.mono ?_
        rintro e wc ⟨o, v, F2, G2, rfl, hbo⟩
        have HB2 := Lib.hid hbo
        have HYC : Hid (Ext wv wc) := Ext.trans HY4.out hbo.base
        clear hbo HMD s1
        have HP1 := Lib.hid (fun u (hu : Ext wc u) => bo_nod (HB2.out.ext hu))
        have HP2 := Lib.hid (fun u (_ : Ext wc u) => sameRef_nol u ⟨v, 0, none⟩)
        have HP3 := Lib.hid (fun u (hu : Ext wc u) => bo_not (HB2.out.ext hu))
        have HP5 := Lib.hid (fun u (_ : Ext wc u) => same_nil (w := u) (v := .pointer none) (.inl rfl))
        have hb1 : (true != true) = false := rfl
        have hb2 : (false != false) = false := rfl
        go_wp2_with fail
        refine (HP1.out wc (Ext.refl _)).mono ?_
        rintro e u9 ⟨rfl, hw⟩
        subst hw
        go_wp2_with fail
        refine (HP2.out wc (Ext.refl _)).mono ?_
        rintro e y1 ⟨rfl, hx9⟩
        have HG1 : Hid (Ext wc y1) := Ext.trans (Ext.refl wc) hx9
        clear hx9
        go_wp2_with fail
        refine (HP3.out y1 HG1.out).mono ?_
        rintro e u9 ⟨rfl, hw⟩
        subst hw
        go_wp2_with fail
        refine (HP2.out y1 HG1.out).mono ?_
        rintro e y2 ⟨rfl, hx9⟩
        have HG2 : Hid (Ext wc y2) := Ext.trans HG1.out hx9
        clear hx9
        go_wp2_with fail
        refine (HP5.out y2 HG2.out).mono ?_
        rintro e u9 ⟨rfl, hw⟩
        subst hw
        have p0 := HR0.out y2 (Ext.trans HYV.out (Ext.trans HYC.out HG2.out))
        go_wp2_with fail
        refine (HRN.out _).mono ?_
        rintro e u9 ⟨rfl, hw⟩
        subst hw
        go_wp2_with fail
        refine (known_any y2).mono ?_
        rintro e wk ⟨rfl, hbk⟩
        have HE : Hid (Ext w wk) := Ext.trans (Ext.trans HXV.out (Ext.trans HYC.out HG2.out)) hbk
        clear hbk
        go_wp2_with fail
        go_ret
        exact ⟨rfl, HE.out⟩
    · obtain ⟨room, rfl⟩ : ∃ r : Nat, a0 = (r : Int) := ⟨a0.toNat, by omega⟩
      have h1 : 1024 ≤ room := by omega
      have h2 : room ≤ 1048576 := by omega
      have HMD1 := Lib.hid (made_yes (c := c) HST.out HNL.out HDL.out h1 h2)
      rw [← HN.out] at HMD1
      clear hbad h1 h2
      go_wp2_with fail
      refine HMD1.out.mono ?_
      rintro e w4 ⟨d, r, F, G, rfl, hbo⟩
      have HB1' := Lib.hid hbo
      have HY4 : Hid (Ext wv w4) := hbo.base
      have s1 := HR1.out w4 (Ext.trans HYV.out hbo.base)
      clear hbo HMD1 r0 r1
      by_cases hbad2 : a1 < 1024 ∨ 1048576 < a1
      · have HMB2 := Lib.hid (made_bad (A := A2) (N := M) (c := c2) HB1.out.1 HB1.out.2 hbad2 w4)
        have HRN := Lib.hid (fun u => newRef_no a1 u HB1.out hbad2)
        clear hbad2
        go_wp2_with fail
        refine HMB2.out.mono ?_
        rintro e wc ⟨rfl, hx5⟩
        have HBC := Lib.hid (HB1'.out.ext hx5)
        clear hx5 HMB2 s1
        have HP1 := Lib.hid (fun u (hu : Ext wc u) => bo_not (HBC.out.ext hu))
        have HP2 := Lib.hid (fun u (_ : Ext wc u) => sameRef_nor u ⟨r, 0, none⟩)
        have HP3 := Lib.hid (fun u (hu : Ext wc u) => bo_nod (HBC.out.ext hu))
        have HP5 := Lib.hid (fun u (hu : Ext wc u) => bo_two (HBC.out.ext hu) (HBC.out.ext hu) (SameZ.self room F))
        have hb1 : (true != true) = false := rfl
        have hb2 : (false != false) = false := rfl
        go_wp2_with fail
        refine (HP1.out wc (Ext.refl _)).mono ?_
        rintro e u9 ⟨rfl, hw⟩
        subst hw
        go_wp2_with fail
        refine (HP2.out wc (Ext.refl _)).mono ?_
        rintro e y1 ⟨rfl, hx9⟩
        have HG1 : Hid (Ext wc y1) := Ext.trans (Ext.refl wc) hx9
        clear hx9
        go_wp2_with fail
        refine (HP3.out y1 HG1.out).mono ?_
        rintro e u9 ⟨rfl, hw⟩
        subst hw
        go_wp2_with fail
        refine (HP2.out y1 HG1.out).mono ?_
        rintro e y2 ⟨rfl, hx9⟩
        have HG2 : Hid (Ext wc y2) := Ext.trans HG1.out hx9
        clear hx9
        go_wp2_with fail
        refine (HP5.out y2 HG2.out).mono ?_
        rintro e y3 ⟨rfl, hx9⟩
        have HG3 : Hid (Ext wc y3) := Ext.trans HG2.out hx9
        clear hx9
        have HB := Lib.hid (HBC.out.ext HG3.out)
        have p1 := HR1.out y3 (Ext.trans HYV.out HB.out.base)
        go_wp2_with fail
        refine (HRN.out _).mono ?_
        rintro e u9 ⟨rfl, hw⟩
        subst hw
        clear p1 HBC HB1'
        have HTG := Lib.hid HB.out.tie
        go_wp2_with fail
        refine (copy_live HB.out.live).mono ?_
        rintro e x1 ⟨d1, rfl, hl1⟩
        have HRC := Lib.hid (copy_ref hl1 hl1.here.2.1.size)
        have HRL := Lib.hid hl1.here.1.lt
        clear hl1
        go_wp2_with fail
        refine HRC.out.mono ?_
        rintro e x2 ⟨r1, rfl, hge, hl2⟩
        have HNE : Hid (r1 ≠ r) := by have := HRL.out; unfold Hid; omega
        have HBT : Hid (Bo wv d1 r1 room F G [(d, room, F)] (fun u => RD u wv.heap.size r room G) x2) := ⟨hl2.imp fun u hu => ⟨hu.1, hu.2.2.1, hu.2.1⟩, HTG.out⟩
        clear hge hl2 HRC HRL HB
        obtain ⟨ST, hdt⟩ := HBT.out.disk
        obtain ⟨SD, hdd⟩ := HBT.out.live.swap.disk
        have HSZ := Lib.hid (sameD_z hdt hdd (SameZ.self room F))
        clear hdt hdd
        go_wp2_with fail
        refine HSZ.out.mono ?_
        rintro e x3 ⟨rfl, hx9⟩
        have HB3 := Lib.hid (HBT.out.ext hx9)
        clear hx9 HSZ
        obtain ⟨F', hF'⟩ : ∃ F', F' = stepF room x F := ⟨_, rfl⟩
        have HDO := Lib.hid (do_at HB3.out (Stab.rd HNE.out) HXO.out.1 HXO.out.2)
        rw [← hF'] at HDO
        clear hF'
        have q0 := HX0C.out x3 (Ext.trans HYV.out HB3.out.base)
        have q1 := HX1C.out x3 (Ext.trans HYV.out HB3.out.base)
        have q2 := HX2C.out x3 (Ext.trans HYV.out HB3.out.base)
        have q3 := HX3C.out x3 (Ext.trans HYV.out HB3.out.base)
        have q4 := HX4C.out x3 (Ext.trans HYV.out HB3.out.base)
        go_wp2_with fail
        refine HDO.out.mono ?_
        rintro e wz ⟨dn, rn, Gn, rfl, hbo, _⟩
        have HBZ := Lib.hid hbo
        have HTN := Lib.hid hbo.tie
        obtain ⟨z2, hz2⟩ := ex_z room room F' F
        have HZ2 := Lib.hid hz2
        have HZR : Hid (∀ u, Ext wz u → u.cell? ⟨w.heap.size, 0, none⟩ = some (.int .i64 (room : Int))) := fun u hu => HR0.out u (Ext.trans HYV.out (HBZ.out.ext hu).base)
        clear hbo hz2 HDO q0 q1 q2 q3 q4
        go_upto_region 15 with (fail)
        refine flow (by kernel_rfl) [Is (.bool true), Is (.bool true), Is (.pointer (some ⟨dn, 0, none⟩)), Is (.bool true), Is (.bool true), Is (.bool true), Is (.pointer (some ⟨d, 0, none⟩)), Is (.pointer (some ⟨w.heap.size, 0, none⟩)), Is (.int .i64 (room : Int)), Is (.pointer (some ⟨r, 0, none⟩)), FFl F, Is (.bool true), Is (.bool true), Is (.bool true), Is (.pointer (some ⟨dn, 0, none⟩)), Is (.pointer (some ⟨w.heap.size, 0, none⟩)), Is (.int .i64 (room : Int)), Is (.pointer (some ⟨rn, 0, none⟩)), FFl F', Is (.bool true), Is (.bool true), Is (.bool true), Is (.pointer (some ⟨dn, 0, none⟩)), Is (.pointer (some ⟨d, 0, none⟩)), Is (.bool z2), Is (.pointer (some ⟨rn, 0, none⟩)), Is (.pointer (some ⟨r, 0, none⟩)), Is (.bool z2), Is (.bool true), Is (.bool true), Is (.bool true), Is (.bool true), Is (.bool true), Is (.bool true)] (by kernel_rfl) (by kernel_rfl) ?mono (fun f1 => ?obl) ?fin
        case mono =>
          simp only [List.forall_mem_cons, List.not_mem_nil, false_imp_iff, implies_true, and_true]
          exact ⟨.is _, .is _, .is _, .is _, .is _, .is _, .is _, .is _, .is _, .is _, .ffl _, .is _, .is _, .is _, .is _, .is _, .is _, .is _, .ffl _, .is _, .is _, .is _, .is _, .is _, .is _, .is _, .is _, .is _, .is _, .is _, .is _, .is _, .is _, .is _⟩
        case fin =>
          intro g1 u hu hg
          simp only [puts, Act.put, List.setIfInBounds_toArray, List.set_cons_zero, List.set_cons_succ]
          have hk : g1 33 = .bool true := hg 33 (by decide)
          rw [hk]
          have HU : Hid (Ext w u) := Ext.trans HXV.out (Ext.trans HBZ.out.base (Ext.trans (Ext.drew wz) hu))
          clear hk hg hu
          go_wp2_with fail
          go_ret
          exact ⟨rfl, HU.out⟩
        case obl =>
          refine ⟨fun u hu hd => ?_, ?_⟩
          · go_simp
            exact ⟨Ext.refl _, rfl⟩
          refine ⟨fun u hu hd => ?_, ?_⟩
          · simp only [Act.put, List.setIfInBounds_toArray, List.set_cons_zero, List.set_cons_succ]
            have e0 : f1 0 = .bool true := hd 0 (by kernel_rfl)
            go_simp
            exact ⟨Ext.refl _, rfl⟩
          refine ⟨fun u hu hd => ?_, ?_⟩
          · simp only [Act.put, List.setIfInBounds_toArray, List.set_cons_zero, List.set_cons_succ]
            have e1 : f1 1 = .bool true := hd 1 (by kernel_rfl)
            go_simp
            exact ⟨Ext.refl _, rfl⟩
          refine ⟨fun u hu hd => ?_, ?_⟩
          · simp only [Act.put, List.setIfInBounds_toArray, List.set_cons_zero, List.set_cons_succ]
            have e1 : f1 1 = .bool true := hd 1 (by kernel_rfl)
            have e2 : f1 2 = .pointer (some ⟨dn, 0, none⟩) := hd 2 (by kernel_rfl)
            clear hd
            go_simp
            exact ⟨Ext.refl _, rfl⟩
          refine ⟨fun u hu hd => ?_, ?_⟩
          · simp only [Act.put, List.setIfInBounds_toArray, List.set_cons_zero, List.set_cons_succ]
            have e1 : f1 1 = .bool true := hd 1 (by kernel_rfl)
            have e3 : f1 3 = .bool true := hd 3 (by kernel_rfl)
            go_simp
            exact ⟨Ext.refl _, rfl⟩
          refine ⟨fun u hu hd => ?_, ?_⟩
          · simp only [Act.put, List.setIfInBounds_toArray, List.set_cons_zero, List.set_cons_succ]
            have e4 : f1 4 = .bool true := hd 4 (by kernel_rfl)
            go_simp
            exact ⟨Ext.refl _, rfl⟩
          refine ⟨fun u hu hd => ?_, ?_⟩
          · simp only [Act.put, List.setIfInBounds_toArray, List.set_cons_zero, List.set_cons_succ]
            have e5 : f1 5 = .bool true := hd 5 (by kernel_rfl)
            go_simp
            exact ⟨Ext.refl _, rfl⟩
          refine ⟨fun u hu hd => ?_, ?_⟩
          · simp only [Act.put, List.setIfInBounds_toArray, List.set_cons_zero, List.set_cons_succ]
            have e5 : f1 5 = .bool true := hd 5 (by kernel_rfl)
            go_simp
            exact ⟨Ext.refl _, rfl⟩
          refine ⟨fun u hu hd => ?_, ?_⟩
          · simp only [Act.put, List.setIfInBounds_toArray, List.set_cons_zero, List.set_cons_succ]
            have e5 : f1 5 = .bool true := hd 5 (by kernel_rfl)
            have e7 : f1 7 = .pointer (some ⟨w.heap.size, 0, none⟩) := hd 7 (by kernel_rfl)
            have hu2 := Ext.trans (Ext.drew wz) hu
            have q0 := HZR.out u hu2
            go_simp
            exact ⟨Ext.refl _, rfl⟩
          refine ⟨fun u hu hd => ?_, ?_⟩
          · simp only [Act.put, List.setIfInBounds_toArray, List.set_cons_zero, List.set_cons_succ]
            have e5 : f1 5 = .bool true := hd 5 (by kernel_rfl)
            go_simp
            exact ⟨Ext.refl _, rfl⟩
          refine ⟨fun u hu hd => ?_, ?_⟩
          · simp only [Act.put, List.setIfInBounds_toArray, List.set_cons_zero, List.set_cons_succ]
            have e5 : f1 5 = .bool true := hd 5 (by kernel_rfl)
            have e9 : f1 9 = .pointer (some ⟨r, 0, none⟩) := hd 9 (by kernel_rfl)
            have hu2 := Ext.trans (Ext.drew wz) hu
            have HC := Lib.hid (files_rd (HBZ.out.ext hu2).p HTG.out)
            clear hd
            go_simp
            refine HC.out.mono ?_
            rintro e9 w9 ⟨v9, rfl, hf9, hx9⟩
            exact ⟨_, rfl, hx9, hf9⟩
          refine ⟨fun u hu hd => ?_, ?_⟩
          · simp only [Act.put, List.setIfInBounds_toArray, List.set_cons_zero, List.set_cons_succ]
            have e5 : f1 5 = .bool true := hd 5 (by kernel_rfl)
            have e6 : f1 6 = .pointer (some ⟨d, 0, none⟩) := hd 6 (by kernel_rfl)
            have e8 : f1 8 = .int .i64 (room : Int) := hd 8 (by kernel_rfl)
            obtain ⟨R9, hw9, ht9, hs9⟩ := (show FFl F (f1 10) u from hd 10 (by kernel_rfl))
            have hu2 := Ext.trans (Ext.drew wz) hu
            obtain ⟨S9, hd9⟩ := (HBZ.out.live.ext hu2).swap.disk
            have HC := Lib.hid (has_any hd9 ht9 hs9 hw9)
            clear hd hw9 ht9 hs9 hd9
            go_simp
            refine HC.out.mono ?_
            rintro e9 w9 ⟨rfl, hx9⟩
            exact ⟨_, rfl, hx9, rfl⟩
          refine ⟨fun u hu hd => ?_, ?_⟩
          · simp only [Act.put, List.setIfInBounds_toArray, List.set_cons_zero, List.set_cons_succ]
            have e5 : f1 5 = .bool true := hd 5 (by kernel_rfl)
            have e11 : f1 11 = .bool true := hd 11 (by kernel_rfl)
            go_simp
            exact ⟨Ext.refl _, rfl⟩
          refine ⟨fun u hu hd => ?_, ?_⟩
          · simp only [Act.put, List.setIfInBounds_toArray, List.set_cons_zero, List.set_cons_succ]
            have e12 : f1 12 = .bool true := hd 12 (by kernel_rfl)
            go_simp
            exact ⟨Ext.refl _, rfl⟩
          refine ⟨fun u hu hd => ?_, ?_⟩
          · simp only [Act.put, List.setIfInBounds_toArray, List.set_cons_zero, List.set_cons_succ]
            have e13 : f1 13 = .bool true := hd 13 (by kernel_rfl)
            go_simp
            exact ⟨Ext.refl _, rfl⟩
          refine ⟨fun u hu hd => ?_, ?_⟩
          · simp only [Act.put, List.setIfInBounds_toArray, List.set_cons_zero, List.set_cons_succ]
            have e13 : f1 13 = .bool true := hd 13 (by kernel_rfl)
            go_simp
            exact ⟨Ext.refl _, rfl⟩
          refine ⟨fun u hu hd => ?_, ?_⟩
          · simp only [Act.put, List.setIfInBounds_toArray, List.set_cons_zero, List.set_cons_succ]
            have e13 : f1 13 = .bool true := hd 13 (by kernel_rfl)
            have e15 : f1 15 = .pointer (some ⟨w.heap.size, 0, none⟩) := hd 15 (by kernel_rfl)
            have hu2 := Ext.trans (Ext.drew wz) hu
            have q0 := HZR.out u hu2
            go_simp
            exact ⟨Ext.refl _, rfl⟩
          refine ⟨fun u hu hd => ?_, ?_⟩
          · simp only [Act.put, List.setIfInBounds_toArray, List.set_cons_zero, List.set_cons_succ]
            have e13 : f1 13 = .bool true := hd 13 (by kernel_rfl)
            go_simp
            exact ⟨Ext.refl _, rfl⟩
          refine ⟨fun u hu hd => ?_, ?_⟩
          · simp only [Act.put, List.setIfInBounds_toArray, List.set_cons_zero, List.set_cons_succ]
            have e13 : f1 13 = .bool true := hd 13 (by kernel_rfl)
            have e17 : f1 17 = .pointer (some ⟨rn, 0, none⟩) := hd 17 (by kernel_rfl)
            have hu2 := Ext.trans (Ext.drew wz) hu
            have HC := Lib.hid (files_rd (HBZ.out.ext hu2).rd HTN.out)
            clear hd
            go_simp
            refine HC.out.mono ?_
            rintro e9 w9 ⟨v9, rfl, hf9, hx9⟩
            exact ⟨_, rfl, hx9, hf9⟩
          refine ⟨fun u hu hd => ?_, ?_⟩
          · simp only [Act.put, List.setIfInBounds_toArray, List.set_cons_zero, List.set_cons_succ]
            have e13 : f1 13 = .bool true := hd 13 (by kernel_rfl)
            have e14 : f1 14 = .pointer (some ⟨dn, 0, none⟩) := hd 14 (by kernel_rfl)
            have e16 : f1 16 = .int .i64 (room : Int) := hd 16 (by kernel_rfl)
            obtain ⟨R9, hw9, ht9, hs9⟩ := (show FFl F' (f1 18) u from hd 18 (by kernel_rfl))
            have hu2 := Ext.trans (Ext.drew wz) hu
            obtain ⟨S9, hd9⟩ := (HBZ.out.ext hu2).disk
            have HC := Lib.hid (has_any hd9 ht9 hs9 hw9)
            clear hd hw9 ht9 hs9 hd9
            go_simp
            refine HC.out.mono ?_
            rintro e9 w9 ⟨rfl, hx9⟩
            exact ⟨_, rfl, hx9, rfl⟩
          refine ⟨fun u hu hd => ?_, ?_⟩
          · simp only [Act.put, List.setIfInBounds_toArray, List.set_cons_zero, List.set_cons_succ]
            have e13 : f1 13 = .bool true := hd 13 (by kernel_rfl)
            have e19 : f1 19 = .bool true := hd 19 (by kernel_rfl)
            go_simp
            exact ⟨Ext.refl _, rfl⟩
          refine ⟨fun u hu hd => ?_, ?_⟩
          · simp only [Act.put, List.setIfInBounds_toArray, List.set_cons_zero, List.set_cons_succ]
            have e20 : f1 20 = .bool true := hd 20 (by kernel_rfl)
            go_simp
            exact ⟨Ext.refl _, rfl⟩
          refine ⟨fun u hu hd => ?_, ?_⟩
          · simp only [Act.put, List.setIfInBounds_toArray, List.set_cons_zero, List.set_cons_succ]
            have e21 : f1 21 = .bool true := hd 21 (by kernel_rfl)
            go_simp
            exact ⟨Ext.refl _, rfl⟩
          refine ⟨fun u hu hd => ?_, ?_⟩
          · simp only [Act.put, List.setIfInBounds_toArray, List.set_cons_zero, List.set_cons_succ]
            have e21 : f1 21 = .bool true := hd 21 (by kernel_rfl)
            go_simp
            exact ⟨Ext.refl _, rfl⟩
          refine ⟨fun u hu hd => ?_, ?_⟩
          · simp only [Act.put, List.setIfInBounds_toArray, List.set_cons_zero, List.set_cons_succ]
            have e21 : f1 21 = .bool true := hd 21 (by kernel_rfl)
            have e22 : f1 22 = .pointer (some ⟨dn, 0, none⟩) := hd 22 (by kernel_rfl)
            have e23 : f1 23 = .pointer (some ⟨d, 0, none⟩) := hd 23 (by kernel_rfl)
            have hu2 := Ext.trans (Ext.drew wz) hu
            obtain ⟨S9, hd9⟩ := (HBZ.out.ext hu2).disk
            obtain ⟨S8, hd8⟩ := (HBZ.out.live.ext hu2).swap.disk
            have HC := Lib.hid (sameD_z hd9 hd8 HZ2.out)
            clear hd hd9 hd8
            go_simp
            refine HC.out.mono ?_
            rintro e9 w9 ⟨rfl, hx9⟩
            exact ⟨_, rfl, hx9, rfl⟩
          refine ⟨fun u hu hd => ?_, ?_⟩
          · simp only [Act.put, List.setIfInBounds_toArray, List.set_cons_zero, List.set_cons_succ]
            have e21 : f1 21 = .bool true := hd 21 (by kernel_rfl)
            go_simp
            exact ⟨Ext.refl _, rfl⟩
          refine ⟨fun u hu hd => ?_, ?_⟩
          · simp only [Act.put, List.setIfInBounds_toArray, List.set_cons_zero, List.set_cons_succ]
            have e21 : f1 21 = .bool true := hd 21 (by kernel_rfl)
            go_simp
            exact ⟨Ext.refl _, rfl⟩
          refine ⟨fun u hu hd => ?_, ?_⟩
          · simp only [Act.put, List.setIfInBounds_toArray, List.set_cons_zero, List.set_cons_succ]
            have e21 : f1 21 = .bool true := hd 21 (by kernel_rfl)
            have e25 : f1 25 = .pointer (some ⟨rn, 0, none⟩) := hd 25 (by kernel_rfl)
            have e26 : f1 26 = .pointer (some ⟨r, 0, none⟩) := hd 26 (by kernel_rfl)
            have hu2 := Ext.trans (Ext.drew wz) hu
            have HC := Lib.hid (sameR_z (HBZ.out.ext hu2).rd (HBZ.out.ext hu2).p HTN.out HTG.out HZ2.out)
            clear hd
            go_simp
            refine HC.out.mono ?_
            rintro e9 w9 ⟨rfl, hx9⟩
            exact ⟨_, rfl, hx9, rfl⟩
          refine ⟨fun u hu hd => ?_, ?_⟩
          · simp only [Act.put, List.setIfInBounds_toArray, List.set_cons_zero, List.set_cons_succ]
            have e21 : f1 21 = .bool true := hd 21 (by kernel_rfl)
            have e24 : f1 24 = .bool z2 := hd 24 (by kernel_rfl)
            have e27 : f1 27 = .bool z2 := hd 27 (by kernel_rfl)
            have t : (z2 == z2) = true := by simp
            clear hd
            go_simp
            exact ⟨Ext.refl _, rfl⟩
          refine ⟨fun u hu hd => ?_, ?_⟩
          · simp only [Act.put, List.setIfInBounds_toArray, List.set_cons_zero, List.set_cons_succ]
            have e21 : f1 21 = .bool true := hd 21 (by kernel_rfl)
            have e28 : f1 28 = .bool true := hd 28 (by kernel_rfl)
            go_simp
            exact ⟨Ext.refl _, rfl⟩
          refine ⟨fun u hu hd => ?_, ?_⟩
          · simp only [Act.put, List.setIfInBounds_toArray, List.set_cons_zero, List.set_cons_succ]
            have e29 : f1 29 = .bool true := hd 29 (by kernel_rfl)
            go_simp
            exact ⟨Ext.refl _, rfl⟩
          refine ⟨fun u hu hd => ?_, ?_⟩
          · simp only [Act.put, List.setIfInBounds_toArray, List.set_cons_zero, List.set_cons_succ]
            have e30 : f1 30 = .bool true := hd 30 (by kernel_rfl)
            clear hd
            go_simp
            refine (known_any _).mono ?_
            rintro e9 w9 ⟨rfl, hx9⟩
            exact ⟨_, rfl, hx9, rfl⟩
          refine ⟨fun u hu hd => ?_, ?_⟩
          · simp only [Act.put, List.setIfInBounds_toArray, List.set_cons_zero, List.set_cons_succ]
            have e30 : f1 30 = .bool true := hd 30 (by kernel_rfl)
            have e31 : f1 31 = .bool true := hd 31 (by kernel_rfl)
            go_simp
            exact ⟨Ext.refl _, rfl⟩
          refine ⟨fun u hu hd => ?_, ?_⟩
          · simp only [Act.put, List.setIfInBounds_toArray, List.set_cons_zero, List.set_cons_succ]
            have e32 : f1 32 = .bool true := hd 32 (by kernel_rfl)
            go_simp
            exact ⟨Ext.refl _, rfl⟩
          trivial
      · obtain ⟨room2, rfl⟩ : ∃ r : Nat, a1 = (r : Int) := ⟨a1.toNat, by omega⟩
        have h1 : 1024 ≤ room2 := by omega
        have h2 : room2 ≤ 1048576 := by omega
        have HMD := Lib.hid (made_yes (c := c2) (HST2.out.ext HY4.out) HNL2.out HDL2.out h1 h2)
        rw [← HM.out] at HMD
        clear hbad2 h1 h2
        go_wp2_with fail
        refine HMD.out.mono ?_
        rintro e wc ⟨o, v, F2, G2, rfl, hbo⟩
        have HB2 := Lib.hid hbo
        have HBC := Lib.hid (HB1'.out.ext hbo.base)
        clear hbo HMD s1
        obtain ⟨z, hz⟩ := ex_z room room2 F F2
        have HZ := Lib.hid hz
        have hzz : (z != z) = false := by simp
        have HP1 := Lib.hid (fun u (hu : Ext wc u) => bo_two (HBC.out.ext hu) (HB2.out.ext hu) HZ.out)
        have HP2 := Lib.hid (fun u (hu : Ext wc u) => sameR_z (HBC.out.ext hu).rd (HB2.out.ext hu).rd HBC.out.tie HB2.out.tie HZ.out)
        have HP3 := Lib.hid (fun u (hu : Ext wc u) => bo_two (HB2.out.ext hu) (HBC.out.ext hu) HZ.out.flip)
        have HP5 := Lib.hid (fun u (hu : Ext wc u) => bo_two (HBC.out.ext hu) (HBC.out.ext hu) (SameZ.self room F))
        clear hz
        go_wp2_with fail
        refine (HP1.out wc (Ext.refl _)).mono ?_
        rintro e y1 ⟨rfl, hx9⟩
        have HG1 : Hid (Ext wc y1) := Ext.trans (Ext.refl wc) hx9
        clear hx9
        go_wp2_with fail
        refine (HP2.out y1 HG1.out).mono ?_
        rintro e y2 ⟨rfl, hx9⟩
        have HG2 : Hid (Ext wc y2) := Ext.trans HG1.out hx9
        clear hx9
        go_wp2_with fail
        refine (HP3.out y2 HG2.out).mono ?_
        rintro e y3 ⟨rfl, hx9⟩
        have HG3 : Hid (Ext wc y3) := Ext.trans HG2.out hx9
        clear hx9
        go_wp2_with fail
        refine (HP2.out y3 HG3.out).mono ?_
        rintro e y4 ⟨rfl, hx9⟩
        have HG4 : Hid (Ext wc y4) := Ext.trans HG3.out hx9
        clear hx9
        go_wp2_with fail
        refine (HP5.out y4 HG4.out).mono ?_
        rintro e y5 ⟨rfl, hx9⟩
        have HG5 : Hid (Ext wc y5) := Ext.trans HG4.out hx9
        clear hx9
        have HB := Lib.hid (HBC.out.ext HG5.out)
        clear HBC HB1' hzz
        have HTG := Lib.hid HB.out.tie
        go_wp2_with fail
        refine (copy_live HB.out.live).mono ?_
        rintro e x1 ⟨d1, rfl, hl1⟩
        have HRC := Lib.hid (copy_ref hl1 hl1.here.2.1.size)
        have HRL := Lib.hid hl1.here.1.lt
        clear hl1
        go_wp2_with fail
        refine HRC.out.mono ?_
        rintro e x2 ⟨r1, rfl, hge, hl2⟩
        have HNE : Hid (r1 ≠ r) := by have := HRL.out; unfold Hid; omega
        have HBT : Hid (Bo wv d1 r1 room F G [(d, room, F)] (fun u => RD u wv.heap.size r room G) x2) := ⟨hl2.imp fun u hu => ⟨hu.1, hu.2.2.1, hu.2.1⟩, HTG.out⟩
        clear hge hl2 HRC HRL HB
        obtain ⟨ST, hdt⟩ := HBT.out.disk
        obtain ⟨SD, hdd⟩ := HBT.out.live.swap.disk
        have HSZ := Lib.hid (sameD_z hdt hdd (SameZ.self room F))
        clear hdt hdd
        go_wp2_with fail
        refine HSZ.out.mono ?_
        rintro e x3 ⟨rfl, hx9⟩
        have HB3 := Lib.hid (HBT.out.ext hx9)
        clear hx9 HSZ
        obtain ⟨F', hF'⟩ : ∃ F', F' = stepF room x F := ⟨_, rfl⟩
        have HDO := Lib.hid (do_at HB3.out (Stab.rd HNE.out) HXO.out.1 HXO.out.2)
        rw [← hF'] at HDO
        clear hF'
        have q0 := HX0C.out x3 (Ext.trans HYV.out HB3.out.base)
        have q1 := HX1C.out x3 (Ext.trans HYV.out HB3.out.base)
        have q2 := HX2C.out x3 (Ext.trans HYV.out HB3.out.base)
        have q3 := HX3C.out x3 (Ext.trans HYV.out HB3.out.base)
        have q4 := HX4C.out x3 (Ext.trans HYV.out HB3.out.base)
        go_wp2_with fail
        refine HDO.out.mono ?_
        rintro e wz ⟨dn, rn, Gn, rfl, hbo, _⟩
        have HBZ := Lib.hid hbo
        have HTN := Lib.hid hbo.tie
        obtain ⟨z2, hz2⟩ := ex_z room room F' F
        have HZ2 := Lib.hid hz2
        have HZR : Hid (∀ u, Ext wz u → u.cell? ⟨w.heap.size, 0, none⟩ = some (.int .i64 (room : Int))) := fun u hu => HR0.out u (Ext.trans HYV.out (HBZ.out.ext hu).base)
        clear hbo hz2 HDO q0 q1 q2 q3 q4
        go_upto_region 15 with (fail)
        refine flow (by kernel_rfl) [Is (.bool true), Is (.bool true), Is (.pointer (some ⟨dn, 0, none⟩)), Is (.bool true), Is (.bool true), Is (.bool true), Is (.pointer (some ⟨d, 0, none⟩)), Is (.pointer (some ⟨w.heap.size, 0, none⟩)), Is (.int .i64 (room : Int)), Is (.pointer (some ⟨r, 0, none⟩)), FFl F, Is (.bool true), Is (.bool true), Is (.bool true), Is (.pointer (some ⟨dn, 0, none⟩)), Is (.pointer (some ⟨w.heap.size, 0, none⟩)), Is (.int .i64 (room : Int)), Is (.pointer (some ⟨rn, 0, none⟩)), FFl F', Is (.bool true), Is (.bool true), Is (.bool true), Is (.pointer (some ⟨dn, 0, none⟩)), Is (.pointer (some ⟨d, 0, none⟩)), Is (.bool z2), Is (.pointer (some ⟨rn, 0, none⟩)), Is (.pointer (some ⟨r, 0, none⟩)), Is (.bool z2), Is (.bool true), Is (.bool true), Is (.bool true), Is (.bool true), Is (.bool true), Is (.bool true)] (by kernel_rfl) (by kernel_rfl) ?mono (fun f1 => ?obl) ?fin
        case mono =>
          simp only [List.forall_mem_cons, List.not_mem_nil, false_imp_iff, implies_true, and_true]
          exact ⟨.is _, .is _, .is _, .is _, .is _, .is _, .is _, .is _, .is _, .is _, .ffl _, .is _, .is _, .is _, .is _, .is _, .is _, .is _, .ffl _, .is _, .is _, .is _, .is _, .is _, .is _, .is _, .is _, .is _, .is _, .is _, .is _, .is _, .is _, .is _⟩
        case fin =>
          intro g1 u hu hg
          simp only [puts, Act.put, List.setIfInBounds_toArray, List.set_cons_zero, List.set_cons_succ]
          have hk : g1 33 = .bool true := hg 33 (by decide)
          rw [hk]
          have HU : Hid (Ext w u) := Ext.trans HXV.out (Ext.trans HBZ.out.base (Ext.trans (Ext.drew wz) hu))
          clear hk hg hu
          go_wp2_with fail
          go_ret
          exact ⟨rfl, HU.out⟩
        case obl =>
          refine ⟨fun u hu hd => ?_, ?_⟩
          · go_simp
            exact ⟨Ext.refl _, rfl⟩
          refine ⟨fun u hu hd => ?_, ?_⟩
          · simp only [Act.put, List.setIfInBounds_toArray, List.set_cons_zero, List.set_cons_succ]
            have e0 : f1 0 = .bool true := hd 0 (by kernel_rfl)
            go_simp
            exact ⟨Ext.refl _, rfl⟩
          refine ⟨fun u hu hd => ?_, ?_⟩
          · simp only [Act.put, List.setIfInBounds_toArray, List.set_cons_zero, List.set_cons_succ]
            have e1 : f1 1 = .bool true := hd 1 (by kernel_rfl)
            go_simp
            exact ⟨Ext.refl _, rfl⟩
          refine ⟨fun u hu hd => ?_, ?_⟩
          · simp only [Act.put, List.setIfInBounds_toArray, List.set_cons_zero, List.set_cons_succ]
            have e1 : f1 1 = .bool true := hd 1 (by kernel_rfl)
            have e2 : f1 2 = .pointer (some ⟨dn, 0, none⟩) := hd 2 (by kernel_rfl)
            clear hd
            go_simp
            exact ⟨Ext.refl _, rfl⟩
          refine ⟨fun u hu hd => ?_, ?_⟩
          · simp only [Act.put, List.setIfInBounds_toArray, List.set_cons_zero, List.set_cons_succ]
            have e1 : f1 1 = .bool true := hd 1 (by kernel_rfl)
            have e3 : f1 3 = .bool true := hd 3 (by kernel_rfl)
            go_simp
            exact ⟨Ext.refl _, rfl⟩
          refine ⟨fun u hu hd => ?_, ?_⟩
          · simp only [Act.put, List.setIfInBounds_toArray, List.set_cons_zero, List.set_cons_succ]
            have e4 : f1 4 = .bool true := hd 4 (by kernel_rfl)
            go_simp
            exact ⟨Ext.refl _, rfl⟩
          refine ⟨fun u hu hd => ?_, ?_⟩
          · simp only [Act.put, List.setIfInBounds_toArray, List.set_cons_zero, List.set_cons_succ]
            have e5 : f1 5 = .bool true := hd 5 (by kernel_rfl)
            go_simp
            exact ⟨Ext.refl _, rfl⟩
          refine ⟨fun u hu hd => ?_, ?_⟩
          · simp only [Act.put, List.setIfInBounds_toArray, List.set_cons_zero, List.set_cons_succ]
            have e5 : f1 5 = .bool true := hd 5 (by kernel_rfl)
            go_simp
            exact ⟨Ext.refl _, rfl⟩
          refine ⟨fun u hu hd => ?_, ?_⟩
          · simp only [Act.put, List.setIfInBounds_toArray, List.set_cons_zero, List.set_cons_succ]
            have e5 : f1 5 = .bool true := hd 5 (by kernel_rfl)
            have e7 : f1 7 = .pointer (some ⟨w.heap.size, 0, none⟩) := hd 7 (by kernel_rfl)
            have hu2 := Ext.trans (Ext.drew wz) hu
            have q0 := HZR.out u hu2
            go_simp
            exact ⟨Ext.refl _, rfl⟩
          refine ⟨fun u hu hd => ?_, ?_⟩
          · simp only [Act.put, List.setIfInBounds_toArray, List.set_cons_zero, List.set_cons_succ]
            have e5 : f1 5 = .bool true := hd 5 (by kernel_rfl)
            go_simp
            exact ⟨Ext.refl _, rfl⟩
          refine ⟨fun u hu hd => ?_, ?_⟩
          · simp only [Act.put, List.setIfInBounds_toArray, List.set_cons_zero, List.set_cons_succ]
            have e5 : f1 5 = .bool true := hd 5 (by kernel_rfl)
            have e9 : f1 9 = .pointer (some ⟨r, 0, none⟩) := hd 9 (by kernel_rfl)
            have hu2 := Ext.trans (Ext.drew wz) hu
            have HC := Lib.hid (files_rd (HBZ.out.ext hu2).p HTG.out)
            clear hd
            go_simp
            refine HC.out.mono ?_
            rintro e9 w9 ⟨v9, rfl, hf9, hx9⟩
            exact ⟨_, rfl, hx9, hf9⟩
          refine ⟨fun u hu hd => ?_, ?_⟩
          · simp only [Act.put, List.setIfInBounds_toArray, List.set_cons_zero, List.set_cons_succ]
            have e5 : f1 5 = .bool true := hd 5 (by kernel_rfl)
            have e6 : f1 6 = .pointer (some ⟨d, 0, none⟩) := hd 6 (by kernel_rfl)
            have e8 : f1 8 = .int .i64 (room : Int) := hd 8 (by kernel_rfl)
            obtain ⟨R9, hw9, ht9, hs9⟩ := (show FFl F (f1 10) u from hd 10 (by kernel_rfl))
            have hu2 := Ext.trans (Ext.drew wz) hu
            obtain ⟨S9, hd9⟩ := (HBZ.out.live.ext hu2).swap.disk
            have HC := Lib.hid (has_any hd9 ht9 hs9 hw9)
            clear hd hw9 ht9 hs9 hd9
            go_simp
            refine HC.out.mono ?_
            rintro e9 w9 ⟨rfl, hx9⟩
            exact ⟨_, rfl, hx9, rfl⟩
          refine ⟨fun u hu hd => ?_, ?_⟩
          · simp only [Act.put, List.setIfInBounds_toArray, List.set_cons_zero, List.set_cons_succ]
            have e5 : f1 5 = .bool true := hd 5 (by kernel_rfl)
            have e11 : f1 11 = .bool true := hd 11 (by kernel_rfl)
            go_simp
            exact ⟨Ext.refl _, rfl⟩
          refine ⟨fun u hu hd => ?_, ?_⟩
          · simp only [Act.put, List.setIfInBounds_toArray, List.set_cons_zero, List.set_cons_succ]
            have e12 : f1 12 = .bool true := hd 12 (by kernel_rfl)
            go_simp
            exact ⟨Ext.refl _, rfl⟩
          refine ⟨fun u hu hd => ?_, ?_⟩
          · simp only [Act.put, List.setIfInBounds_toArray, List.set_cons_zero, List.set_cons_succ]
            have e13 : f1 13 = .bool true := hd 13 (by kernel_rfl)
            go_simp
            exact ⟨Ext.refl _, rfl⟩
          refine ⟨fun u hu hd => ?_, ?_⟩
          · simp only [Act.put, List.setIfInBounds_toArray, List.set_cons_zero, List.set_cons_succ]
            have e13 : f1 13 = .bool true := hd 13 (by kernel_rfl)
            go_simp
            exact ⟨Ext.refl _, rfl⟩
          refine ⟨fun u hu hd => ?_, ?_⟩
          · simp only [Act.put, List.setIfInBounds_toArray, List.set_cons_zero, List.set_cons_succ]
            have e13 : f1 13 = .bool true := hd 13 (by kernel_rfl)
            have e15 : f1 15 = .pointer (some ⟨w.heap.size, 0, none⟩) := hd 15 (by kernel_rfl)
            have hu2 := Ext.trans (Ext.drew wz) hu
            have q0 := HZR.out u hu2
            go_simp
            exact ⟨Ext.refl _, rfl⟩
          refine ⟨fun u hu hd => ?_, ?_⟩
          · simp only [Act.put, List.setIfInBounds_toArray, List.set_cons_zero, List.set_cons_succ]
            have e13 : f1 13 = .bool true := hd 13 (by kernel_rfl)
            go_simp
            exact ⟨Ext.refl _, rfl⟩
          refine ⟨fun u hu hd => ?_, ?_⟩
          · simp only [Act.put, List.setIfInBounds_toArray, List.set_cons_zero, List.set_cons_succ]
            have e13 : f1 13 = .bool true := hd 13 (by kernel_rfl)
            have e17 : f1 17 = .pointer (some ⟨rn, 0, none⟩) := hd 17 (by kernel_rfl)
            have hu2 := Ext.trans (Ext.drew wz) hu
            have HC := Lib.hid (files_rd (HBZ.out.ext hu2).rd HTN.out)
            clear hd
            go_simp
            refine HC.out.mono ?_
            rintro e9 w9 ⟨v9, rfl, hf9, hx9⟩
            exact ⟨_, rfl, hx9, hf9⟩
          refine ⟨fun u hu hd => ?_, ?_⟩
          · simp only [Act.put, List.setIfInBounds_toArray, List.set_cons_zero, List.set_cons_succ]
            have e13 : f1 13 = .bool true := hd 13 (by kernel_rfl)
            have e14 : f1 14 = .pointer (some ⟨dn, 0, none⟩) := hd 14 (by kernel_rfl)
            have e16 : f1 16 = .int .i64 (room : Int) := hd 16 (by kernel_rfl)
            obtain ⟨R9, hw9, ht9, hs9⟩ := (show FFl F' (f1 18) u from hd 18 (by kernel_rfl))
            have hu2 := Ext.trans (Ext.drew wz) hu
            obtain ⟨S9, hd9⟩ := (HBZ.out.ext hu2).disk
            have HC := Lib.hid (has_any hd9 ht9 hs9 hw9)
            clear hd hw9 ht9 hs9 hd9
            go_simp
            refine HC.out.mono ?_
            rintro e9 w9 ⟨rfl, hx9⟩
            exact ⟨_, rfl, hx9, rfl⟩
          refine ⟨fun u hu hd => ?_, ?_⟩
          · simp only [Act.put, List.setIfInBounds_toArray, List.set_cons_zero, List.set_cons_succ]
            have e13 : f1 13 = .bool true := hd 13 (by kernel_rfl)
            have e19 : f1 19 = .bool true := hd 19 (by kernel_rfl)
            go_simp
            exact ⟨Ext.refl _, rfl⟩
          refine ⟨fun u hu hd => ?_, ?_⟩
          · simp only [Act.put, List.setIfInBounds_toArray, List.set_cons_zero, List.set_cons_succ]
            have e20 : f1 20 = .bool true := hd 20 (by kernel_rfl)
            go_simp
            exact ⟨Ext.refl _, rfl⟩
          refine ⟨fun u hu hd => ?_, ?_⟩
          · simp only [Act.put, List.setIfInBounds_toArray, List.set_cons_zero, List.set_cons_succ]
            have e21 : f1 21 = .bool true := hd 21 (by kernel_rfl)
            go_simp
            exact ⟨Ext.refl _, rfl⟩
          refine ⟨fun u hu hd => ?_, ?_⟩
          · simp only [Act.put, List.setIfInBounds_toArray, List.set_cons_zero, List.set_cons_succ]
            have e21 : f1 21 = .bool true := hd 21 (by kernel_rfl)
            go_simp
            exact ⟨Ext.refl _, rfl⟩
          refine ⟨fun u hu hd => ?_, ?_⟩
          · simp only [Act.put, List.setIfInBounds_toArray, List.set_cons_zero, List.set_cons_succ]
            have e21 : f1 21 = .bool true := hd 21 (by kernel_rfl)
            have e22 : f1 22 = .pointer (some ⟨dn, 0, none⟩) := hd 22 (by kernel_rfl)
            have e23 : f1 23 = .pointer (some ⟨d, 0, none⟩) := hd 23 (by kernel_rfl)
            have hu2 := Ext.trans (Ext.drew wz) hu
            obtain ⟨S9, hd9⟩ := (HBZ.out.ext hu2).disk
            obtain ⟨S8, hd8⟩ := (HBZ.out.live.ext hu2).swap.disk
            have HC := Lib.hid (sameD_z hd9 hd8 HZ2.out)
            clear hd hd9 hd8
            go_simp
            refine HC.out.mono ?_
            rintro e9 w9 ⟨rfl, hx9⟩
            exact ⟨_, rfl, hx9, rfl⟩
          refine ⟨fun u hu hd => ?_, ?_⟩
          · simp only [Act.put, List.setIfInBounds_toArray, List.set_cons_zero, List.set_cons_succ]
            have e21 : f1 21 = .bool true := hd 21 (by kernel_rfl)
            go_simp
            exact ⟨Ext.refl _, rfl⟩
          refine ⟨fun u hu hd => ?_, ?_⟩
          · simp only [Act.put, List.setIfInBounds_toArray, List.set_cons_zero, List.set_cons_succ]
            have e21 : f1 21 = .bool true := hd 21 (by kernel_rfl)
            go_simp
            exact ⟨Ext.refl _, rfl⟩
          refine ⟨fun u hu hd => ?_, ?_⟩
          · simp only [Act.put, List.setIfInBounds_toArray, List.set_cons_zero, List.set_cons_succ]
            have e21 : f1 21 = .bool true := hd 21 (by kernel_rfl)
            have e25 : f1 25 = .pointer (some ⟨rn, 0, none⟩) := hd 25 (by kernel_rfl)
            have e26 : f1 26 = .pointer (some ⟨r, 0, none⟩) := hd 26 (by kernel_rfl)
            have hu2 := Ext.trans (Ext.drew wz) hu
            have HC := Lib.hid (sameR_z (HBZ.out.ext hu2).rd (HBZ.out.ext hu2).p HTN.out HTG.out HZ2.out)
            clear hd
            go_simp
            refine HC.out.mono ?_
            rintro e9 w9 ⟨rfl, hx9⟩
            exact ⟨_, rfl, hx9, rfl⟩
          refine ⟨fun u hu hd => ?_, ?_⟩
          · simp only [Act.put, List.setIfInBounds_toArray, List.set_cons_zero, List.set_cons_succ]
            have e21 : f1 21 = .bool true := hd 21 (by kernel_rfl)
            have e24 : f1 24 = .bool z2 := hd 24 (by kernel_rfl)
            have e27 : f1 27 = .bool z2 := hd 27 (by kernel_rfl)
            have t : (z2 == z2) = true := by simp
            clear hd
            go_simp
            exact ⟨Ext.refl _, rfl⟩
          refine ⟨fun u hu hd => ?_, ?_⟩
          · simp only [Act.put, List.setIfInBounds_toArray, List.set_cons_zero, List.set_cons_succ]
            have e21 : f1 21 = .bool true := hd 21 (by kernel_rfl)
            have e28 : f1 28 = .bool true := hd 28 (by kernel_rfl)
            go_simp
            exact ⟨Ext.refl _, rfl⟩
          refine ⟨fun u hu hd => ?_, ?_⟩
          · simp only [Act.put, List.setIfInBounds_toArray, List.set_cons_zero, List.set_cons_succ]
            have e29 : f1 29 = .bool true := hd 29 (by kernel_rfl)
            go_simp
            exact ⟨Ext.refl _, rfl⟩
          refine ⟨fun u hu hd => ?_, ?_⟩
          · simp only [Act.put, List.setIfInBounds_toArray, List.set_cons_zero, List.set_cons_succ]
            have e30 : f1 30 = .bool true := hd 30 (by kernel_rfl)
            clear hd
            go_simp
            refine (known_any _).mono ?_
            rintro e9 w9 ⟨rfl, hx9⟩
            exact ⟨_, rfl, hx9, rfl⟩
          refine ⟨fun u hu hd => ?_, ?_⟩
          · simp only [Act.put, List.setIfInBounds_toArray, List.set_cons_zero, List.set_cons_succ]
            have e30 : f1 30 = .bool true := hd 30 (by kernel_rfl)
            have e31 : f1 31 = .bool true := hd 31 (by kernel_rfl)
            go_simp
            exact ⟨Ext.refl _, rfl⟩
          refine ⟨fun u hu hd => ?_, ?_⟩
          · simp only [Act.put, List.setIfInBounds_toArray, List.set_cons_zero, List.set_cons_succ]
            have e32 : f1 32 = .bool true := hd 32 (by kernel_rfl)
            go_simp
            exact ⟨Ext.refl _, rfl⟩
          trivial
end Go.Proofs.Ytenhfphgobalfaa

/- DiskTwins: from the walk to the statement. For every input the law answers true and leaves its arguments as they were. -/
namespace Go.Proofs.Ytenhfphgobalfaa.diskTwins
open Go.ChangeShapes Go.WideShapes Go.ChangeAt Go.RowKit
set_option linter.unusedVariables false

set_option maxRecDepth 100000 in
theorem lifted (os : Os) (started : os.Started) (H : Type) (enc : TypeId × Value → H) :
    ReturnsInHanded {} Try.checked os 7 .any (Rows.diskTwinsSpec.pre6 enc Try.prog Try.f7 Rows.diskTwinsRow.domain false) (Rows.diskTwinsSpec.post enc Try.prog Try.f7 false true false false) := by
  refine returnsInHanded_of_change (C := Try.checked) own started (by kernel_rfl) Try.func7
    (ChangeSpec.witness6 (enc := enc) (C := Try.checked) false ⟨#[], #[.agg #[.int .i64 0, .int .i64 0], .slice none 0 0, .slice none 0 0, .agg #[.int .i64 0, .string ⟨#[]⟩, .string ⟨#[]⟩, .slice none 0 0, .slice none 0 0]], []⟩ 8 (by kernel_rfl) (by kernel_rfl) (by kernel_rfl) (by kernel_rfl)) ?_
  intro W base args ds gs before hval0 hW hcnd _
  have hval : ∀ (j : Nat) t v, Try.f7.params[j]? = some t → args[j]? = some v → Value.okWide Try.prog W .any base t v := hval0
  have hW' := hW
  obtain ⟨p, q, hA0, hV, rfl, hfz, hnd⟩ := hW
  have hA : DataW.TrodAll enc Try.prog W 0 (fun _ => true) true Try.f7.params.toList args.toList ds p := hA0
  rw [Try.params7] at hA hval
  obtain ⟨v0, vs0, d0, ds0, p0, q0, hargs, rfl, rfl, h0, r0⟩ := trodAll_cons hA
  obtain ⟨v1, vs1, d1, ds1, p1, q1, rfl, rfl, rfl, h1, r1⟩ := trodAll_cons r0
  obtain ⟨v2, vs2, d2, ds2, p2, q2, rfl, rfl, rfl, h2, r2⟩ := trodAll_cons r1
  obtain ⟨v3, vs3, d3, ds3, p3, q3, rfl, rfl, rfl, h3, r3⟩ := trodAll_cons r2
  obtain ⟨rfl, rfl, rfl⟩ := trodAll_nil r3
  obtain rfl : args = #[v0, v1, v2, v3] := by cases args; simp_all
  obtain ⟨rfl, rfl⟩ := trodVars_none hV
  have k0 := h0
  have lt0 : ∀ x ∈ p0, x.block < W.heap.size := by obtain ⟨m, hm⟩ := k0; exact DataW.trod_lt m _ _ _ hm
  obtain ⟨i0, j0, rfl, wi0, wj0⟩ := open_ints2 (hval 0 68 v0 rfl rfl) h0
  have k1 := h1
  have lt1 : ∀ x ∈ p1, x.block < W.heap.size := by obtain ⟨m, hm⟩ := k1; exact DataW.trod_lt m _ _ _ hm
  obtain ⟨A1, c1, X1, rfl, s1⟩ := open_steps (hval 1 22 v1 rfl rfl) h1
  have k2 := h2
  have lt2 : ∀ x ∈ p2, x.block < W.heap.size := by obtain ⟨m, hm⟩ := k2; exact DataW.trod_lt m _ _ _ hm
  obtain ⟨A2, c2, X2, rfl, s2⟩ := open_steps (hval 2 22 v2 rfl rfl) h2
  have k3 := h3
  have lt3 : ∀ x ∈ p3, x.block < W.heap.size := by obtain ⟨m, hm⟩ := k3; exact DataW.trod_lt m _ _ _ hm
  obtain ⟨x3, rfl, s3⟩ := open_step (hval 3 38 v3 rfl rfl) h3
  clear hA0 hval0
  refine (dtwins_walk W i0 wi0 j0 wj0 A1 c1 X1 s1 A2 c2 X2 s2 x3 s3).mono fun e W' ⟨he, bel⟩ => ?_
  subst he
  exact ⟨_, rfl, _, _, _, [], _, [], hW', trodAll_mk1 (shut_bool Try.underlying4 _), (trodAll_cons_mk (Below.trod laidOut (by kernel_rfl) (of_decide_eq_true (by kernel_rfl)) k0 bel lt0) (trodAll_cons_mk (Below.trod laidOut (by kernel_rfl) (of_decide_eq_true (by kernel_rfl)) k1 bel lt1) (trodAll_cons_mk (Below.trod laidOut (by kernel_rfl) (of_decide_eq_true (by kernel_rfl)) k2 bel lt2) (trodAll_cons_mk (Below.trod laidOut (by kernel_rfl) (of_decide_eq_true (by kernel_rfl)) k3 bel lt3) trodAll_mk0)))), rfl, bel.frame _, fun h => by cases h⟩

theorem over : Rows.diskTwinsRow.holds Try.pinned (OpenSpec.ofChange Rows.diskTwinsSpec) :=
  OpenClaim.holds_of_wide 7 Try.f7 rfl rfl rfl rfl rfl rfl rfl ⟨rfl, rfl, rfl, rfl, rfl⟩ rfl rfl rfl rfl rfl (by kernel_rfl) Try.func7 (by kernel_rfl)
    (of_decide_eq_true (by kernel_rfl)) (by unfold Func.isWrapper; first | (rw [if_pos (by decide +kernel)]; kernel_rfl) | (rw [if_neg (by decide +kernel)]; exact ⟨rfl, rfl⟩))
    (fun os started H enc _ => lifted os started H enc)

theorem proved : Rows.DiskTwinsSaid := over
end Go.Proofs.Ytenhfphgobalfaa.diskTwins
