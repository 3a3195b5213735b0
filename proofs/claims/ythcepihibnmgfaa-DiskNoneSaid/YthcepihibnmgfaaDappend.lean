/- Append. -/
import Derived.Test.YthcepihibnmgfaaDalg
namespace Go.Proofs.Ythcepihibnmgfaa
open Go.RowKit Go.Maps

/-- The files behind an Append that is not refused. -/
def app (F : List Fl) (n : List UInt8) (bs : List Nat) : List Fl := upd F ⟨n, (cur F n).data ++ bs, (cur F n).lasts⟩
/-- Append's answer. -/
def appN (F : List Fl) (room L : Nat) (n : List UInt8) : Int := match good n with | true => fullN F room L n | false => 2
/-- A call that answered x; the disk has F' then. -/
def Did (w : World) (S : Nat → Prop) (B d room : Nat) (F' : List Fl) (x : Int) (e : Ending) (w' : World) : Prop :=
  e = .returned (.int .i64 x) ∧ ∃ S', Disk w' S' B d room F' ∧ Chg S w w' ∧ ∀ k, S' k → S k ∨ w.heap.size ≤ k
theorem Did.same {w w' : World} {S : Nat → Prop} {B d room : Nat} {F : List Fl} {x : Int} (h : Disk w S B d room F) (hb : Below w.heap.size w w') : Did w S B d room F x (.returned (.int .i64 x)) w' :=
  ⟨rfl, S, h.ext hb, Chg.of_below hb, fun _ hk => .inl hk⟩

theorem names_one {w' : World} {b : Nat} {s : ByteArray} (hs : s.size ≤ maxLen) (h : w'.heap[b]? = some (.cells #[.string s] 9 (0, 0))) : Names w' (some ⟨b, 0, none⟩) [s] :=
  ⟨.inr ⟨b, 0, rfl, Nat.zero_le _, (Array.getElem?_eq_some_iff.1 h).1, fun i u hu => by
    rcases i with _ | i
    · simp at hu; subst hu; simp [World.cell?, h]
    · simp at hu⟩, by simpa using hs, by simp⟩
theorem heap_at (w : World) (o : Obj) {k : Nat} (h : k = w.heap.size) : (w.alloc o).heap[k]? = some o := by subst h; exact (MapKept.heap_alloc w o).1
theorem cell_of {w : World} {b k : Nat} {c : Array Value} {t : TypeId} {v : Value} (h : w.heap[b]? = some (.cells c t (0, 0))) (hv : c[k]? = some v) : w.cell? ⟨b, k, none⟩ = some v := by simp [World.cell?, h, hv]
theorem free_of {w : World} {b k : Nat} {c : Array Value} {t : TypeId} (h : w.heap[b]? = some (.cells c t (0, 0))) : w.frozen? ⟨b, k, none⟩ = false := by simp [World.frozen?, h]
theorem ext_heap {w u : World} (h : Ext w u) {b : Nat} {o : Obj} (hb : w.heap[b]? = some o) : u.heap[b]? = some o := (h.block b (Array.getElem?_eq_some_iff.1 hb).1).trans hb
theorem enters_full : ∀ args w, (callFunc 55 args).run Try.prog w = .ok (.enter 55 args) w := enters_of Try.func55 (by kernel_rfl) rfl
theorem enters_lacks : ∀ args w, (callFunc 65 args).run Try.prog w = .ok (.enter 65 args) w := enters_of Try.func65 (by kernel_rfl) rfl

/-- What the refusals give of one name. -/
theorem refused_one {w : World} {d : Nat} (h : IsDisk w d) {s : ByteArray} {A : Option Addr} {c : Nat} (hn : Names w A [s]) {g : Nat} {lb : Array Value} (eg : ∀ args w, (callFunc g args).run Try.prog w = .ok (.enter g args) w) {r x : Int}
    (hr : r = match good s.data.toList with | true => x | false => 2) (hok : Calls Try.prog g lb w fun e w' => e = .returned (.int .i64 x) ∧ Below w.heap.size w w') :
    Calls Try.prog 48 #[.pointer (some ⟨d, 0, none⟩), .func (.func g) #[] lb, .slice A 1 c] w fun e w' => e = .returned (.int .i64 r) ∧ Below w.heap.size w w' := by
  refine (refused_any h hn (c := c) eg (Q := fun y w' => y = r ∧ Below w.heap.size w w') ?_ ?_).mono ?_
  · rintro ⟨s', hs', hb⟩
    simp at hs'; subst hs'
    exact ⟨by rw [hr, hb], Below.refl _ _⟩
  · intro hg
    refine hok.mono ?_
    rintro e w' ⟨rfl, hb⟩
    exact ⟨x, rfl, by rw [hr, hg s (by simp)], hb⟩
  · rintro e w' ⟨y, rfl, rfl, hb⟩
    exact ⟨rfl, hb⟩

/-- What an Append that is not refused may count on. -/
theorem appN_ok {F : List Fl} {room L : Nat} {n : List UInt8} (h : 0 = appN F room L n) : good n = true ∧ tot F + L ≤ room ∧ (there F n = false → F.length ≠ 128) ∧ (room ≤ 1048576 → (cur F n).data.length + L ≤ 1048576) := by
  unfold appN at h
  cases hg : good n
  · rw [hg] at h; cases h
  · rw [hg] at h
    unfold fullN at h
    cases hz : decide (room < tot F + L) || (!there F n && F.length == 128)
    · simp at hz
      refine ⟨rfl, by omega, fun ht => ?_, fun hr => ?_⟩
      · have := hz.2
        simp [ht] at this
        exact this
      · cases ht : there F n
        · rw [cur_none ht]; simp; omega
        · have := tot_mem (there_cur ht); omega
    · rw [hz] at h; cases h

theorem heap_set {w : World} {b k : Nat} {c : Array Value} {t : TypeId} {f : Nat × Nat} (v : Value) (h : w.heap[b]? = some (.cells c t f)) : (w.setCell ⟨b, k, none⟩ v).heap[b]? = some (.cells (c.setIfInBounds k v) t f) := by
  obtain ⟨hlt, hk⟩ := Array.getElem?_eq_some_iff.1 h
  show (w.heap.modify b _)[b]? = _
  rw [Array.getElem?_eq_getElem (by rw [Array.size_modify]; exact hlt), Array.getElem_modify_self, hk]
  rfl
/-- A row of bytes lies in no block of another type. -/
theorem row_far {w : World} {B n k : Nat} {v : Value} {xs : List Value} {c : Array Value} {t : TypeId} {f : Nat × Nat} (hr : w.ownsRow B 5 1 v n xs) (hk : w.heap[k]? = some (.cells c t f)) (ht : t ≠ 5) : v.ownBlock ≠ some k := by
  intro e
  obtain ⟨c', h⟩ := row_not hr e
  rw [hk] at h
  injection h with h
  injection h with _ h
  exact ht h
theorem row_ne {w : World} {B n k g : Nat} {v : Value} {xs : List Value} {c : Array Value} {t : TypeId} {f : Nat × Nat} (hr : w.ownsRow B 5 1 v n xs) (hg : v.ownBlock = some g) (hk : w.heap[k]? = some (.cells c t f)) (ht : t ≠ 5) : g ≠ k := fun e => row_far hr hk ht (e ▸ hg)
/-- The row of the file that is looked up, or none. -/
theorem cur_row {w : World} {S : Nat → Prop} {B : Nat} {F : List Fl} {V : List UInt8 → Value} {nm : List UInt8} {A : Option Addr} {n c : Nat} {y : Int} (hf : ∀ f ∈ F, FileAt w S B f (V f.name))
    (hV : ∀ f ∈ F, f.name = nm → V f.name = fv A n c y) (hno : there F nm = false → A = none ∧ n = 0 ∧ c = 0 ∧ y = 0) :
    w.ownsRow B 5 1 (.slice A (cur F nm).data.length c) (cur F nm).data.length (bv (cur F nm).data) ∧ n = (cur F nm).data.length ∧ y = ((cur F nm).lasts : Int) ∧ ((∀ b ∈ (cur F nm).data, b < 256) ∧ (cur F nm).lasts ≤ (cur F nm).data.length ∧ ∀ g, (Value.slice A (cur F nm).data.length c).ownBlock = some g → S g) := by
  cases ht : there F nm
  · obtain ⟨rfl, rfl, rfl, rfl⟩ := hno ht
    rw [cur_none ht]
    exact ⟨World.ownsRow_nil _ _ _ _, rfl, rfl, by simp, Nat.le_refl _, fun g h => by cases h⟩
  · have hm := there_cur ht
    have hn := cur_name F nm
    obtain ⟨⟨u, e, hr, hs⟩, hl, hb⟩ := hf _ hm
    rw [hV _ hm hn] at e
    unfold fv at e
    obtain ⟨A', c', rfl, _⟩ := Sl.of_own hr
    simp at e
    obtain ⟨⟨rfl, rfl, rfl⟩, rfl⟩ := e
    exact ⟨hr, rfl, rfl, hb, hl, hs⟩

set_option maxRecDepth 100000 in
set_option maxHeartbeats 4000000 in
theorem append_any {w : World} {S : Nat → Prop} {B d room : Nat} {F : List Fl} (h : Disk w S B d room F) {s : ByteArray} (hs : s.size ≤ maxLen) {vb : Value} {bs : List Nat} {lo hi : Nat} (hb : Bs w lo hi vb bs) (hhi : hi ≤ w.heap.size) (hbs : ∀ b ∈ bs, b < 256)
    {x : Int} (hx : x = appN F room bs.length s.data.toList) :
    Calls Try.prog 27 #[.pointer (some ⟨d, 0, none⟩), .string s, vb] w (Did w S B d room (match x == 0 with | true => app F s.data.toList bs | false => F) x) := by
  obtain ⟨m, D, V, hsee, hfiles, hBm, hap⟩ := h.seen
  have H := Lib.hid h
  have HB := Lib.hid hb
  have HHI := Lib.hid hhi
  have HSEE := Lib.hid hsee
  have HX := Lib.hid hx
  have HS := Lib.hid hs
  obtain ⟨A0, c0, rfl, hlc, hcm, _, _⟩ := hb
  have HBL := Lib.hid (Nat.le_trans hlc hcm)
  have HV : Hid (∀ f ∈ F, ∃ A c x, V f.name = fv A f.data.length c x) := fun f hf => by
    obtain ⟨⟨u, e, hr, _⟩, _⟩ := hfiles f hf
    obtain ⟨A, c, rfl, _⟩ := Sl.of_own hr
    exact ⟨A, c, _, e⟩
  obtain ⟨F', hF'⟩ : ∃ F', F' = match x == 0 with | true => app F s.data.toList bs | false => F := ⟨_, rfl⟩
  rw [← hF']
  have HF' := Lib.hid hF'
  have HFI := Lib.hid hfiles
  have HBM := Lib.hid hBm
  have HAP := Lib.hid hap
  have HBB := Lib.hid hbs
  clear hsee h hx hs hlc hcm hhi hF' hfiles hBm hap hbs
  go_enter Try.func27, Try.ntmps27
  go_wp2_with fail
  obtain ⟨w1, hw1⟩ : ∃ w1, w1 = (((w.alloc (.cells #[.pointer (some ⟨d, 0, none⟩)] 25)).alloc (.cells #[.string s] 9)).alloc (.cells #[.slice A0 bs.length c0] 35)).alloc (.cells #[.string s] 9) := ⟨_, rfl⟩
  rw [← hw1]
  have HX1 : Hid (Ext w w1) := by rw [hw1]; exact (((ext_alloc _ _).trans (ext_alloc _ _)).trans (ext_alloc _ _)).trans (ext_alloc _ _)
  have hb0 : Hid (w1.heap[w.heap.size]? = some (.cells #[.pointer (some ⟨d, 0, none⟩)] 25)) := by
    rw [hw1]; exact ext_heap (((ext_alloc _ _).trans (ext_alloc _ _)).trans (ext_alloc _ _)) (heap_at _ _ rfl)
  have hb1 : Hid (w1.heap[w.heap.size + 1]? = some (.cells #[.string s] 9)) := by
    rw [hw1]; exact ext_heap ((ext_alloc _ _).trans (ext_alloc _ _)) (heap_at _ _ (by simp))
  have hb2 : Hid (w1.heap[w.heap.size + 2]? = some (.cells #[.slice A0 bs.length c0] 35)) := by
    rw [hw1]; exact ext_heap (ext_alloc _ _) (heap_at _ _ (by simp))
  have hb3 : Hid (w1.heap[w.heap.size + 3]? = some (.cells #[.string s] 9)) := by
    rw [hw1]; exact heap_at _ _ (by simp)
  clear hw1
  have hR := H.out.hi
  refine Calls.mono (refused_one (r := x) (H.out.isDisk.ext HX1.out) (names_one HS.out hb3.out) enters_full HX.out (full_is (HSEE.out.ext HX1.out) HS.out HV.out (Nat.le_trans H.out.tot hR) hR HBL.out (cell_of hb0.out rfl) (cell_of hb1.out rfl) (cell_of hb2.out rfl))) ?_
  rintro e w2 ⟨rfl, hx2⟩
  have HX2 : Hid (Ext w w2) := HX1.out.trans hx2
  have h20 := Lib.hid (ext_heap hx2 hb0.out)
  have h21 := Lib.hid (ext_heap hx2 hb1.out)
  have h22 := Lib.hid (ext_heap hx2 hb2.out)
  clear hx2 hR hb0 hb1 hb2 hb3
  by_cases hx0 : x = 0
  · subst hx0
    have HFF : Hid (F' = app F s.data.toList bs) := HF'.out
    have HOK := Lib.hid (appN_ok HX.out)
    obtain ⟨A, n, c, y, hlt, hl, hVf, hno⟩ := (HSEE.out.ext HX2.out).look HS.out (fun f hf => (HFI.out f hf).shape)
    obtain ⟨hrow, hn, hy, hbl⟩ := cur_row (w := w2) (fun f hf => (HFI.out f hf).kept (fun k _ hk => HX2.out.block k hk)) hVf hno
    subst hn hy
    have HROW := Lib.hid hrow
    have HBLK := Lib.hid hbl
    have HVF := Lib.hid hVf
    have HNO : Hid (there F s.data.toList = false → (Value.slice A (cur F s.data.toList).data.length c).ownBlock = none) := fun ht => by obtain ⟨rfl, _⟩ := hno ht; rfl
    clear hrow hVf hno hlt hbl HX HF'
    unfold fv at hl
    have hl1 := fun (o : Obj) => hl (w2.alloc o).drew ((ext_alloc w2 o).trans (Ext.drew _))
    have hl2 := hl w2.drew (Ext.drew w2)
    have hs2 := HSEE.out.ext HX2.out
    have q0 := cell_of (k := 0) h20.out rfl
    have q1 := cell_of (k := 0) h21.out rfl
    have q2 := hs2.c1
    have q01 := fun (o : Obj) => cell_new q0 o
    have q11 := fun (o : Obj) => cell_new q1 o
    have q21 := fun (o : Obj) => cell_new q2 o
    clear hl hs2
    go_wp2_with fail
    go_region
    clear hl1 hl2 q0 q1 q2 q01 q11 q21
    obtain ⟨w3, hw3⟩ : ∃ w3, w3 = (w2.alloc (.cells #[.slice A (cur F s.data.toList).data.length c, .int .i64 ((cur F s.data.toList).lasts : Int)] 96)).drew := ⟨_, rfl⟩
    rw [← hw3]
    have HX23 : Hid (Ext w2 w3) := by rw [hw3]; exact (ext_alloc _ _).trans (Ext.drew _)
    have HBX3 : Hid (w3.heap[w2.heap.size]? = some (.cells #[.slice A (cur F s.data.toList).data.length c, .int .i64 ((cur F s.data.toList).lasts : Int)] 96 (0, 0))) := by rw [hw3]; exact heap_at _ _ rfl
    clear hw3
    have HX3 := Lib.hid (HX2.out.trans HX23.out)
    have q0 := cell_of (k := 0) HBX3.out rfl
    have q1 := cell_of (k := 0) (ext_heap HX23.out h22.out) rfl
    have hrow3 := HROW.out.kept (row := none) (World.grownBy.mk HX23.out.os HX23.out.tape HX23.out.output HX23.out.size (fun k hk _ => HX23.out.block k hk)) (by cases h : (Value.slice A (cur F s.data.toList).data.length c).ownBlock <;> simp)
    have hbs3 := HB.out.below (hi := hi) HX3.out HHI.out
    have hlen : (cur F s.data.toList).data.length + bs.length ≤ 1048576 := HOK.out.2.2.2 H.out.hi
    have hB3 : B ≤ w3.heap.size := Nat.le_trans H.out.base (Nat.le_of_lt (Nat.lt_of_lt_of_le H.out.isDisk.lt HX3.out.size))
    have HBL3 := Lib.hid (Array.getElem?_eq_some_iff.1 HBX3.out).1
    have HBN : Hid (some w2.heap.size ≠ (Value.slice A (cur F s.data.toList).data.length c).ownBlock) := fun e => Nat.lt_irrefl _ (row_lt HROW.out _ e.symm).2
    go_wp2_with (at_builtin; refine wpList_grow rfl _ _ rfl B (.slice A (cur F s.data.toList).data.length c) (cur F s.data.toList).data rfl hrow3 (.slice A0 bs.length c0) bs rfl lo hi hbs3 (by omega) hB3 ?_; intro A' c' w4 hown4 hg4 hat4; have HOWN4 := Lib.hid hown4; have HG4 := Lib.hid hg4; have HAT4 := Lib.hid hat4; clear hown4 hg4 hat4 hrow3 hbs3 q1; have hne := HBN.out; have q3 := cell_of (k := 0) ((HG4.out.block _ HBL3.out hne).trans HBX3.out) rfl; have q4 := free_of (k := 0) ((HG4.out.block _ HBL3.out hne).trans HBX3.out))
    clear q0 q3 q4 hne hlen hB3
    obtain ⟨w5, hw5⟩ : ∃ w5, w5 = w4.setCell ⟨w2.heap.size, 0, none⟩ (.slice A' ((cur F s.data.toList).data.length + bs.length) c') := ⟨_, rfl⟩
    rw [← hw5]
    have hbx4 := (HG4.out.block _ HBL3.out HBN.out).trans HBX3.out
    have HBX5 : Hid (w5.heap[w2.heap.size]? = some (.cells #[.slice A' ((cur F s.data.toList).data.length + bs.length) c', .int .i64 ((cur F s.data.toList).lasts : Int)] 96 (0, 0))) := by
      rw [hw5]; exact heap_set (k := 0) _ hbx4
    have hc45 : Chg (fun k => k = w2.heap.size) w4 w5 := by rw [hw5]; exact Chg.setCell _ _ _ rfl
    have hc25 : Chg (fun k => (Value.slice A (cur F s.data.toList).data.length c).ownBlock = some k) w2 w5 :=
      ((Chg.of_ext HX23.out).trans_new (Chg.grown (S := fun k => (Value.slice A (cur F s.data.toList).data.length c).ownBlock = some k) HG4.out (fun k e => e)) (fun i _ hi => hi)).trans_new hc45 (fun i hi e => by omega)
    have hc5 := (Chg.of_ext HX2.out).trans_new hc25 (fun i _ hi => hi)
    have HC5 := Lib.hid hc5
    have hrw := row_lt HROW.out
    have hs2 := HSEE.out.ext HX2.out
    have hra := hs2.row_apart HROW.out
    have hm5 : w5.heap[m]? = w.heap[m]? := hc5.block m HSEE.out.own.lt hra.2
    have hd5 : w5.heap[d]? = w.heap[d]? := hc5.block d H.out.isDisk.lt hra.1
    have hown5 : w5.drew.ownsMap Try.prog 9 rdf m F.length D := map_kept HSEE.out.own hm5
    have hcnt := H.out.cnt
    have hkey : keyOf Try.prog 9 (.string s) = some (.string s.data.toList) := WideMaps.keyOf_string_mk Try.underlying9 HS.out
    obtain ⟨w6, hrun6, hown6, hg6⟩ := hown5.update lawS Try.underlying78 (by unfold maxLen; omega) (val := .agg #[.slice A' ((cur F s.data.toList).data.length + bs.length) c', .int .i64 ((cur F s.data.toList).lasts : Int)]) hkey (rdf_mk _ _ _ _)
    have HOWN6 := Lib.hid hown6
    have HG6 : Hid (w5.grownBy w6 (some m)) := ⟨hg6.os, hg6.tape, hg6.output, hg6.size, hg6.block⟩
    have hx25 := hc25
    have q0 : w5.cell? ⟨w.heap.size, 0, none⟩ = some (.pointer (some ⟨d, 0, none⟩)) := cell_of ((hc25.block _ (Array.getElem?_eq_some_iff.1 h20.out).1 (row_far HROW.out h20.out (by decide))).trans h20.out) rfl
    have q1 : w5.cell? ⟨w.heap.size + 1, 0, none⟩ = some (.string s) := cell_of ((hc25.block _ (Array.getElem?_eq_some_iff.1 h21.out).1 (row_far HROW.out h21.out (by decide))).trans h21.out) rfl
    have q2 : w5.cell? ⟨d, 1, none⟩ = some (.map (some m)) := cell_of (hd5.trans HSEE.out.block) rfl
    have q3 : w5.cell? ⟨w2.heap.size, 0, none⟩ = some (.slice A' ((cur F s.data.toList).data.length + bs.length) c') := cell_of HBX5.out rfl
    have q4 : w5.cell? ⟨w2.heap.size, 1, none⟩ = some (.int .i64 ((cur F s.data.toList).lasts : Int)) := cell_of HBX5.out rfl
    have HAT5 : Hid ((Value.slice A' ((cur F s.data.toList).data.length + bs.length) c').ownBlock = (Value.slice A (cur F s.data.toList).data.length c).ownBlock ∨ ∃ q, (Value.slice A' ((cur F s.data.toList).data.length + bs.length) c').ownBlock = some q ∧ w.heap.size ≤ q) := HAT4.out.imp id (fun e => ⟨_, e, HX3.out.size⟩)
    have HROW5 : Hid (w5.ownsRow B 5 1 (.slice A' ((cur F s.data.toList).data.length + bs.length) c') ((cur F s.data.toList).data.length + bs.length) (bv ((cur F s.data.toList).data ++ bs))) :=
      row_kept HOWN4.out (fun g hg => hc45.block g (row_lt HOWN4.out g hg).2 (row_ne HOWN4.out hg hbx4 (by decide)))
    have HKEY := Lib.hid hkey
    clear hbx4 hc45 hc25 hc5 hrw hs2 hra hm5 hd5 hown5 hown6 hg6 hx25 hkey hw5 hcnt
    go_wp2_with fail
    go_region
    clear q0 q1 q2 q3 q4 hrun6
    go_wp2_with fail
    go_ret
    have hfin := H.out.grown_file HSEE.out HBM.out HAP.out HFI.out ⟨s.data.toList, (cur F s.data.toList).data ++ bs, (cur F s.data.toList).lasts⟩ (.slice A (cur F s.data.toList).data.length c) (.slice A' ((cur F s.data.toList).data.length + bs.length) c')
      (fun f hf e => by rw [HVF.out f hf e]; rfl) (fun ht => HNO.out ht) HC5.out HG6.out HOWN6.out (lawS.key HKEY.out) (by rw [List.length_append]; exact HROW5.out) HAT5.out (by have := HBLK.out.2.1; simp; omega)
      (fun b hb => by rcases List.mem_append.1 hb with hb | hb; exact HBLK.out.1 b hb; exact HBB.out b hb)
      (by have h1 := tot_upd HSEE.out.con.nodup ⟨s.data.toList, (cur F s.data.toList).data ++ bs, (cur F s.data.toList).lasts⟩; have h2 := HOK.out.2.1; simp at h1; omega)
      (by have h1 := len_upd HSEE.out.con.nodup ⟨s.data.toList, (cur F s.data.toList).data ++ bs, (cur F s.data.toList).lasts⟩; have h2 := HOK.out.2.2.1; have h3 := H.out.cnt; rw [h1]; cases ht : there F s.data.toList <;> simp [ht] at h2 ⊢ <;> omega)
      HOK.out.1
    obtain ⟨S', k1, k2, k3⟩ := hfin
    rw [HFF.out]
    exact ⟨rfl, S', k1, k2, k3⟩
  · have t1 : (x != 0) = true := by simpa using hx0
    have t2 : (x == 0) = false := by simpa using hx0
    have HFF : Hid (F' = F) := by rw [HF'.out, t2]; rfl
    clear hx0 t2
    go_wp2_with fail
    go_ret
    rw [HFF.out]
    exact Did.same H.out HX2.out
end Go.Proofs.Ythcepihibnmgfaa
