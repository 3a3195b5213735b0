/- Dappend Dclone Dops Deach Dnames Dother, joined. -/
import Derived.Test.YtenhfphgobalfaaMa2
import Derived.Test.YtenhfphgobalfaaMa1
import Derived.WalkLawsBesides
import Derived.WalkSpells
import Derived.RangeFuncBox
import Derived.Maps.AppendAt
import Derived.BigRegionIn
import Derived.RegionIn

/- Append. -/
namespace Go.Proofs.Ytenhfphgobalfaa
open Go.RowKit Go.Maps

/-- The files behind an Append that is not refused. -/
def app (F : List Fl) (n : List UInt8) (bs : List Nat) : List Fl := upd F ⟨n, (cur F n).data ++ bs, (cur F n).lasts⟩
/-- Append's answer. -/
def appN (F : List Fl) (room L : Nat) (n : List UInt8) : Int := match good n with | true => fullN F room L n | false => 2
/-- A call that answered x; the disk has F' then. -/
def Did (w : World) (S : Nat → Prop) (B d room : Nat) (F' : List Fl) (x : Int) (e : Ending) (w' : World) : Prop :=
  e = .returned (.int .i64 x) ∧ ∃ S', Disk w' S' B d room F' ∧ Chg S w w' ∧ ∀ k, S' k → S k ∨ w.heap.size ≤ k
theorem Did.same {w w' : World} {S : Nat → Prop} {B d room : Nat} {F : List Fl} {x : Int} (h : Disk w S B d room F) (hb : Below w.heap.size w w') : Did w S B d room F x (.returned (.int .i64 x)) w' :=
  ⟨rfl, S, h.ext hb, Chg.of_below hb, fun _ hk => .inl hk⟩

theorem names_one {w' : World} {b : Nat} {s : ByteArray} (hs : s.size ≤ maxLen) (h : w'.heap[b]? = some (.cells #[.string s] 9 (0, 0))) : Names w' (some ⟨b, 0, none⟩) [s] :=
  ⟨.inr ⟨b, 0, rfl, Nat.zero_le _, (Array.getElem?_eq_some_iff.1 h).1, fun i u hu => by
    rcases i with _ | i
    · simp at hu; subst hu; simp [World.cell?, h]
    · simp at hu⟩, by simpa using hs, by simp⟩
theorem heap_at (w : World) (o : Obj) {k : Nat} (h : k = w.heap.size) : (w.alloc o).heap[k]? = some o := by subst h; exact (MapKept.heap_alloc w o).1
theorem cell_of {w : World} {b k : Nat} {c : Array Value} {t : TypeId} {v : Value} (h : w.heap[b]? = some (.cells c t (0, 0))) (hv : c[k]? = some v) : w.cell? ⟨b, k, none⟩ = some v := by simp [World.cell?, h, hv]
theorem free_of {w : World} {b k : Nat} {c : Array Value} {t : TypeId} (h : w.heap[b]? = some (.cells c t (0, 0))) : w.frozen? ⟨b, k, none⟩ = false := by simp [World.frozen?, h]
theorem ext_heap {w u : World} (h : Ext w u) {b : Nat} {o : Obj} (hb : w.heap[b]? = some o) : u.heap[b]? = some o := (h.block b (Array.getElem?_eq_some_iff.1 hb).1).trans hb
theorem enters_full : ∀ args w, (callFunc 52 args).run Try.prog w = .ok (.enter 52 args) w := enters_of Try.func52 (by kernel_rfl) rfl
theorem enters_lacks : ∀ args w, (callFunc 62 args).run Try.prog w = .ok (.enter 62 args) w := enters_of Try.func62 (by kernel_rfl) rfl

/-- What the refusals give of one name. -/
theorem refused_one {w : World} {d : Nat} (h : IsDisk w d) {s : ByteArray} {A : Option Addr} {c : Nat} (hn : Names w A [s]) {g : Nat} {lb : Array Value} (eg : ∀ args w, (callFunc g args).run Try.prog w = .ok (.enter g args) w) {r x : Int}
    (hr : r = match good s.data.toList with | true => x | false => 2) (hok : Calls Try.prog g lb w fun e w' => e = .returned (.int .i64 x) ∧ Below w.heap.size w w') :
    Calls Try.prog 45 #[.pointer (some ⟨d, 0, none⟩), .func (.func g) #[] lb, .slice A 1 c] w fun e w' => e = .returned (.int .i64 r) ∧ Below w.heap.size w w' := by
  refine (refused_any h hn (c := c) eg (Q := fun y w' => y = r ∧ Below w.heap.size w w') ?_ ?_).mono ?_
  · rintro ⟨s', hs', hb⟩
    simp at hs'; subst hs'
    exact ⟨by rw [hr, hb], Below.refl _ _⟩
  · intro hg
    refine hok.mono ?_
    rintro e w' ⟨rfl, hb⟩
    exact ⟨x, rfl, by rw [hr, hg s (by simp)], hb⟩
  · rintro e w' ⟨y, rfl, rfl, hb⟩
    exact ⟨rfl, hb⟩

/-- What an Append that is not refused may count on. -/
theorem appN_ok {F : List Fl} {room L : Nat} {n : List UInt8} (h : 0 = appN F room L n) : good n = true ∧ tot F + L ≤ room ∧ (there F n = false → F.length ≠ 128) ∧ (room ≤ 1048576 → (cur F n).data.length + L ≤ 1048576) := by
  unfold appN at h
  cases hg : good n
  · rw [hg] at h; cases h
  · rw [hg] at h
    unfold fullN at h
    cases hz : decide (room < tot F + L) || (!there F n && F.length == 128)
    · simp at hz
      refine ⟨rfl, by omega, fun ht => ?_, fun hr => ?_⟩
      · have := hz.2
        simp [ht] at this
        exact this
      · cases ht : there F n
        · rw [cur_none ht]; simp; omega
        · have := tot_mem (there_cur ht); omega
    · rw [hz] at h; cases h

theorem heap_set {w : World} {b k : Nat} {c : Array Value} {t : TypeId} {f : Nat × Nat} (v : Value) (h : w.heap[b]? = some (.cells c t f)) : (w.setCell ⟨b, k, none⟩ v).heap[b]? = some (.cells (c.setIfInBounds k v) t f) := by
  obtain ⟨hlt, hk⟩ := Array.getElem?_eq_some_iff.1 h
  show (w.heap.modify b _)[b]? = _
  rw [Array.getElem?_eq_getElem (by rw [Array.size_modify]; exact hlt), Array.getElem_modify_self, hk]
  rfl
/-- A row of bytes lies in no block of another type. -/
theorem row_far {w : World} {B n k : Nat} {v : Value} {xs : List Value} {c : Array Value} {t : TypeId} {f : Nat × Nat} (hr : w.ownsRow B 5 1 v n xs) (hk : w.heap[k]? = some (.cells c t f)) (ht : t ≠ 5) : v.ownBlock ≠ some k := by
  intro e
  obtain ⟨c', h⟩ := row_not hr e
  rw [hk] at h
  injection h with h
  injection h with _ h
  exact ht h
theorem row_ne {w : World} {B n k g : Nat} {v : Value} {xs : List Value} {c : Array Value} {t : TypeId} {f : Nat × Nat} (hr : w.ownsRow B 5 1 v n xs) (hg : v.ownBlock = some g) (hk : w.heap[k]? = some (.cells c t f)) (ht : t ≠ 5) : g ≠ k := fun e => row_far hr hk ht (e ▸ hg)
/-- The row of the file that is looked up, or none. -/
theorem cur_row {w : World} {S : Nat → Prop} {B : Nat} {F : List Fl} {V : List UInt8 → Value} {nm : List UInt8} {A : Option Addr} {n c : Nat} {y : Int} (hf : ∀ f ∈ F, FileAt w S B f (V f.name))
    (hV : ∀ f ∈ F, f.name = nm → V f.name = fv A n c y) (hno : there F nm = false → A = none ∧ n = 0 ∧ c = 0 ∧ y = 0) :
    w.ownsRow B 5 1 (.slice A (cur F nm).data.length c) (cur F nm).data.length (bv (cur F nm).data) ∧ n = (cur F nm).data.length ∧ y = ((cur F nm).lasts : Int) ∧ ((∀ b ∈ (cur F nm).data, b < 256) ∧ (cur F nm).lasts ≤ (cur F nm).data.length ∧ ∀ g, (Value.slice A (cur F nm).data.length c).ownBlock = some g → S g) := by
  cases ht : there F nm
  · obtain ⟨rfl, rfl, rfl, rfl⟩ := hno ht
    rw [cur_none ht]
    exact ⟨World.ownsRow_nil _ _ _ _, rfl, rfl, by simp, Nat.le_refl _, fun g h => by cases h⟩
  · have hm := there_cur ht
    have hn := cur_name F nm
    obtain ⟨⟨u, e, hr, hs⟩, hl, hb⟩ := hf _ hm
    rw [hV _ hm hn] at e
    unfold fv at e
    obtain ⟨A', c', rfl, _⟩ := Sl.of_own hr
    simp at e
    obtain ⟨⟨rfl, rfl, rfl⟩, rfl⟩ := e
    exact ⟨hr, rfl, rfl, hb, hl, hs⟩

set_option maxRecDepth 100000 in
set_option maxHeartbeats 4000000 in
theorem append_any {w : World} {S : Nat → Prop} {B d room : Nat} {F : List Fl} (h : Disk w S B d room F) {s : ByteArray} (hs : s.size ≤ maxLen) {vb : Value} {bs : List Nat} {lo hi : Nat} (hb : Bs w lo hi vb bs) (hhi : hi ≤ w.heap.size) (hbs : ∀ b ∈ bs, b < 256)
    {x : Int} (hx : x = appN F room bs.length s.data.toList) :
    Calls Try.prog 25 #[.pointer (some ⟨d, 0, none⟩), .string s, vb] w (Did w S B d room (match x == 0 with | true => app F s.data.toList bs | false => F) x) := by
  obtain ⟨m, D, V, hsee, hfiles, hBm, hap⟩ := h.seen
  have H := Lib.hid h
  have HB := Lib.hid hb
  have HHI := Lib.hid hhi
  have HSEE := Lib.hid hsee
  have HX := Lib.hid hx
  have HS := Lib.hid hs
  obtain ⟨A0, c0, rfl, hlc, hcm, _, _⟩ := hb
  have HBL := Lib.hid (Nat.le_trans hlc hcm)
  have HV : Hid (∀ f ∈ F, ∃ A c x, V f.name = fv A f.data.length c x) := fun f hf => by
    obtain ⟨⟨u, e, hr, _⟩, _⟩ := hfiles f hf
    obtain ⟨A, c, rfl, _⟩ := Sl.of_own hr
    exact ⟨A, c, _, e⟩
  obtain ⟨F', hF'⟩ : ∃ F', F' = match x == 0 with | true => app F s.data.toList bs | false => F := ⟨_, rfl⟩
  rw [← hF']
  have HF' := Lib.hid hF'
  have HFI := Lib.hid hfiles
  have HBM := Lib.hid hBm
  have HAP := Lib.hid hap
  have HBB := Lib.hid hbs
  clear hsee h hx hs hlc hcm hhi hF' hfiles hBm hap hbs
  go_enter Try.func25, Try.ntmps25
  go_wp2_with fail
  obtain ⟨w1, hw1⟩ : ∃ w1, w1 = (((w.alloc (.cells #[.pointer (some ⟨d, 0, none⟩)] 25)).alloc (.cells #[.string s] 9)).alloc (.cells #[.slice A0 bs.length c0] 35)).alloc (.cells #[.string s] 9) := ⟨_, rfl⟩
  rw [← hw1]
  have HX1 : Hid (Ext w w1) := by rw [hw1]; exact (((ext_alloc _ _).trans (ext_alloc _ _)).trans (ext_alloc _ _)).trans (ext_alloc _ _)
  have hb0 : Hid (w1.heap[w.heap.size]? = some (.cells #[.pointer (some ⟨d, 0, none⟩)] 25)) := by
    rw [hw1]; exact ext_heap (((ext_alloc _ _).trans (ext_alloc _ _)).trans (ext_alloc _ _)) (heap_at _ _ rfl)
  have hb1 : Hid (w1.heap[w.heap.size + 1]? = some (.cells #[.string s] 9)) := by
    rw [hw1]; exact ext_heap ((ext_alloc _ _).trans (ext_alloc _ _)) (heap_at _ _ (by simp))
  have hb2 : Hid (w1.heap[w.heap.size + 2]? = some (.cells #[.slice A0 bs.length c0] 35)) := by
    rw [hw1]; exact ext_heap (ext_alloc _ _) (heap_at _ _ (by simp))
  have hb3 : Hid (w1.heap[w.heap.size + 3]? = some (.cells #[.string s] 9)) := by
    rw [hw1]; exact heap_at _ _ (by simp)
  clear hw1
  have hR := H.out.hi
  refine Calls.mono (refused_one (r := x) (H.out.isDisk.ext HX1.out) (names_one HS.out hb3.out) enters_full HX.out (full_is (HSEE.out.ext HX1.out) HS.out HV.out (Nat.le_trans H.out.tot hR) hR HBL.out (cell_of hb0.out rfl) (cell_of hb1.out rfl) (cell_of hb2.out rfl))) ?_
  rintro e w2 ⟨rfl, hx2⟩
  have HX2 : Hid (Ext w w2) := HX1.out.trans hx2
  have h20 := Lib.hid (ext_heap hx2 hb0.out)
  have h21 := Lib.hid (ext_heap hx2 hb1.out)
  have h22 := Lib.hid (ext_heap hx2 hb2.out)
  clear hx2 hR hb0 hb1 hb2 hb3
  by_cases hx0 : x = 0
  · subst hx0
    have HFF : Hid (F' = app F s.data.toList bs) := HF'.out
    have HOK := Lib.hid (appN_ok HX.out)
    obtain ⟨A, n, c, y, hlt, hl, hVf, hno⟩ := (HSEE.out.ext HX2.out).look HS.out (fun f hf => (HFI.out f hf).shape)
    obtain ⟨hrow, hn, hy, hbl⟩ := cur_row (w := w2) (fun f hf => (HFI.out f hf).kept (fun k _ hk => HX2.out.block k hk)) hVf hno
    subst hn hy
    have HROW := Lib.hid hrow
    have HBLK := Lib.hid hbl
    have HVF := Lib.hid hVf
    have HNO : Hid (there F s.data.toList = false → (Value.slice A (cur F s.data.toList).data.length c).ownBlock = none) := fun ht => by obtain ⟨rfl, _⟩ := hno ht; rfl
    clear hrow hVf hno hlt hbl HX HF'
    unfold fv at hl
    have hl1 := fun (o : Obj) => hl (w2.alloc o).drew ((ext_alloc w2 o).trans (Ext.drew _))
    have hl2 := hl w2.drew (Ext.drew w2)
    have hs2 := HSEE.out.ext HX2.out
    have q0 := cell_of (k := 0) h20.out rfl
    have q1 := cell_of (k := 0) h21.out rfl
    have q2 := hs2.c1
    have q01 := fun (o : Obj) => cell_new q0 o
    have q11 := fun (o : Obj) => cell_new q1 o
    have q21 := fun (o : Obj) => cell_new q2 o
    clear hl hs2
    go_wp2_with fail
    go_region
    clear hl1 hl2 q0 q1 q2 q01 q11 q21
    obtain ⟨w3, hw3⟩ : ∃ w3, w3 = (w2.alloc (.cells #[.slice A (cur F s.data.toList).data.length c, .int .i64 ((cur F s.data.toList).lasts : Int)] 92)).drew := ⟨_, rfl⟩
    rw [← hw3]
    have HX23 : Hid (Ext w2 w3) := by rw [hw3]; exact (ext_alloc _ _).trans (Ext.drew _)
    have HBX3 : Hid (w3.heap[w2.heap.size]? = some (.cells #[.slice A (cur F s.data.toList).data.length c, .int .i64 ((cur F s.data.toList).lasts : Int)] 92 (0, 0))) := by rw [hw3]; exact heap_at _ _ rfl
    clear hw3
    have HX3 := Lib.hid (HX2.out.trans HX23.out)
    have q0 := cell_of (k := 0) HBX3.out rfl
    have q1 := cell_of (k := 0) (ext_heap HX23.out h22.out) rfl
    have hrow3 := HROW.out.kept (row := none) (World.grownBy.mk HX23.out.os HX23.out.tape HX23.out.output HX23.out.size (fun k hk _ => HX23.out.block k hk)) (by cases h : (Value.slice A (cur F s.data.toList).data.length c).ownBlock <;> simp)
    have hbs3 := HB.out.below (hi := hi) HX3.out HHI.out
    have hlen : (cur F s.data.toList).data.length + bs.length ≤ 1048576 := HOK.out.2.2.2 H.out.hi
    have hB3 : B ≤ w3.heap.size := Nat.le_trans H.out.base (Nat.le_of_lt (Nat.lt_of_lt_of_le H.out.isDisk.lt HX3.out.size))
    have HBL3 := Lib.hid (Array.getElem?_eq_some_iff.1 HBX3.out).1
    have HBN : Hid (some w2.heap.size ≠ (Value.slice A (cur F s.data.toList).data.length c).ownBlock) := fun e => Nat.lt_irrefl _ (row_lt HROW.out _ e.symm).2
    go_wp2_with (at_builtin; refine wpList_grow rfl _ _ rfl B (.slice A (cur F s.data.toList).data.length c) (cur F s.data.toList).data rfl hrow3 (.slice A0 bs.length c0) bs rfl lo hi hbs3 (by omega) hB3 ?_; intro A' c' w4 hown4 hg4 hat4; have HOWN4 := Lib.hid hown4; have HG4 := Lib.hid hg4; have HAT4 := Lib.hid hat4; clear hown4 hg4 hat4 hrow3 hbs3 q1; have hne := HBN.out; have q3 := cell_of (k := 0) ((HG4.out.block _ HBL3.out hne).trans HBX3.out) rfl; have q4 := free_of (k := 0) ((HG4.out.block _ HBL3.out hne).trans HBX3.out))
    clear q0 q3 q4 hne hlen hB3
    obtain ⟨w5, hw5⟩ : ∃ w5, w5 = w4.setCell ⟨w2.heap.size, 0, none⟩ (.slice A' ((cur F s.data.toList).data.length + bs.length) c') := ⟨_, rfl⟩
    rw [← hw5]
    have hbx4 := (HG4.out.block _ HBL3.out HBN.out).trans HBX3.out
    have HBX5 : Hid (w5.heap[w2.heap.size]? = some (.cells #[.slice A' ((cur F s.data.toList).data.length + bs.length) c', .int .i64 ((cur F s.data.toList).lasts : Int)] 92 (0, 0))) := by
      rw [hw5]; exact heap_set (k := 0) _ hbx4
    have hc45 : Chg (fun k => k = w2.heap.size) w4 w5 := by rw [hw5]; exact Chg.setCell _ _ _ rfl
    have hc25 : Chg (fun k => (Value.slice A (cur F s.data.toList).data.length c).ownBlock = some k) w2 w5 :=
      ((Chg.of_ext HX23.out).trans_new (Chg.grown (S := fun k => (Value.slice A (cur F s.data.toList).data.length c).ownBlock = some k) HG4.out (fun k e => e)) (fun i _ hi => hi)).trans_new hc45 (fun i hi e => by omega)
    have hc5 := (Chg.of_ext HX2.out).trans_new hc25 (fun i _ hi => hi)
    have HC5 := Lib.hid hc5
    have hrw := row_lt HROW.out
    have hs2 := HSEE.out.ext HX2.out
    have hra := hs2.row_apart HROW.out
    have hm5 : w5.heap[m]? = w.heap[m]? := hc5.block m HSEE.out.own.lt hra.2
    have hd5 : w5.heap[d]? = w.heap[d]? := hc5.block d H.out.isDisk.lt hra.1
    have hown5 : w5.drew.ownsMap Try.prog 9 rdf m F.length D := map_kept HSEE.out.own hm5
    have hcnt := H.out.cnt
    have hkey : keyOf Try.prog 9 (.string s) = some (.string s.data.toList) := WideMaps.keyOf_string_mk Try.underlying9 HS.out
    obtain ⟨w6, hrun6, hown6, hg6⟩ := hown5.update lawS Try.underlying77 (by unfold maxLen; omega) (val := .agg #[.slice A' ((cur F s.data.toList).data.length + bs.length) c', .int .i64 ((cur F s.data.toList).lasts : Int)]) hkey (rdf_mk _ _ _ _)
    have HOWN6 := Lib.hid hown6
    have HG6 : Hid (w5.grownBy w6 (some m)) := ⟨hg6.os, hg6.tape, hg6.output, hg6.size, hg6.block⟩
    have hx25 := hc25
    have q0 : w5.cell? ⟨w.heap.size, 0, none⟩ = some (.pointer (some ⟨d, 0, none⟩)) := cell_of ((hc25.block _ (Array.getElem?_eq_some_iff.1 h20.out).1 (row_far HROW.out h20.out (by decide))).trans h20.out) rfl
    have q1 : w5.cell? ⟨w.heap.size + 1, 0, none⟩ = some (.string s) := cell_of ((hc25.block _ (Array.getElem?_eq_some_iff.1 h21.out).1 (row_far HROW.out h21.out (by decide))).trans h21.out) rfl
    have q2 : w5.cell? ⟨d, 1, none⟩ = some (.map (some m)) := cell_of (hd5.trans HSEE.out.block) rfl
    have q3 : w5.cell? ⟨w2.heap.size, 0, none⟩ = some (.slice A' ((cur F s.data.toList).data.length + bs.length) c') := cell_of HBX5.out rfl
    have q4 : w5.cell? ⟨w2.heap.size, 1, none⟩ = some (.int .i64 ((cur F s.data.toList).lasts : Int)) := cell_of HBX5.out rfl
    have HAT5 : Hid ((Value.slice A' ((cur F s.data.toList).data.length + bs.length) c').ownBlock = (Value.slice A (cur F s.data.toList).data.length c).ownBlock ∨ ∃ q, (Value.slice A' ((cur F s.data.toList).data.length + bs.length) c').ownBlock = some q ∧ w.heap.size ≤ q) := HAT4.out.imp id (fun e => ⟨_, e, HX3.out.size⟩)
    have HROW5 : Hid (w5.ownsRow B 5 1 (.slice A' ((cur F s.data.toList).data.length + bs.length) c') ((cur F s.data.toList).data.length + bs.length) (bv ((cur F s.data.toList).data ++ bs))) :=
      row_kept HOWN4.out (fun g hg => hc45.block g (row_lt HOWN4.out g hg).2 (row_ne HOWN4.out hg hbx4 (by decide)))
    have HKEY := Lib.hid hkey
    clear hbx4 hc45 hc25 hc5 hrw hs2 hra hm5 hd5 hown5 hown6 hg6 hx25 hkey hw5 hcnt
    go_wp2_with fail
    go_region
    clear q0 q1 q2 q3 q4 hrun6
    go_wp2_with fail
    go_ret
    have hfin := H.out.grown_file HSEE.out HBM.out HAP.out HFI.out ⟨s.data.toList, (cur F s.data.toList).data ++ bs, (cur F s.data.toList).lasts⟩ (.slice A (cur F s.data.toList).data.length c) (.slice A' ((cur F s.data.toList).data.length + bs.length) c')
      (fun f hf e => by rw [HVF.out f hf e]; rfl) (fun ht => HNO.out ht) HC5.out HG6.out HOWN6.out (lawS.key HKEY.out) (by rw [List.length_append]; exact HROW5.out) HAT5.out (by have := HBLK.out.2.1; simp; omega)
      (fun b hb => by rcases List.mem_append.1 hb with hb | hb; exact HBLK.out.1 b hb; exact HBB.out b hb)
      (by have h1 := tot_upd HSEE.out.con.nodup ⟨s.data.toList, (cur F s.data.toList).data ++ bs, (cur F s.data.toList).lasts⟩; have h2 := HOK.out.2.1; simp at h1; omega)
      (by have h1 := len_upd HSEE.out.con.nodup ⟨s.data.toList, (cur F s.data.toList).data ++ bs, (cur F s.data.toList).lasts⟩; have h2 := HOK.out.2.2.1; have h3 := H.out.cnt; rw [h1]; cases ht : there F s.data.toList <;> simp [ht] at h2 ⊢ <;> omega)
      HOK.out.1
    obtain ⟨S', k1, k2, k3⟩ := hfin
    rw [HFF.out]
    exact ⟨rfl, S', k1, k2, k3⟩
  · have t1 : (x != 0) = true := by simpa using hx0
    have t2 : (x == 0) = false := by simpa using hx0
    have HFF : Hid (F' = F) := by rw [HF'.out, t2]; rfl
    clear hx0 t2
    go_wp2_with fail
    go_ret
    rw [HFF.out]
    exact Did.same H.out HX2.out
end Go.Proofs.Ytenhfphgobalfaa

/- slices.Clone at bytes. -/
namespace Go.Proofs.Ytenhfphgobalfaa
open Go.RowKit
theorem nilq (A : Option Addr) (n c : Nat) (w : World) : (binOp .eql 35 (.slice A n c) (.slice none 0 0)).run Try.prog w = .ok (.bool A.isNone) w := Lib.run_eql_slice_nil w _ _ A n c 0 0 Try.underlying35

theorem own_empty (w : World) (e : TypeId) : (w.alloc (.cells #[] e)).ownsRow w.heap.size e 1 (.slice (some ⟨w.heap.size, 0, none⟩) 0 0) 0 [] :=
  ⟨by simp, .inr ⟨w.heap.size, 0, _, rfl, Nat.le_refl _, heap_alloc_new w _, Nat.le_refl _, by simp [maxLen], by simp, by simp⟩⟩

set_option maxHeartbeats 400000 in
theorem clone_any (v : Value) (lo hi : Nat) (l : List Nat) (w : World) (h : Bs w lo hi v l) (hhi : hi ≤ w.heap.size) (hl : l.length ≤ 1099511627776) :
    Calls Try.prog 48 #[v] w (NewBy w l) := by
  obtain ⟨i0, hi0, hz0, hz1, hz2⟩ := info_parts t5info
  have HI := Lib.hid hi0
  clear hi0
  obtain ⟨A, c, rfl, h1, h2, hnil, hby⟩ := h
  rcases A with _ | a
  · obtain rfl := hnil rfl
    have hl0 : l = [] := by simpa using h1
    subst hl0
    have hq := nilq none 0 0
    clear h1 h2 hl
    go_enter Try.func48, Try.ntmps48
    go_wp2_with fail
    go_ret
    exact ⟨_, rfl, World.ownsRow_nil _ _ _ _, Below.refl _ _⟩
  · have hq := fun n => nilq (some a) n c
    have HL := Lib.hid hl
    clear h1 h2 hl hnil
    go_enter Try.func48, Try.ntmps48
    go_wp2_with (at_builtin; refine wpList_addall rfl (.tmp 5) (.tmp 6) 35 rfl w.heap.size 5 i0 (.int .u8 0) 1 Try.underlying35 HI.out hz0 hz1 hz2 rfl _ _ _ rfl (own_empty w _) lo hi (some a) l.length c (bv l) rfl ?c1 ?c2 ?c3 (bv_one l) ?c4 ?c5 ?c6 ?_)
    case c1 => intro h; cases h
    case c2 => exact bv_length l
    case c3 => exact Sl.alloc hby hhi _
    case c4 => have := HL.out; unfold maxLen; omega
    case c5 => have := HL.out; omega
    case c6 => simp
    intro v1 w1 hown1 hb1
    go_wp2
    go_ret
    exact ⟨v1, rfl, by simpa using hown1, hb1 _ ((Below.refl _ _).alloc (Nat.le_refl _) _)⟩
end Go.Proofs.Ytenhfphgobalfaa

/- Sync, Remove, Rename; Lasting, Read. -/
namespace Go.Proofs.Ytenhfphgobalfaa
open Go.RowKit Go.Maps

/-- What is asked first of a file by its name. -/
def seekN (F : List Fl) (n : List UInt8) : Int := match good n with | true => lackN (there F n) | false => 2
def seek2 (F : List Fl) (n k : List UInt8) : Int := match good n && good k with | true => lackN (there F n) | false => 2
theorem field_lasts (A : Option Addr) (L c z : Nat) (w : World) : (Instr.field 92 (.agg #[.slice A L c, .int .i64 (z : Int)]) 1).run Try.prog w = .ok (.int .i64 (z : Int)) w := by kernel_rfl
theorem field_bytes (A : Option Addr) (L c z : Nat) (w : World) : (Instr.field 92 (.agg #[.slice A L c, .int .i64 (z : Int)]) 0).run Try.prog w = .ok (.slice A L c) w := by kernel_rfl
/-- The files behind a Rename. -/
def ren (F : List Fl) (n k : List UInt8) : List Fl := upd (del F n) ⟨k, (cur F n).data, (cur F n).lasts⟩
/-- Bytes that are answered, and a number. -/
def ReadAns (w : World) (bs : List Nat) (x : Int) (e : Ending) (w' : World) : Prop := ∃ v, e = .returned (.tuple #[v, .int .i64 x]) ∧ w'.ownsRow w.heap.size 5 1 v bs.length (bv bs) ∧ Below w.heap.size w w'
theorem ownsRow_base {w : World} {b b' : Nat} {e : TypeId} {v : Value} {n : Nat} {xs : List Value} (h : w.ownsRow b e 1 v n xs) (hb : b' ≤ b) : w.ownsRow b' e 1 v n xs := by
  obtain ⟨h1, h2⟩ := h
  refine ⟨h1, ?_⟩
  rcases h2 with h2 | ⟨g, cap, cur, hv, hg, hh, r⟩
  · exact .inl h2
  · exact .inr ⟨g, cap, cur, hv, Nat.le_trans hb hg, hh, r⟩
/-- The files behind a Sync. -/
def syn (F : List Fl) (n : List UInt8) : List Fl := upd F ⟨n, (cur F n).data, (cur F n).data.length⟩
theorem seekN_ok {F : List Fl} {n : List UInt8} (h : 0 = seekN F n) : good n = true ∧ there F n = true := by
  unfold seekN at h
  cases hg : good n <;> rw [hg] at h
  · cases h
  · cases ht : there F n <;> rw [ht] at h
    · cases h
    · exact ⟨rfl, rfl⟩
theorem seek2_ok {F : List Fl} {n k : List UInt8} (h : 0 = seek2 F n k) : good n = true ∧ good k = true ∧ there F n = true := by
  unfold seek2 at h
  cases hg : good n <;> cases hk : good k <;> rw [hg, hk] at h
  · cases h
  · cases h
  · cases h
  · cases ht : there F n <;> rw [ht] at h
    · cases h
    · exact ⟨rfl, rfl, rfl⟩
theorem names_two {w' : World} {b : Nat} {s t : ByteArray} (hs : s.size ≤ maxLen) (ht : t.size ≤ maxLen) (h : w'.heap[b]? = some (.cells #[.string s, .string t] 9 (0, 0))) : Names w' (some ⟨b, 0, none⟩) [s, t] :=
  ⟨.inr ⟨b, 0, rfl, Nat.zero_le _, (Array.getElem?_eq_some_iff.1 h).1, fun i u hu => by
    rcases i with _ | _ | i
    · simp at hu; subst hu; simp [World.cell?, h]
    · simp at hu; subst hu; simp [World.cell?, h]
    · simp at hu⟩, by simp [hs, ht], by simp⟩
theorem refused_two {w : World} {d : Nat} (h : IsDisk w d) {s t : ByteArray} {A : Option Addr} {c : Nat} (hn : Names w A [s, t]) {g : Nat} {lb : Array Value} (eg : ∀ args w, (callFunc g args).run Try.prog w = .ok (.enter g args) w) {r x : Int}
    (hr : r = match good s.data.toList && good t.data.toList with | true => x | false => 2) (hok : Calls Try.prog g lb w fun e w' => e = .returned (.int .i64 x) ∧ Below w.heap.size w w') :
    Calls Try.prog 45 #[.pointer (some ⟨d, 0, none⟩), .func (.func g) #[] lb, .slice A 2 c] w fun e w' => e = .returned (.int .i64 r) ∧ Below w.heap.size w w' := by
  refine (refused_any h hn (c := c) eg (Q := fun y w' => y = r ∧ Below w.heap.size w w') ?_ ?_).mono ?_
  · rintro ⟨s', hs', hb⟩
    refine ⟨?_, Below.refl _ _⟩
    rcases List.mem_cons.1 hs' with rfl | hs'
    · rw [hr, hb]; rfl
    · simp at hs'; subst hs'; rw [hr, hb, Bool.and_false]
  · intro hg
    refine hok.mono ?_
    rintro e w' ⟨rfl, hb⟩
    exact ⟨x, rfl, by rw [hr, hg s (by simp), hg t (by simp)]; rfl, hb⟩
  · rintro e w' ⟨y, rfl, rfl, hb⟩
    exact ⟨rfl, hb⟩

set_option maxRecDepth 100000 in
set_option maxHeartbeats 4000000 in
theorem sync_any {w : World} {S : Nat → Prop} {B d room : Nat} {F : List Fl} (h : Disk w S B d room F) {s : ByteArray} (hs : s.size ≤ maxLen) {x : Int} (hx : x = seekN F s.data.toList) :
    Calls Try.prog 23 #[.pointer (some ⟨d, 0, none⟩), .string s] w (Did w S B d room (match x == 0 with | true => syn F s.data.toList | false => F) x) := by
  obtain ⟨m, D, V, hsee, hfiles, hBm, hap⟩ := h.seen
  have H := Lib.hid h
  have HSEE := Lib.hid hsee
  have HX := Lib.hid hx
  have HS := Lib.hid hs
  have HFI := Lib.hid hfiles
  have HBM := Lib.hid hBm
  have HAP := Lib.hid hap
  clear hsee h hx hs hfiles hBm hap
  go_enter Try.func23, Try.ntmps23
  go_wp2_with fail
  refine (lacks_any _ _ _).mono ?_
  rintro e w0 ⟨rfl, rfl⟩
  go_wp2_with fail
  obtain ⟨w1, hw1⟩ : ∃ w1, w1 = ((w.alloc (.cells #[.pointer (some ⟨d, 0, none⟩)] 25)).alloc (.cells #[.string s] 9)).alloc (.cells #[.string s] 9) := ⟨_, rfl⟩
  rw [← hw1]
  have HX1 : Hid (Ext w w1) := by rw [hw1]; exact ((ext_alloc _ _).trans (ext_alloc _ _)).trans (ext_alloc _ _)
  have hb0 : Hid (w1.heap[w.heap.size]? = some (.cells #[.pointer (some ⟨d, 0, none⟩)] 25)) := by
    rw [hw1]; exact ext_heap ((ext_alloc _ _).trans (ext_alloc _ _)) (heap_at _ _ rfl)
  have hb1 : Hid (w1.heap[w.heap.size + 1]? = some (.cells #[.string s] 9)) := by
    rw [hw1]; exact ext_heap (ext_alloc _ _) (heap_at _ _ (by simp))
  have hb2 : Hid (w1.heap[w.heap.size + 2]? = some (.cells #[.string s] 9)) := by
    rw [hw1]; exact heap_at _ _ (by simp)
  clear hw1
  obtain ⟨A, n, c, y, hlt, hl, hVf, hno⟩ := (HSEE.out.ext HX1.out).look HS.out (fun f hf => (HFI.out f hf).shape)
  refine Calls.mono (refused_one (r := x) (H.out.isDisk.ext HX1.out) (names_one HS.out hb2.out) enters_lacks HX.out (lacks_is (HSEE.out.ext HX1.out) (cell_of hb0.out rfl) (cell_of hb1.out rfl) hlt)) ?_
  rintro e w2 ⟨rfl, hx2⟩
  have HX2 : Hid (Ext w w2) := HX1.out.trans hx2
  have HL := Lib.hid (fun w' (hx : Ext w2 w') => hl w' (Ext.trans hx2 hx))
  have HVF := Lib.hid hVf
  have HNO := Lib.hid hno
  clear hx2 hb0 hb1 hb2 hlt hl hVf hno
  by_cases hx0 : x = 0
  · subst hx0
    have HOK := Lib.hid (seekN_ok HX.out)
    obtain ⟨hrow, hn, hy, hbl⟩ := cur_row (w := w2) (fun f hf => (HFI.out f hf).kept (fun k _ hk => HX2.out.block k hk)) HVF.out HNO.out
    subst hn hy
    have HROW := Lib.hid hrow
    have HBLK := Lib.hid hbl
    clear hrow hbl HX
    obtain ⟨L, hL⟩ : ∃ L, L = (cur F s.data.toList).data.length := ⟨_, rfl⟩
    obtain ⟨z, hz⟩ : ∃ z, z = (cur F s.data.toList).lasts := ⟨_, rfl⟩
    rw [← hL, ← hz] at HL HVF
    rw [← hL] at HROW HBLK
    have HLL := Lib.hid hL
    have HZZ := Lib.hid hz
    have hLb : L ≤ 1048576 := by have h1 := tot_mem (there_cur HOK.out.2); have h2 := H.out.tot; have h3 := H.out.hi; omega
    have hzb : z ≤ L := by have := HBLK.out.2.1; omega
    clear hL hz
    have hl := HL.out w2 (Ext.refl _)
    unfold fv at hl
    have hs2 := HSEE.out.ext HX2.out
    have q2 := hs2.c1
    clear hs2
    go_wp2_with fail
    obtain ⟨w5, hw5⟩ : ∃ w5, w5 = (w2.alloc (.cells #[.slice A L c, .int .i64 (L : Int)] 92)) := ⟨_, rfl⟩
    rw [← hw5]
    have HX25 : Hid (Ext w2 w5) := by rw [hw5]; exact ext_alloc _ _
    have HBX : Hid (w5.heap[w2.heap.size]? = some (.cells #[.slice A L c, .int .i64 (L : Int)] 92 (0, 0))) := by rw [hw5]; exact heap_at _ _ rfl
    clear hw5 hl q2
    have HX5 := Lib.hid (HX2.out.trans HX25.out)
    have hown5 := ((HSEE.out.ext HX5.out).ext (Ext.drew w5)).own
    have hcnt := H.out.cnt
    have hkey : keyOf Try.prog 9 (.string s) = some (.string s.data.toList) := WideMaps.keyOf_string_mk Try.underlying9 HS.out
    obtain ⟨w6, hrun6, hown6, hg6⟩ := hown5.update lawS Try.underlying77 (by unfold maxLen; omega) (val := .agg #[.slice A L c, .int .i64 (L : Int)]) hkey (rdf_mk _ _ _ _)
    have HOWN6 := Lib.hid hown6
    have HG6 : Hid (w5.grownBy w6 (some m)) := ⟨hg6.os, hg6.tape, hg6.output, hg6.size, hg6.block⟩
    have HKEY := Lib.hid hkey
    have q2 := (HSEE.out.ext HX5.out).c1
    have q3 : w5.cell? ⟨w2.heap.size, 0, none⟩ = some (.slice A L c) := cell_of HBX.out rfl
    have q4 : w5.cell? ⟨w2.heap.size, 1, none⟩ = some (.int .i64 (L : Int)) := cell_of HBX.out rfl
    clear hown5 hown6 hg6 hkey hcnt
    go_region
    clear q2 q3 q4 hrun6
    go_wp2_with fail
    go_ret
    have hfin := H.out.grown_file HSEE.out HBM.out HAP.out HFI.out ⟨s.data.toList, (cur F s.data.toList).data, (cur F s.data.toList).data.length⟩ (.slice A L c) (.slice A L c) (w5 := w5) (w6 := w6)
      (fun f hf e => by rw [HVF.out f hf e]; rfl) (fun ht => by rw [HOK.out.2] at ht; cases ht) (Chg.of_ext HX5.out) HG6.out (by rw [← HLL.out]; exact HOWN6.out) (lawS.key HKEY.out)
      (by rw [← HLL.out]; have := row_kept HROW.out (w' := w5) (fun g hg => HX25.out.block g (row_lt HROW.out g hg).2); exact this) (.inl rfl) (Nat.le_refl _) (fun b hb => HBLK.out.1 b hb)
      (by have h1 := tot_upd HSEE.out.con.nodup ⟨s.data.toList, (cur F s.data.toList).data, (cur F s.data.toList).data.length⟩; have h2 := H.out.tot; simp at h1; omega)
      (by have h1 := len_upd HSEE.out.con.nodup ⟨s.data.toList, (cur F s.data.toList).data, (cur F s.data.toList).data.length⟩; have h3 := H.out.cnt; rw [h1]; simp [HOK.out.2]; omega)
      HOK.out.1
    obtain ⟨S', k1, k2, k3⟩ := hfin
    exact ⟨rfl, S', k1, k2, k3⟩
  · have t1 : (x != 0) = true := by simpa using hx0
    have t2 : (x == 0) = false := by simpa using hx0
    clear hx0
    go_wp2_with fail
    go_ret
    exact Did.same H.out HX2.out

set_option maxRecDepth 100000 in
set_option maxHeartbeats 4000000 in
theorem remove_any {w : World} {S : Nat → Prop} {B d room : Nat} {F : List Fl} (h : Disk w S B d room F) {s : ByteArray} (hs : s.size ≤ maxLen) {x : Int} (hx : x = seekN F s.data.toList) :
    Calls Try.prog 22 #[.pointer (some ⟨d, 0, none⟩), .string s] w (Did w S B d room (match x == 0 with | true => del F s.data.toList | false => F) x) := by
  obtain ⟨m, D, V, hsee, hfiles, hBm, hap⟩ := h.seen
  have H := Lib.hid h
  have HSEE := Lib.hid hsee
  have HX := Lib.hid hx
  have HS := Lib.hid hs
  have HFI := Lib.hid hfiles
  have HBM := Lib.hid hBm
  have HAP := Lib.hid hap
  clear hsee h hx hs hfiles hBm hap
  go_enter Try.func22, Try.ntmps22
  go_wp2_with fail
  refine (lacks_any _ _ _).mono ?_
  rintro e w0 ⟨rfl, rfl⟩
  go_wp2_with fail
  obtain ⟨w1, hw1⟩ : ∃ w1, w1 = ((w.alloc (.cells #[.pointer (some ⟨d, 0, none⟩)] 25)).alloc (.cells #[.string s] 9)).alloc (.cells #[.string s] 9) := ⟨_, rfl⟩
  rw [← hw1]
  have HX1 : Hid (Ext w w1) := by rw [hw1]; exact ((ext_alloc _ _).trans (ext_alloc _ _)).trans (ext_alloc _ _)
  have hb0 : Hid (w1.heap[w.heap.size]? = some (.cells #[.pointer (some ⟨d, 0, none⟩)] 25)) := by
    rw [hw1]; exact ext_heap ((ext_alloc _ _).trans (ext_alloc _ _)) (heap_at _ _ rfl)
  have hb1 : Hid (w1.heap[w.heap.size + 1]? = some (.cells #[.string s] 9)) := by
    rw [hw1]; exact ext_heap (ext_alloc _ _) (heap_at _ _ (by simp))
  have hb2 : Hid (w1.heap[w.heap.size + 2]? = some (.cells #[.string s] 9)) := by
    rw [hw1]; exact heap_at _ _ (by simp)
  clear hw1
  obtain ⟨A, n, c, y, hlt, hl, hVf, hno⟩ := (HSEE.out.ext HX1.out).look HS.out (fun f hf => (HFI.out f hf).shape)
  refine Calls.mono (refused_one (r := x) (H.out.isDisk.ext HX1.out) (names_one HS.out hb2.out) enters_lacks HX.out (lacks_is (HSEE.out.ext HX1.out) (cell_of hb0.out rfl) (cell_of hb1.out rfl) hlt)) ?_
  rintro e w2 ⟨rfl, hx2⟩
  have HX2 : Hid (Ext w w2) := HX1.out.trans hx2
  have HL := Lib.hid (fun w' (hx : Ext w2 w') => hl w' (Ext.trans hx2 hx))
  have HVF := Lib.hid hVf
  have HNO := Lib.hid hno
  clear hx2 hb0 hb1 hb2 hlt hl hVf hno
  by_cases hx0 : x = 0
  · subst hx0
    have hs2 := HSEE.out.ext HX2.out
    have q2 := hs2.c1
    have hkey : keyOf Try.prog 9 (.string s) = some (.string s.data.toList) := WideMaps.keyOf_string_mk Try.underlying9 HS.out
    obtain ⟨w6, hrun6, hown6, hg6⟩ := hs2.own.drop lawS Try.underlying77 hkey 0
    have HOWN6 := Lib.hid hown6
    have HG6 := Lib.hid hg6.grown
    clear hs2 hown6 hg6 hkey
    go_wp2_with fail
    go_ret
    have hd : w6.heap[d]? = w.heap[d]? := (HG6.out.block d (Nat.lt_of_lt_of_le H.out.isDisk.lt HX2.out.size) (fun e => HSEE.out.dm (by injection e))).trans (HX2.out.block d H.out.isDisk.lt)
    refine ⟨rfl, S, H.out.dropped HSEE.out HBM.out HAP.out (fun f hf => (HFI.out f hf).keep1 (fun b hb => ?_) (fun _ hk => hk)) _ hd HOWN6.out, ?_, fun _ hk => .inl hk⟩
    · obtain ⟨h1, _, cc, h3⟩ := (HFI.out f hf).blk_lt hb
      refine (HG6.out.block b (Nat.lt_of_lt_of_le h1 HX2.out.size) (fun e => ?_)).trans (HX2.out.block b h1)
      injection e with e
      obtain ⟨es, clock, hm, _⟩ := HSEE.out.own
      rw [e, hm] at h3; cases h3
    · exact (Chg.of_ext HX2.out).trans_new (Chg.grown (S := fun k => k = m) HG6.out (fun k e => by injection e with e; exact e.symm)) (fun i _ hi => hi ▸ HSEE.out.mine.2)
  · have t1 : (x != 0) = true := by simpa using hx0
    have t2 : (x == 0) = false := by simpa using hx0
    clear hx0
    go_wp2_with fail
    go_ret
    exact Did.same H.out HX2.out

set_option maxRecDepth 100000 in
set_option maxHeartbeats 4000000 in
theorem lasting_any {w : World} {S : Nat → Prop} {B d room : Nat} {F : List Fl} (h : Disk w S B d room F) {s : ByteArray} (hs : s.size ≤ maxLen) {x : Int} (hx : x = seekN F s.data.toList) :
    Calls Try.prog 29 #[.pointer (some ⟨d, 0, none⟩), .string s] w (fun e w' => e = .returned (.tuple #[.int .i64 (match x == 0 with | true => ((cur F s.data.toList).lasts : Int) | false => 0), .int .i64 x]) ∧ Below w.heap.size w w') := by
  obtain ⟨m, D, V, hsee, hfiles, hBm, hap⟩ := h.seen
  have H := Lib.hid h
  have HSEE := Lib.hid hsee
  have HX := Lib.hid hx
  have HS := Lib.hid hs
  have HFI := Lib.hid hfiles
  have HBM := Lib.hid hBm
  have HAP := Lib.hid hap
  clear hsee h hx hs hfiles hBm hap
  go_enter Try.func29, Try.ntmps29
  go_wp2_with fail
  refine (lacks_any _ _ _).mono ?_
  rintro e w0 ⟨rfl, rfl⟩
  go_wp2_with fail
  obtain ⟨w1, hw1⟩ : ∃ w1, w1 = ((w.alloc (.cells #[.pointer (some ⟨d, 0, none⟩)] 25)).alloc (.cells #[.string s] 9)).alloc (.cells #[.string s] 9) := ⟨_, rfl⟩
  rw [← hw1]
  have HX1 : Hid (Ext w w1) := by rw [hw1]; exact ((ext_alloc _ _).trans (ext_alloc _ _)).trans (ext_alloc _ _)
  have hb0 : Hid (w1.heap[w.heap.size]? = some (.cells #[.pointer (some ⟨d, 0, none⟩)] 25)) := by
    rw [hw1]; exact ext_heap ((ext_alloc _ _).trans (ext_alloc _ _)) (heap_at _ _ rfl)
  have hb1 : Hid (w1.heap[w.heap.size + 1]? = some (.cells #[.string s] 9)) := by
    rw [hw1]; exact ext_heap (ext_alloc _ _) (heap_at _ _ (by simp))
  have hb2 : Hid (w1.heap[w.heap.size + 2]? = some (.cells #[.string s] 9)) := by
    rw [hw1]; exact heap_at _ _ (by simp)
  clear hw1
  obtain ⟨A, n, c, y, hlt, hl, hVf, hno⟩ := (HSEE.out.ext HX1.out).look HS.out (fun f hf => (HFI.out f hf).shape)
  refine Calls.mono (refused_one (r := x) (H.out.isDisk.ext HX1.out) (names_one HS.out hb2.out) enters_lacks HX.out (lacks_is (HSEE.out.ext HX1.out) (cell_of hb0.out rfl) (cell_of hb1.out rfl) hlt)) ?_
  rintro e w2 ⟨rfl, hx2⟩
  have HX2 : Hid (Ext w w2) := HX1.out.trans hx2
  have HL := Lib.hid (fun w' (hx : Ext w2 w') => hl w' (Ext.trans hx2 hx))
  have HVF := Lib.hid hVf
  have HNO := Lib.hid hno
  clear hx2 hb0 hb1 hb2 hlt hl hVf hno
  by_cases hx0 : x = 0
  · subst hx0
    have HOK := Lib.hid (seekN_ok HX.out)
    obtain ⟨hrow, hn, hy, hbl⟩ := cur_row (w := w2) (fun f hf => (HFI.out f hf).kept (fun k _ hk => HX2.out.block k hk)) HVF.out HNO.out
    subst hn hy
    have HROW := Lib.hid hrow
    have HBLK := Lib.hid hbl
    clear hrow hbl HX
    obtain ⟨L, hL⟩ : ∃ L, L = (cur F s.data.toList).data.length := ⟨_, rfl⟩
    obtain ⟨z, hz⟩ : ∃ z, z = (cur F s.data.toList).lasts := ⟨_, rfl⟩
    rw [← hL, ← hz] at HL HVF
    rw [← hL] at HROW HBLK
    have HLL := Lib.hid hL
    have HZZ := Lib.hid hz
    have hLb : L ≤ 1048576 := by have h1 := tot_mem (there_cur HOK.out.2); have h2 := H.out.tot; have h3 := H.out.hi; omega
    have hzb : z ≤ L := by have := HBLK.out.2.1; omega
    clear hL hz
    have hl := HL.out w2 (Ext.refl _)
    unfold fv at hl
    have hs2 := HSEE.out.ext HX2.out
    have q2 := hs2.c1
    clear hs2
    have hfd := field_lasts A L c z
    go_wp2_with fail
    go_ret2
    exact ⟨by rw [← HZZ.out]; rfl, HX2.out⟩
  · have t1 : (x != 0) = true := by simpa using hx0
    have t2 : (x == 0) = false := by simpa using hx0
    clear hx0
    go_wp2_with fail
    go_ret2
    exact ⟨rfl, HX2.out⟩

set_option maxRecDepth 100000 in
set_option maxHeartbeats 4000000 in
theorem read_any {w : World} {S : Nat → Prop} {B d room : Nat} {F : List Fl} (h : Disk w S B d room F) {s : ByteArray} (hs : s.size ≤ maxLen) {x : Int} (hx : x = seekN F s.data.toList) :
    Calls Try.prog 19 #[.pointer (some ⟨d, 0, none⟩), .string s] w (ReadAns w (match x == 0 with | true => (cur F s.data.toList).data | false => []) x) := by
  obtain ⟨m, D, V, hsee, hfiles, hBm, hap⟩ := h.seen
  have H := Lib.hid h
  have HSEE := Lib.hid hsee
  have HX := Lib.hid hx
  have HS := Lib.hid hs
  have HFI := Lib.hid hfiles
  have HBM := Lib.hid hBm
  have HAP := Lib.hid hap
  clear hsee h hx hs hfiles hBm hap
  go_enter Try.func19, Try.ntmps19
  go_wp2_with fail
  refine (lacks_any _ _ _).mono ?_
  rintro e w0 ⟨rfl, rfl⟩
  go_wp2_with fail
  obtain ⟨w1, hw1⟩ : ∃ w1, w1 = ((w.alloc (.cells #[.pointer (some ⟨d, 0, none⟩)] 25)).alloc (.cells #[.string s] 9)).alloc (.cells #[.string s] 9) := ⟨_, rfl⟩
  rw [← hw1]
  have HX1 : Hid (Ext w w1) := by rw [hw1]; exact ((ext_alloc _ _).trans (ext_alloc _ _)).trans (ext_alloc _ _)
  have hb0 : Hid (w1.heap[w.heap.size]? = some (.cells #[.pointer (some ⟨d, 0, none⟩)] 25)) := by
    rw [hw1]; exact ext_heap ((ext_alloc _ _).trans (ext_alloc _ _)) (heap_at _ _ rfl)
  have hb1 : Hid (w1.heap[w.heap.size + 1]? = some (.cells #[.string s] 9)) := by
    rw [hw1]; exact ext_heap (ext_alloc _ _) (heap_at _ _ (by simp))
  have hb2 : Hid (w1.heap[w.heap.size + 2]? = some (.cells #[.string s] 9)) := by
    rw [hw1]; exact heap_at _ _ (by simp)
  clear hw1
  obtain ⟨A, n, c, y, hlt, hl, hVf, hno⟩ := (HSEE.out.ext HX1.out).look HS.out (fun f hf => (HFI.out f hf).shape)
  refine Calls.mono (refused_one (r := x) (H.out.isDisk.ext HX1.out) (names_one HS.out hb2.out) enters_lacks HX.out (lacks_is (HSEE.out.ext HX1.out) (cell_of hb0.out rfl) (cell_of hb1.out rfl) hlt)) ?_
  rintro e w2 ⟨rfl, hx2⟩
  have HX2 : Hid (Ext w w2) := HX1.out.trans hx2
  have HL := Lib.hid (fun w' (hx : Ext w2 w') => hl w' (Ext.trans hx2 hx))
  have HVF := Lib.hid hVf
  have HNO := Lib.hid hno
  clear hx2 hb0 hb1 hb2 hlt hl hVf hno
  by_cases hx0 : x = 0
  · subst hx0
    have HOK := Lib.hid (seekN_ok HX.out)
    obtain ⟨hrow, hn, hy, hbl⟩ := cur_row (w := w2) (fun f hf => (HFI.out f hf).kept (fun k _ hk => HX2.out.block k hk)) HVF.out HNO.out
    subst hn hy
    have HROW := Lib.hid hrow
    have HBLK := Lib.hid hbl
    clear hrow hbl HX
    obtain ⟨L, hL⟩ : ∃ L, L = (cur F s.data.toList).data.length := ⟨_, rfl⟩
    obtain ⟨z, hz⟩ : ∃ z, z = (cur F s.data.toList).lasts := ⟨_, rfl⟩
    rw [← hL, ← hz] at HL HVF
    rw [← hL] at HROW HBLK
    have HLL := Lib.hid hL
    have HZZ := Lib.hid hz
    have hLb : L ≤ 1048576 := by have h1 := tot_mem (there_cur HOK.out.2); have h2 := H.out.tot; have h3 := H.out.hi; omega
    have hzb : z ≤ L := by have := HBLK.out.2.1; omega
    clear hL hz
    have hl := HL.out w2 (Ext.refl _)
    unfold fv at hl
    have hs2 := HSEE.out.ext HX2.out
    have q2 := hs2.c1
    clear hs2
    have hfd := field_bytes A L c z
    go_wp2_with fail
    obtain ⟨A1, c1, e1, h1, h2, h3⟩ := Sl.of_own HROW.out
    injection e1 with e1 e2 e3
    subst e1 e3
    have hbs : Bs w2 0 w2.heap.size (.slice A L c) (cur F s.data.toList).data := by
      have := HROW.out
      rw [HLL.out] at this ⊢
      exact (Bs.of_own this).wide (Nat.zero_le _) (Nat.le_refl _)
    refine (clone_any _ 0 w2.heap.size _ w2 hbs (Nat.le_refl _) (by have := HLL.out; omega)).mono ?_
    rintro e w3 ⟨v, rfl, hown, hb3⟩
    have HOWN := Lib.hid hown
    have HX3 := Lib.hid (HX2.out.trans hb3)
    clear hown hb3 hbs hl q2 hfd
    go_wp2_with fail
    go_ret2
    exact ⟨v, rfl, ownsRow_base HOWN.out HX2.out.size, HX3.out⟩
  · have t1 : (x != 0) = true := by simpa using hx0
    have t2 : (x == 0) = false := by simpa using hx0
    have HR : Hid (ReadAns w (match x == 0 with | true => (cur F s.data.toList).data | false => []) x (.returned (.tuple #[.slice none 0 0, .int .i64 x])) w2) := by
      rw [t2]; exact ⟨_, rfl, World.ownsRow_nil _ _ _ _, HX2.out⟩
    rw [t2] at HR
    clear hx0
    go_wp2_with fail
    go_ret2
    exact HR.out

set_option maxRecDepth 100000 in
set_option maxHeartbeats 4000000 in
theorem rename_any {w : World} {S : Nat → Prop} {B d room : Nat} {F : List Fl} (h : Disk w S B d room F) {s s2 : ByteArray} (hs : s.size ≤ maxLen) (hs2 : s2.size ≤ maxLen) {x : Int} (hx : x = seek2 F s.data.toList s2.data.toList) :
    Calls Try.prog 28 #[.pointer (some ⟨d, 0, none⟩), .string s, .string s2] w (Did w S B d room (match x == 0 with | true => ren F s.data.toList s2.data.toList | false => F) x) := by
  obtain ⟨m, D, V, hsee, hfiles, hBm, hap⟩ := h.seen
  have H := Lib.hid h
  have HSEE := Lib.hid hsee
  have HX := Lib.hid hx
  have HS := Lib.hid hs
  have HS2 := Lib.hid hs2
  clear hs2
  have HFI := Lib.hid hfiles
  have HBM := Lib.hid hBm
  have HAP := Lib.hid hap
  clear hsee h hx hs hfiles hBm hap
  go_enter Try.func28, Try.ntmps28
  go_wp2_with fail
  refine (lacks_any _ _ _).mono ?_
  rintro e w0 ⟨rfl, rfl⟩
  go_wp2_with fail
  obtain ⟨w1, hw1⟩ : ∃ w1, w1 = ((w.alloc (.cells #[.pointer (some ⟨d, 0, none⟩)] 25)).alloc (.cells #[.string s] 9)).alloc (.cells #[.string s, .string s2] 9) := ⟨_, rfl⟩
  rw [← hw1]
  have HX1 : Hid (Ext w w1) := by rw [hw1]; exact ((ext_alloc _ _).trans (ext_alloc _ _)).trans (ext_alloc _ _)
  have hb0 : Hid (w1.heap[w.heap.size]? = some (.cells #[.pointer (some ⟨d, 0, none⟩)] 25)) := by
    rw [hw1]; exact ext_heap ((ext_alloc _ _).trans (ext_alloc _ _)) (heap_at _ _ rfl)
  have hb1 : Hid (w1.heap[w.heap.size + 1]? = some (.cells #[.string s] 9)) := by
    rw [hw1]; exact ext_heap (ext_alloc _ _) (heap_at _ _ (by simp))
  have hb2 : Hid (w1.heap[w.heap.size + 2]? = some (.cells #[.string s, .string s2] 9)) := by
    rw [hw1]; exact heap_at _ _ (by simp)
  clear hw1
  obtain ⟨A, n, c, y, hlt, hl, hVf, hno⟩ := (HSEE.out.ext HX1.out).look HS.out (fun f hf => (HFI.out f hf).shape)
  refine Calls.mono (refused_two (r := x) (H.out.isDisk.ext HX1.out) (names_two HS.out HS2.out hb2.out) enters_lacks HX.out (lacks_is (HSEE.out.ext HX1.out) (cell_of hb0.out rfl) (cell_of hb1.out rfl) hlt)) ?_
  rintro e w2 ⟨rfl, hx2⟩
  have HX2 : Hid (Ext w w2) := HX1.out.trans hx2
  have HL := Lib.hid (fun w' (hx : Ext w2 w') => hl w' (Ext.trans hx2 hx))
  have HVF := Lib.hid hVf
  have HNO := Lib.hid hno
  clear hx2 hb0 hb1 hb2 hlt hl hVf hno
  by_cases hx0 : x = 0
  · subst hx0
    have HOK := Lib.hid (seek2_ok HX.out)
    obtain ⟨hrow, hn, hy, hbl⟩ := cur_row (w := w2) (fun f hf => (HFI.out f hf).kept (fun k _ hk => HX2.out.block k hk)) HVF.out HNO.out
    subst hn hy
    have HROW := Lib.hid hrow
    have HBLK := Lib.hid hbl
    clear hrow hbl HX
    obtain ⟨L, hL⟩ : ∃ L, L = (cur F s.data.toList).data.length := ⟨_, rfl⟩
    obtain ⟨z, hz⟩ : ∃ z, z = (cur F s.data.toList).lasts := ⟨_, rfl⟩
    rw [← hL, ← hz] at HL HVF
    rw [← hL] at HROW HBLK
    have HLL := Lib.hid hL
    have HZZ := Lib.hid hz
    have hLb : L ≤ 1048576 := by have h1 := tot_mem (there_cur HOK.out.2.2); have h2 := H.out.tot; have h3 := H.out.hi; omega
    have hzb : z ≤ L := by have := HBLK.out.2.1; omega
    clear hL hz
    have hl := HL.out w2 (Ext.refl _)
    unfold fv at hl
    have hs2 := HSEE.out.ext HX2.out
    have q2 := hs2.c1
    clear hs2
    have HX23 := Lib.hid (ext_alloc w2 (.cells #[.slice A L c, .int .i64 (z : Int)] 92))
    obtain ⟨w3, hw3⟩ : ∃ w3, w3 = w2.alloc (.cells #[.slice A L c, .int .i64 (z : Int)] 92) := ⟨_, rfl⟩
    have HBX : Hid (w3.heap[w2.heap.size]? = some (.cells #[.slice A L c, .int .i64 (z : Int)] 92 (0, 0))) := by rw [hw3]; exact heap_at _ _ rfl
    rw [← hw3] at HX23
    have HX3 := Lib.hid (HX2.out.trans HX23.out)
    have hs3 := HSEE.out.ext HX3.out
    have hkey : keyOf Try.prog 9 (.string s) = some (.string s.data.toList) := WideMaps.keyOf_string_mk Try.underlying9 HS.out
    have hkey2 : keyOf Try.prog 9 (.string s2) = some (.string s2.data.toList) := WideMaps.keyOf_string_mk Try.underlying9 HS2.out
    obtain ⟨w4, hrun4, hown4, hg4⟩ := hs3.own.drop lawS Try.underlying77 hkey 0
    have hcnt := H.out.cnt
    obtain ⟨w5, hrun5, hown5, hg5⟩ := World.ownsMap.update (w := w4.drew) hown4 lawS Try.underlying77 (by unfold maxLen; omega) (val := .agg #[.slice A L c, .int .i64 (z : Int)]) hkey2 (rdf_mk _ _ _ _)
    have HOWN4 := Lib.hid hown4
    have HG4 := Lib.hid hg4.grown
    have HOWN5 := Lib.hid hown5
    have HG5 : Hid (w4.grownBy w5 (some m)) := ⟨hg5.os, hg5.tape, hg5.output, hg5.size, hg5.block⟩
    have HC4 : Hid (Chg (fun k => k = m) w w4) := (Chg.of_ext HX3.out).trans_new (Chg.grown (S := fun k => k = m) HG4.out (fun k e => by injection e with e; exact e.symm)) (fun i _ hi => hi)
    have HC5 : Hid (Chg (fun k => k = m) w w5) := HC4.out.trans (Chg.grown (S := fun k => k = m) HG5.out (fun k e => by injection e with e; exact e.symm))
    have hd4 : w4.heap[d]? = w.heap[d]? := HC4.out.block d H.out.isDisk.lt HSEE.out.dm
    have q0 : w4.cell? ⟨d, 1, none⟩ = some (.map (some m)) := cell_of (hd4.trans HSEE.out.block) rfl
    have q3x := hs3.c1
    have hbx4 := (HG4.out.block _ (Array.getElem?_eq_some_iff.1 HBX.out).1 (fun e => by injection e with e; have := HSEE.out.own.lt; have := HX2.out.size; omega)).trans HBX.out
    have q3 : w4.cell? ⟨w2.heap.size, 0, none⟩ = some (.slice A L c) := cell_of hbx4 rfl
    have q4 : w4.cell? ⟨w2.heap.size, 1, none⟩ = some (.int .i64 (z : Int)) := cell_of hbx4 rfl
    have HD4 := Lib.hid hd4
    have HKEY2 := Lib.hid hkey2
    rw [hw3] at hrun4 q3x
    clear hs3 hkey hkey2 hown4 hg4 hcnt hown5 hg5 hd4 hbx4 hw3
    go_wp2_with fail
    go_region
    clear q0 q3 q4 q2 q3x hl hrun4 hrun5
    go_wp2_with fail
    go_ret
    have hcon := HSEE.out.con
    have hcm := there_cur HOK.out.2.2
    have hcn := cur_name F s.data.toList
    have hsee4 : Seen w4 d m S (del F s.data.toList) V (D.del (.string s.data.toList)) room :=
      ⟨HD4.out.trans HSEE.out.block, by have := own_exact HOWN4.out; rw [(hcon.drop s.data.toList).size] at this; exact this, hcon.drop _, HSEE.out.mine⟩
    have hkeep : ∀ g ∈ F, ∀ b, blk (V g.name) = some b → b ≠ m := fun g hg b hb e => by
      obtain ⟨h1, _, cc, h3⟩ := (HFI.out g hg).blk_lt hb
      obtain ⟨es, clock, hm, _⟩ := HSEE.out.own
      rw [e, hm] at h3; cases h3
    have hdisk4 : Disk w4 S B d room (del F s.data.toList) := H.out.dropped HSEE.out HBM.out HAP.out (fun f hf => (HFI.out f hf).keep1 (fun b hb => HC4.out.block b ((HFI.out f hf).blk_lt hb).1 (hkeep f hf b hb)) (fun _ hk => hk)) _ HD4.out HOWN4.out
    have hVn := HVF.out _ hcm hcn
    have hfile := HFI.out _ hcm
    have hkc := hkeep _ hcm
    rw [hcn, ] at hVn hfile hkc
    have hperm := del_perm hcon.nodup hcm
    rw [hcn] at hperm
    have ht1 := tot_perm hperm
    have ht2 := hperm.length_eq
    rw [tot_cons] at ht1
    rw [List.length_cons] at ht2
    have ht3 := tot_upd (del_nodup (n := s.data.toList) hcon.nodup) ⟨s2.data.toList, (cur F s.data.toList).data, (cur F s.data.toList).lasts⟩
    have ht4 := len_upd (del_nodup (n := s.data.toList) hcon.nodup) ⟨s2.data.toList, (cur F s.data.toList).data, (cur F s.data.toList).lasts⟩
    have hH1 := H.out.tot
    have hH2 := H.out.cnt
    refine ⟨rfl, S, hdisk4.updated hsee4 HBM.out (fun f hf g hg => HAP.out f (mem_del.1 hf).1 g (mem_del.1 hg).1) ⟨s2.data.toList, (cur F s.data.toList).data, (cur F s.data.toList).lasts⟩ _ ?_ HOWN5.out (lawS.key HKEY2.out) ?_ ?_ ?_ (fun _ hk => hk) ?_ ?_ HOK.out.2.1, ?_, fun _ hk => .inl hk⟩
    · exact HG5.out.block d (Nat.lt_of_lt_of_le H.out.isDisk.lt HC4.out.size) (fun e => HSEE.out.dm (by injection e))
    · refine ⟨⟨.slice A L c, by rw [HZZ.out]; rfl, ?_, HBLK.out.2.2⟩, by have := HBLK.out.2.1; rw [HLL.out] at this; exact this, HBLK.out.1⟩
      rw [← HLL.out]
      refine row_kept HROW.out (fun g hg => ?_)
      have h1 : blk (V s.data.toList) = some g := by rw [hVn]; exact hg
      obtain ⟨h2, _, _⟩ := hfile.blk_lt h1
      exact (HC5.out.block g h2 (hkc g h1)).trans (HX2.out.block g h2).symm
    · exact fun g hg _ => (HFI.out g (mem_del.1 hg).1).keep1 (fun b hb => HC5.out.block b ((HFI.out g (mem_del.1 hg).1).blk_lt hb).1 (hkeep g (mem_del.1 hg).1 b hb)) (fun _ hk => hk)
    · intro g hg _ b hb
      refine HAP.out _ hcm g (mem_del.1 hg).1 (fun e => (mem_del.1 hg).2 (e.symm.trans hcn)) b ?_
      rw [hcn, hVn]; exact hb
    · simp only at ht3; omega
    · rw [ht4]; split <;> omega
    · exact HC5.out.mono (fun k _ e => e ▸ HSEE.out.mine.2)
  · have t1 : (x != 0) = true := by simpa using hx0
    have t2 : (x == 0) = false := by simpa using hx0
    clear hx0
    go_wp2_with fail
    go_ret
    exact Did.same H.out HX2.out
end Go.Proofs.Ytenhfphgobalfaa

/- Going over a disk's files by rising names. -/
namespace Go.Proofs.Ytenhfphgobalfaa
open Go.RowKit Go.Maps Go.Sort Go.Shelf

/-- The names, rising. -/
def snames (F : List Fl) : List (List UInt8) := (F.map Fl.name).mergeSort (fun x y => decide (x ≤ y))
theorem snames_length (F : List Fl) : (snames F).length = F.length := by simp [snames]
theorem snames_mem {F : List Fl} {n : List UInt8} : n ∈ snames F ↔ ∃ f ∈ F, f.name = n := by simp [snames]

theorem keys_perm {w : World} {m n : Nat} {D : DataW Value} {F : List Fl} {V : List UInt8 → Value} (ho : w.ownsMap Try.prog 9 rdf m n D) (hC : Con D F V) : (F.map Fl.name).Perm (strKeys D) :=
  Collected.perm (left := fun _ => false) ⟨hC.nodup, fun x => by rw [hC.has]; simp⟩ ho lawS Try.underlying9 (fun _ => rfl)

/-- each makes a function over the disk. -/
theorem each_any (d : Option Addr) (w : World) : Calls Try.prog 58 #[.pointer d] w fun e w' =>
    e = .returned (.func (.func 65) #[] #[.pointer (some ⟨w.heap.size, 0, none⟩)]) ∧ w' = w.alloc (.cells #[.pointer d] 25) := by
  go_enter Try.func58, Try.ntmps58
  go_wp2
  go_ret
  exact ⟨rfl, rfl⟩

theorem row_cell {w : World} {B n c : Nat} {A : Option Addr} {t : TypeId} {xs : List Value} (h : w.ownsRow B t 1 (.slice A n c) n xs) {k : Nat} (hk : k < xs.length) : ∃ b, ∃ _ : Unit, A = some ⟨b, 0, none⟩ ∧ w.cell? ⟨b, k, none⟩ = some xs[k] := by
  rcases h.2 with ⟨e, h0⟩ | ⟨g, cap, cur, e, _, hh, hn, _, hc, ht⟩
  · have := h.1; omega
  · injection e with e1 e2 e3
    subst e1 e3
    refine ⟨g, (), rfl, ?_⟩
    rw [h.cellAt k (by have := h.1; omega), List.getElem?_eq_getElem hk]

set_option maxRecDepth 100000 in
set_option maxHeartbeats 4000000 in
theorem each_iter {w : World} {d m room bd : Nat} {S : Nat → Prop} {F : List Fl} {V : List UInt8 → Value} {D : DataW Value} (h : Seen w d m S F V D room) (hlo : 1024 ≤ room) (hcnt : F.length ≤ 128)
    (hsz : ∀ f ∈ F, f.name.length ≤ maxLen) (hbd : w.cell? ⟨bd, 0, none⟩ = some (.pointer (some ⟨d, 0, none⟩))) :
    Iter Try.prog 65 #[.pointer (some ⟨bd, 0, none⟩)] F.length (fun x : List UInt8 × Value => #[encStr x.1, x.2]) (fun _ k x _ => (snames F)[k]? = some x.1 ∧ x.2 = V x.1) (fun _ => True) w := by
  intro mm l J Jx W hx _ hJ hJx h0 hY
  have HS := Lib.hid (h.ext hx)
  have HJ := Lib.hid hJ
  have HJX := Lib.hid hJx
  have H0 := Lib.hid h0
  have HY := Lib.hid hY
  have HCNT := Lib.hid hcnt
  have HSZ := Lib.hid hsz
  have c1 := ext_cell hx hbd
  have c2 := (h.ext hx).c1
  have HN := Lib.hid (none_no (⟨room, hlo, (h.ext hx).c0⟩ : IsDisk W d))
  clear h hlo hbd hJ hJx h0 hY hcnt hx hsz
  have hf1 : Fence.wide.fn 49 := trivial
  have hf2 : Fence.wide.fn 66 := trivial
  have hf3 : Fence.wide.fn 68 := trivial
  have hf4 : Fence.wide.fn 67 := trivial
  refine (callsIn_wide (n := 6)).1 ?_
  refine callsIn_of_wp Try.func65 rfl trivial ?_ rfl
  simp only [Try.ntmps65, List.size_toArray, List.length_cons, List.length_nil, Nat.reduceAdd, Nat.reduceSub, Array.replicate_succ, Array.replicate_zero, List.push_toArray, List.append_toArray, List.nil_append, List.cons_append]
  gi_wp2_with (first
    | (gi_at_call 49; refine (callsIn_wide.2 HN.out).mono ?_; rintro e w' ⟨rfl, rfl⟩)
    | (gi_at_call 66; refine (callsIn_wide.2 (mapsClone 9 rdf m F.length D W HS.out.own)).mono ?_; rintro e w1 ⟨rfl, ho1, ho2, hb1⟩; have HO1 := Lib.hid ho1; have HB1 := Lib.hid hb1; clear ho1 ho2 hb1)
    | (gi_at_call 68; refine (mapsKeys _ _).mono ?_; rintro e w2 ⟨rfl, rfl⟩)
    | (gi_at_call 67; refine (sortedKeys W.heap.size F.length D rdf w1 HO1.out (by rw [HS.out.con.size]; have := HCNT.out; unfold maxLen; omega) (by rw [HS.out.con.size]; have := HCNT.out; omega)).mono ?_; rintro e w3 ⟨v, ss, rfl, hS, hrow, _, hb⟩; have HSS := Lib.hid hS; have HROW := Lib.hid hrow; have HB3 := Lib.hid hb; obtain ⟨A, c, rfl, q1, q2, q3, q4⟩ := Sl.of_own hrow; clear hS hrow hb q1 q2 q3 q4))
  have hsn : ss.mergeSort (fun x y => decide (x ≤ y)) = snames F := Go.mergeSort_of_perm (HSS.out.trans (keys_perm HO1.out HS.out.con).symm)
  have hln : ss.length = F.length := by rw [← snames_length F, ← hsn]; simp
  rw [hsn] at HROW
  rw [hln] at HROW ⊢
  have HB13 : Hid (Ext w1 w3) := (ext_alloc _ _).trans HB3.out
  have HX3 : Hid (Ext W w3) := Ext.trans HB1.out HB13.out
  have HLAST := Lib.hid (HROW.out.lt)
  have HO3 := Lib.hid (map_kept HO1.out (HB13.out.block _ HO1.out.lt))
  have HSN : Hid (∀ x ∈ snames F, x.length ≤ maxLen) := fun x hx => by obtain ⟨f, hf, rfl⟩ := snames_mem.1 hx; exact HSZ.out f hf
  have HJ0 := Lib.hid (H0.out w3 HX3.out)
  have hlen : (F.length : Int) ≤ 128 := by have := HCNT.out; omega
  clear c1 c2 hsn hln HB3
  gi_loopw [5, 17] (fun _ i wr => ∃ k : Nat, k ≤ F.length ∧ i = .int .i64 (k : Int) ∧ Hid (J w3.heap.size k wr) ∧ Hid (Step W.heap.size w3.heap.size w3 wr))
    (fun _ i _ => F.length - (intOf i).toNat)
  case atStart => exact ⟨0, Nat.zero_le _, rfl, HJ0, Step.refl _ _ _⟩
  case round =>
    obtain ⟨k, hk, rfl, HJK, HST⟩ := hrel
    by_cases hlt : k < F.length
    · have hks : k < (snames F).length := by rw [snames_length]; exact hlt
      obtain ⟨x, hx⟩ : ∃ x, x = (snames F)[k] := ⟨_, rfl⟩
      obtain ⟨bA, g, rfl, hcell⟩ := row_cell HROW.out (k := k) (by simpa using hks)
      rw [List.getElem_map, ← hx] at hcell
      have hge := HLAST.out bA rfl
      have hcell' : wr.cell? ⟨bA, k, none⟩ = some (encStr x) := (World.cell?_of_block (a := ⟨bA, k, none⟩) (HST.out.stay bA (by have := HB1.out.size; simp at hge; omega) hge.2)).trans hcell
      obtain ⟨v, hv⟩ : ∃ v, v = V x := ⟨_, rfl⟩
      have hmem : x ∈ snames F := by rw [hx]; exact List.getElem_mem hks
      obtain ⟨f, hf, hfx⟩ := snames_mem.1 hmem
      have hxl := HSN.out x hmem
      have hlook := (look_yes (w := wr) (map_kept HO3.out (HST.out.stay W.heap.size (Nat.le_refl _) (Nat.lt_of_lt_of_le HO1.out.lt HB13.out.size))) HS.out.con hf (s := ⟨x.toArray⟩) (by simpa [ByteArray.size] using hxl) (by simpa using hfx)).1
      rw [hfx, ← hv] at hlook
      have HRD := HY.out w3.heap.size k (x, v) wr HX3.out.size HST.out.size HJK.out hlt ⟨by rw [List.getElem?_eq_getElem hks, hx], hv⟩
      obtain ⟨fn, tmps, assign, body, hy, hR⟩ := HRD
      dsimp only at hy
      unfold encStr at hy hcell'
      have HR := Lib.hid (roundIn_any (m' := 5) hR)
      clear hR hge hcell hv hmem hfx hxl hx hks hf
      gi_wp2
      clear hlook hcell' hy
      refine RoundIn.mono HR.out ?_
      rintro e W3 ⟨hst, (⟨rfl, hj⟩ | ⟨rfl, hjx⟩)⟩
      · have HST3 := Lib.hid (HST.out.trans hst)
        have HJ3 := Lib.hid hj
        clear hst hj
        gi_wp2
        go_roundw
        case rel => exact ⟨k + 1, by omega, by go_num, HJ3, HST3⟩
        case measure => simp [intOf]; omega
      · have HX := Lib.hid hjx
        clear hst hjx
        gi_wp2
        refine bodyPost_ret (results_none rfl _ _ _) rfl ?_
        exact ⟨⟨_, rfl⟩, .inr HX.out⟩
    · obtain rfl : k = F.length := by omega
      gi_wp2
      go_end0
      exact ⟨⟨_, rfl⟩, .inl ⟨_, HX3.out.size, HJK.out⟩⟩
end Go.Proofs.Ytenhfphgobalfaa

/- The names of all files. -/
namespace Go.Proofs.Ytenhfphgobalfaa
open Go.RowKit Go.Maps Go.Sort Go.Shelf
attribute [local go_sem] Oper.semAt_some

theorem t9info : (Try.prog.info? 9).map (fun i => (i.zero, i.size, i.bytes)) = some (some (.string ⟨#[]⟩), 1, 16) := by kernel_rfl
theorem enters_each : ∀ args w, (callFunc 65 args).run Try.prog w = .ok (.enter 65 args) w := enters_of Try.func65 (by kernel_rfl) rfl

/-- Names that are answered. -/
def NamesAns (w : World) (F : List Fl) (e : Ending) (w' : World) : Prop := ∃ v, e = .returned v ∧ w'.ownsRow w.heap.size 9 1 v F.length ((snames F).map encStr) ∧ Below w.heap.size w w'

/-- Between two rounds. -/
structure NamesI (w : World) (bl : Nat) (F : List Fl) (n₁ k : Nat) (A : World) : Prop where
  ex : ∃ v, Boxed A bl 73 v ∧ A.ownsRow n₁ 9 1 v k (((snames F).take k).map encStr)
  below : Below w.heap.size w A
  le : n₁ ≤ A.heap.size

theorem row_chg {A A' : World} {S : Nat → Prop} {B n : Nat} {t : TypeId} {v : Value} {xs : List Value} (h : A.ownsRow B t 1 v n xs) (hc : Chg S A A') (hS : ∀ k, B ≤ k → ¬ S k) : A'.ownsRow B t 1 v n xs :=
  row_kept h fun g hg => hc.block g (row_lt h g hg).2 (hS g (row_lt h g hg).1)
theorem boxed_chg {A A' : World} {S : Nat → Prop} {b : Nat} {t : TypeId} {v : Value} (h : Boxed A b t v) (hc : Chg S A A') (hS : ¬ S b) : Boxed A' b t v := (hc.block b h.lt hS).trans h

theorem NamesI.chg {w W : World} {bl n₁ k : Nat} {F : List Fl} {A A' : World} (h : NamesI w bl F n₁ k A) (hbl : bl < W.heap.size) (hw : w.heap.size ≤ W.heap.size) (hc : Chg (Btw W.heap.size n₁) A A') : NamesI w bl F n₁ k A' := by
  obtain ⟨⟨v, h1, h2⟩, h3, h4⟩ := h
  exact ⟨⟨v, boxed_chg h1 hc (fun hb => by have := hb.1; omega), row_chg h2 hc (fun k hk hb => by have := hb.2; omega)⟩, h3.trans (hc.below (fun k hk => Nat.le_trans hw hk.1) h3.size), Nat.le_trans h4 hc.size⟩

theorem row_any {w : World} {B n : Nat} {t : TypeId} {v : Value} {xs : List Value} (hr : w.ownsRow B t 1 v n xs) {k : Nat} (hk : v.ownBlock = some k) : ∃ cur, w.heap[k]? = some (.cells cur t (0, 0)) := by
  rcases hr.2 with ⟨rfl, _⟩ | ⟨g, cap, cur, rfl, _, hh, _⟩
  · cases hk
  · injection hk with hk
    subst hk
    exact ⟨cur, hh⟩
theorem names_box {A w5 : World} {bl n₁ k : Nat} {o : Obj} {v u : Value} {xs : List Value} (h : Boxed A bl 73 u) (hr : A.ownsRow n₁ 9 1 v k xs) (hg : (A.alloc o).grownBy w5 v.ownBlock) (hlt : bl < n₁) : Boxed w5 bl 73 u :=
  (h.alloc o).kept hg (fun e => by have := (row_lt hr bl e.symm).1; omega)

set_option maxRecDepth 100000 in
set_option maxHeartbeats 4000000 in
theorem names_any {w : World} {S : Nat → Prop} {B d room : Nat} {F : List Fl} (h : Disk w S B d room F) : Calls Try.prog 36 #[.pointer (some ⟨d, 0, none⟩)] w (NamesAns w F) := by
  obtain ⟨m, D, V, hsee, hfiles, hBm, hap⟩ := h.seen
  have HSEE := Lib.hid hsee
  have HSZ : Hid (∀ f ∈ F, f.name.length ≤ maxLen) := fun f hf => by
    have := h.names f hf; simp [good] at this; unfold maxLen; omega
  have HLO := Lib.hid h.lo
  have HCNT := Lib.hid h.cnt
  clear hsee hfiles hBm hap h
  obtain ⟨i0, hi0, hz0, hz1, hz2⟩ := info_parts t9info
  have HI0 := Lib.hid hi0
  clear hi0
  have hf1 : Fence.wide.fn 58 := trivial
  refine (callsIn_wide (n := 6)).1 ?_
  refine callsIn_of_wp_marks Try.func36 rfl trivial ?_
  simp only [Try.ntmps36, List.size_toArray, List.length_cons, List.length_nil, Nat.reduceAdd, Nat.reduceSub, Array.replicate_succ, Array.replicate_zero, List.push_toArray, List.append_toArray, List.nil_append, List.cons_append]
  gi_wp2_with (gi_at_call 58; refine (callsIn_wide.2 (each_any _ _)).mono ?_; rintro e w' ⟨rfl, rfl⟩)
  obtain ⟨w1, hw1⟩ : ∃ w1, w1 = (w.alloc (.cells #[.slice none 0 0] 73)).alloc (.cells #[.pointer (some ⟨d, 0, none⟩)] 25) := ⟨_, rfl⟩
  rw [← hw1]
  have HX1 : Hid (Ext w w1) := by rw [hw1]; exact (ext_alloc _ _).trans (ext_alloc _ _)
  have HZ1 : Hid (w1.heap.size = w.heap.size + 2) := by rw [hw1]; simp [Hid]
  have HB0 : Hid (Boxed w1 w.heap.size 73 (.slice none 0 0)) := by rw [hw1]; exact ext_heap (ext_alloc _ _) (heap_at _ _ rfl)
  have HB1 : Hid (w1.heap[w.heap.size + 1]? = some (.cells #[.pointer (some ⟨d, 0, none⟩)] 25)) := by rw [hw1]; exact heap_at _ _ (by simp)
  clear hw1
  refine wpIn_over rfl enters_each (each_iter (HSEE.out.ext HX1.out) HLO.out HCNT.out HSZ.out (cell_of HB1.out rfl)) (fun _ => rfl) (NamesI w w.heap.size F) (fun _ _ => False) (fun _ _ _ _ => trivial) ?hI (fun _ _ _ h _ => h) ?h0 ?round ?done (fun _ _ _ _ h _ => h.elim)
  case hI => intro n₁ k A A' _ hi hc; exact hi.chg (by have := HZ1.out; omega) HX1.out.size hc
  case h0 =>
    intro A hx
    exact ⟨⟨_, ext_heap hx HB0.out, by simpa using World.ownsRow_nil A A.heap.size 9 1⟩, Ext.trans HX1.out hx, Nat.le_refl _⟩
  case round =>
    rintro l n₁ k ⟨x, vv⟩ A hl1 hl2 hn hnA hi hk ⟨hok, hvv⟩
    have hok' : (snames F)[k]? = some x := hok
    have HOKX : Hid ((snames F).take (k + 1) = (snames F).take k ++ [x]) := by unfold Hid; rw [List.take_add_one, hok']; rfl
    have HI := Lib.hid hi
    have HN := Lib.hid hn
    have HL := Lib.hid (And.intro hl1 hl2)
    have HK := Lib.hid hk
    clear hok hok' hvv hi hn hl1 hl2 hk
    gi_wp2
    refine ⟨Step.refl _ _ _, fun A2 hc => ?_⟩
    have hi2 := HI.out.chg (W := w1) (by have := HZ1.out; omega) HX1.out.size (hc.mono fun i _ e => ⟨by have := HL.out.1; omega, by have := HL.out.2; omega⟩)
    obtain ⟨⟨v, hbox, hrow⟩, hbel, hle⟩ := hi2
    obtain ⟨A0, c0, rfl, h1, h2, h3, h4⟩ := Sl.of_own hrow
    have HBOX := Lib.hid hbox
    have HROW := Lib.hid hrow
    have HBEL := Lib.hid hbel
    have q0 := hbox.cell
    have HCN := HCNT.out
    have HKK := HK.out
    clear h1 h2 h3 h4 hc hbox hbel
    gi_wp2_with (gi_at_builtin; refine wpListIn_append_own _ rfl _ _ 73 rfl n₁ 9 i0 (.string ⟨#[]⟩) 1 16 Try.underlying73 HI0.out hz0 hz1 hz2 rfl (by decide) _ _ _ rfl (HROW.out.alloc _) ⟨A2.heap.size, 0, none⟩ 1 1 [encStr x] rfl rfl (cell_one_new _ _ _) (by simp [encStr, Value.oneCell']) (by unfold maxLen; omega) (by omega) (by simp; omega) ?_; intro v' w5 hown' hgrow _; obtain ⟨g', cap', rfl⟩ := ownsRow_succ hown'; have HOWN5 := Lib.hid hown'; have HG5 := Lib.hid hgrow; have q1 := names_box HBOX.out HROW.out hgrow (by have := HZ1.out; have := HN.out; omega); have q2 := q1.cell; have q3 := q1.frozen; clear hown' hgrow)
    have hn1 : w1.heap.size + 2 ≤ n₁ := HN.out
    have hz1 := HZ1.out
    have hrl := row_lt HROW.out
    have hc5 : Chg (fun i => n₁ ≤ i ∨ i = w.heap.size) A2 w5 := (Chg.alloc (S := fun i => n₁ ≤ i ∨ i = w.heap.size) A2 (.cells #[encStr x] 9)).trans (Chg.grown HG5.out (fun i e => .inl (hrl i e).1))
    have hc6 := hc5.trans (Chg.setCell (S := fun i => n₁ ≤ i ∨ i = w.heap.size) w5 ⟨w.heap.size, 0, none⟩ (.slice (some ⟨g', 0, none⟩) (k + 1) cap') (.inr rfl))
    refine ⟨Step.of_chg hc6 hle (fun i h1 h2 hs => by rcases hs with hs | hs <;> omega), ⟨⟨_, q1.set _, ?_⟩, ?_, Nat.le_trans hle hc6.size⟩⟩
    · rw [HOKX.out, List.map_append]
      exact row_kept HOWN5.out (fun g hg => Below.heap_setCell _ _ _ _ (fun e => by have e : g = w.heap.size := e; have := (row_lt HOWN5.out g hg).1; omega))
    · exact HBEL.out.trans (hc6.below (fun i hi => by rcases hi with hi | hi <;> omega) HBEL.out.size)
  case done =>
    rintro D' n₁ W hDl _ hn ⟨⟨v, hbox, hrow⟩, hbel, hle⟩ hD
    have HDL := Lib.hid hDl
    obtain ⟨A0, c0, rfl, h1, h2, h3, h4⟩ := Sl.of_own hrow
    have q0 := hbox.cell
    have HROW := Lib.hid hrow
    have HBEL := Lib.hid hbel
    have HN := Lib.hid hn
    have HDD := Lib.hid hD
    clear h1 h2 h3 h4 hbox hbel hrow hle hn hD hDl
    gi_wp2
    refine ⟨by simp, .inl ⟨_, _, rfl, run_takeDeferred HDD.out, ?_⟩⟩
    refine ⟨_, results_tmp rfl _ _ _, ⟨_, rfl, ?_, ?_⟩⟩
    · have h := HROW.out
      rw [List.take_of_length_le (by rw [snames_length]; exact Nat.le_refl _)] at h
      have hx := HX1.out.size
      have hn := HN.out
      exact ownsRow_base (row_kept h (fun g hg => World.putObj_heap_other (fun e => by subst e; obtain ⟨c, hc⟩ := row_any h hg; rw [HDD.out] at hc; cases hc))) (by omega)
    · exact HBEL.out.trans ((putObj_chg W D' _).below (fun i e => by have := HDL.out; have := HX1.out.size; omega) HBEL.out.size)
end Go.Proofs.Ytenhfphgobalfaa

/- Another disk, made file by file. -/
namespace Go.Proofs.Ytenhfphgobalfaa
open Go.RowKit Go.Maps Go.Sort Go.Shelf
attribute [local go_sem] Oper.semAt_some

/-- The files that a map has. -/
structure Files (w : World) (S : Nat → Prop) (B m : Nat) (F : List Fl) : Prop where
  ex : ∃ D V, w.ownsMap Try.prog 9 rdf m F.length D ∧ Con D F V ∧ (∀ f ∈ F, FileAt w S B f (V f.name)) ∧ (∀ f ∈ F, ∀ g ∈ F, f.name ≠ g.name → ∀ b, blk (V f.name) = some b → blk (V g.name) ≠ some b)

theorem Files.chg {w w' : World} {S T : Nat → Prop} {B m : Nat} {F : List Fl} (h : Files w S B m F) (hc : Chg T w w') (hm : ¬ T m) (hS : ∀ k, S k → ¬ T k) : Files w' S B m F := by
  obtain ⟨D, V, h1, h2, h3, h4⟩ := h
  exact ⟨D, V, map_kept h1 (hc.block m h1.lt hm), h2, fun f hf => (h3 f hf).kept (fun k hk hl => hc.block k hl (hS k hk)), h4⟩
theorem Files.none (w : World) (S : Nat → Prop) (B m : Nat) (h : w.ownsMap Try.prog 9 rdf m 0 (.map [])) : Files w S B m [] :=
  ⟨.map [], fun _ => undef, h, ⟨tidy_empty, rfl, fun n => by simp [Maps.has], (fun f hf => (by simp at hf)), by simp⟩, (fun f hf => (by simp at hf)), (fun f hf => (by simp at hf))⟩

/-- A file more, its row new; w: a world ahead of the row. -/
theorem Files.put {w w5 w6 : World} {S : Nat → Prop} {B m : Nat} {F : List Fl} (hS5 : ∀ (k : Nat) (cc : Array Value), w.heap[k]? = some (Obj.cells cc 5 (0, 0)) → w5.heap[k]? = w.heap[k]?)
    (f : Fl) (u : Value) (hnew : there F f.name = false) (hk : WideAt.IsKeyLit (.string f.name)) (hrow : w5.ownsRow B 5 1 u f.data.length (bv f.data)) (hu : ∀ g, u.ownBlock = some g → S g ∧ w.heap.size ≤ g) (hl : f.lasts ≤ f.data.length) (hb : ∀ b ∈ f.data, b < 256)
    (D V) (hD : w5.ownsMap Try.prog 9 rdf m F.length D) (hV : ∀ f ∈ F, FileAt w S B f (V f.name)) (hC : Con D F V) (hap : ∀ f ∈ F, ∀ g ∈ F, f.name ≠ g.name → ∀ b, blk (V f.name) = some b → blk (V g.name) ≠ some b)
    (h6 : w5.grownBy w6 (some m)) {n : Nat} (ho : w6.ownsMap Try.prog 9 rdf m n (D.put (.string f.name) (.held (.agg #[u, .int .i64 (f.lasts : Int)])))) : Files w6 S B m (f :: F) := by
  have hup : upd F f = f :: F := by unfold upd; rw [del_none (there_no hnew)]
  have hcon := hC.put f (.agg #[u, .int .i64 (f.lasts : Int)]) hk
  rw [hup] at hcon
  have hne : ∀ g ∈ F, g.name ≠ f.name := fun g hg e => there_no hnew ⟨g, hg, e⟩
  have hmne : ∀ {k : Nat} {t : TypeId} {cc : Array Value} {fz}, w5.heap[k]? = some (.cells cc t fz) → k ≠ m := fun hk e => by
    obtain ⟨es, clock, hm, _⟩ := hD
    rw [e, hm] at hk; cases hk
  have hv : ∀ g ∈ F, vset V f.name (.agg #[u, .int .i64 (f.lasts : Int)]) g.name = V g.name := fun g hg => by simp [vset, hne g hg]
  have hvf : vset V f.name (.agg #[u, .int .i64 (f.lasts : Int)]) f.name = .agg #[u, .int .i64 (f.lasts : Int)] := by simp [vset]
  refine ⟨_, _, ?_, hcon, fun g hg => ?_, fun x hx y hy hxy b hbx => ?_⟩
  · have := own_exact ho
    rw [hcon.size] at this
    exact this
  · rcases List.mem_cons.1 hg with rfl | hg
    · rw [hvf]
      refine ⟨⟨u, rfl, row_kept hrow (fun k hk => h6.block k (row_lt hrow k hk).2 (fun e => ?_)), fun g hg => (hu g hg).1⟩, hl, hb⟩
      injection e with e
      obtain ⟨cc, hcc⟩ := row_not hrow hk
      exact hmne hcc e
    · rw [hv g hg]
      refine (hV g hg).keep1 (fun b hb => ?_) (fun _ hk => hk)
      obtain ⟨h1, h2, cc, h3⟩ := (hV g hg).blk_lt hb
      have h5 := (hS5 b cc h3).trans h3
      exact (h6.block b (Array.getElem?_eq_some_iff.1 h5).1 (fun e => by injection e with e; exact hmne h5 e)).trans (hS5 b cc h3)
  · rcases List.mem_cons.1 hx with ex | hx' <;> rcases List.mem_cons.1 hy with ey | hy'
    · exact absurd (by rw [ex, ey]) hxy
    · rw [ex, hvf] at hbx
      rw [hv y hy']
      intro e
      have := ((hV y hy').blk_lt e).1
      have := (hu b hbx).2
      omega
    · rw [hv x hx'] at hbx
      rw [ey, hvf]
      intro e
      have := ((hV x hx').blk_lt hbx).1
      have := (hu b e).2
      omega
    · rw [hv x hx'] at hbx
      rw [hv y hy']
      exact hap x hx' y hy' hxy b hbx

theorem Files.perm {w : World} {S : Nat → Prop} {B m : Nat} {F F' : List Fl} (h : Files w S B m F) (p : F.Perm F') : Files w S B m F' := by
  obtain ⟨D, V, h1, h2, h3, h4⟩ := h
  exact ⟨D, V, by rw [← p.length_eq]; exact h1, h2.perm p, fun x hx => h3 x (p.mem_iff.2 hx), fun x hx y hy => h4 x (p.mem_iff.2 hx) y (p.mem_iff.2 hy)⟩
theorem Files.wide {w : World} {S S' : Nat → Prop} {B B' m : Nat} {F : List Fl} (h : Files w S B m F) (hS : ∀ k, S k → S' k) (hB : B' ≤ B) : Files w S' B' m F := by
  obtain ⟨D, V, h1, h2, h3, h4⟩ := h
  exact ⟨D, V, h1, h2, fun f hf => by obtain ⟨⟨u, q1, q2, q3⟩, q4, q5⟩ := h3 f hf; exact ⟨⟨u, q1, ownsRow_base q2 hB, fun g hg => hS g (q3 g hg)⟩, q4, q5⟩, h4⟩

/-- The files that have been made so far. -/
def acc (G : Fl → Fl) (F : List Fl) (k : Nat) : List Fl := ((snames F).take k).map fun n => G (cur F n)
theorem snames_nodup {F : List Fl} (h : (F.map Fl.name).Nodup) : (snames F).Nodup := (List.mergeSort_perm _ _).nodup_iff.2 h
theorem acc_new {D : DataW Value} {V : List UInt8 → Value} {G : Fl → Fl} {F : List Fl} (hC : Con D F V) (hG : ∀ f ∈ F, (G f).name = f.name ∧ (G f).lasts ≤ (G f).data.length ∧ (G f).data.length ≤ f.data.length ∧ ∀ b ∈ (G f).data, b < 256)
    {k : Nat} {x n : List UInt8} (hx : (snames F)[k]? = some x) (hn : n = x) : there (acc G F k) n = false := by
  subst hn
  unfold there acc
  rw [List.any_eq_false]
  intro g hg
  obtain ⟨y, hy, rfl⟩ := List.mem_map.1 hg
  have hym : y ∈ snames F := List.mem_of_mem_take hy
  obtain ⟨f, hf, rfl⟩ := snames_mem.1 hym
  rw [cur_mem hC.nodup hf, (hG f hf).1]
  intro e
  have e : f.name = n := by simpa using e
  obtain ⟨i, hi, hiy⟩ := List.mem_take_iff_getElem.1 hy
  obtain ⟨hk, hkx⟩ := List.getElem?_eq_some_iff.1 hx
  exact List.pairwise_iff_getElem.1 (snames_nodup hC.nodup) i k (by omega) hk (by omega) (hiy.trans (e.trans hkx.symm))
theorem acc_all {G : Fl → Fl} {F : List Fl} (h : (F.map Fl.name).Nodup) : (acc G F F.length).Perm (F.map G) := by
  unfold acc
  rw [List.take_of_length_le (by rw [snames_length]; exact Nat.le_refl _)]
  have h1 : ((F.map Fl.name).map fun n => G (cur F n)) = F.map G := by
    rw [List.map_map]
    exact List.map_congr_left fun f hf => by simp [cur_mem h hf]
  rw [← h1]
  exact (List.mergeSort_perm _ _).map _

theorem tot_map (F : List Fl) (G : Fl → Fl) (h : ∀ f ∈ F, (G f).data.length ≤ f.data.length) : tot (F.map G) ≤ tot F := by
  induction F with
  | nil => exact Nat.le_refl _
  | cons f F ih =>
    have h1 := h f (by simp)
    have h2 := ih fun g hg => h g (by simp [hg])
    rw [List.map_cons, tot_cons, tot_cons]
    omega

/-- What leaves of a file answers. -/
def LeftAns (hi : Nat) (f' : Fl) (A : World) (e : Ending) (A' : World) : Prop := ∃ A1 c1, e = .returned (.agg #[.slice A1 f'.data.length c1, .int .i64 (f'.lasts : Int)]) ∧ Below A.heap.size A A' ∧ Bs A' 0 hi (.slice A1 f'.data.length c1) f'.data

/-- Between two rounds. -/
structure OtherI (w : World) (b0 m' b2 : Nat) (lf : Value) (G : Fl → Fl) (F : List Fl) (n₁ k : Nat) (A : World) : Prop where
  files : Files A (Frm n₁) n₁ m' (acc G F k)
  fn : Boxed A b0 93 lf
  box : Boxed A b2 77 (.map (some m'))
  below : Below w.heap.size w A
  le : n₁ ≤ A.heap.size
theorem OtherI.chg {w W : World} {b0 m' b2 n₁ k : Nat} {lf : Value} {G : Fl → Fl} {F : List Fl} {A A' : World} (h : OtherI w b0 m' b2 lf G F n₁ k A) (h0 : b0 < W.heap.size) (hm : m' < W.heap.size) (h2 : b2 < W.heap.size) (hw : w.heap.size ≤ W.heap.size) (hc : Chg (Btw W.heap.size n₁) A A') :
    OtherI w b0 m' b2 lf G F n₁ k A' :=
  ⟨h.files.chg hc (fun hb => by have := hb.1; omega) (fun i hi hb => by have h1 : n₁ ≤ i := hi; have := hb.2; omega), boxed_chg h.fn hc (fun hb => by have := hb.1; omega), boxed_chg h.box hc (fun hb => by have := hb.1; omega),
    h.below.trans (hc.below (fun i hi => Nat.le_trans hw hi.1) h.below.size), Nat.le_trans h.le hc.size⟩

/-- Another disk that is answered. -/
def OtherAns (w : World) (room : Nat) (F' : List Fl) (e : Ending) (w' : World) : Prop := ∃ d', e = .returned (.pointer (some ⟨d', 0, none⟩)) ∧ Disk w' (Frm w.heap.size) w.heap.size d' room F' ∧ Below w.heap.size w w'

set_option maxRecDepth 100000 in
set_option maxHeartbeats 4000000 in
theorem another_any {w : World} {S : Nat → Prop} {B d room : Nat} {F : List Fl} (h : Disk w S B d room F) (G : Fl → Fl) (hG : ∀ f ∈ F, (G f).name = f.name ∧ (G f).lasts ≤ (G f).data.length ∧ (G f).data.length ≤ f.data.length ∧ ∀ b ∈ (G f).data, b < 256)
    (lf : Nat) (lb : Array Value) (eg : ∀ args w, (callFunc lf args).run Try.prog w = .ok (.enter lf args) w)
    (hL : ∀ (A : World) (f : Fl) (v : Value), f ∈ F → FileAt w S B f v → Below w.heap.size w A → Calls Try.prog lf (#[encStr f.name, v] ++ lb) A (LeftAns w.heap.size (G f) A)) :
    Calls Try.prog 46 #[.pointer (some ⟨d, 0, none⟩), .func (.func lf) #[] lb] w (OtherAns w room (F.map G)) := by
  obtain ⟨m, D, V, hsee, hfiles, hBm, hap⟩ := h.seen
  have H := Lib.hid h
  have HSEE := Lib.hid hsee
  have HFI := Lib.hid hfiles
  have HG := Lib.hid hG
  have HLF := Lib.hid hL
  have HSZ : Hid (∀ f ∈ F, f.name.length ≤ maxLen) := fun f hf => by
    have := h.names f hf; simp [good] at this; unfold maxLen; omega
  clear hsee hfiles hBm hap h hG hL
  have hf1 : Fence.wide.fn 58 := trivial
  have hf2 : Fence.wide.fn 48 := trivial
  have hf3 : Fence.wide.fn lf := trivial
  have hmm := @run_makeMap Try.prog
  refine (callsIn_wide (n := 6)).1 ?_
  refine callsIn_of_wp_marks Try.func46 rfl trivial ?_
  simp only [Try.ntmps46, List.size_toArray, List.length_cons, List.length_nil, Nat.reduceAdd, Nat.reduceSub, Array.replicate_succ, Array.replicate_zero, List.push_toArray, List.append_toArray, List.nil_append, List.cons_append]
  gi_wp2_with (gi_at_call 58; refine (callsIn_wide.2 (each_any _ _)).mono ?_; rintro e w' ⟨rfl, rfl⟩)
  clear hmm
  obtain ⟨w1, hw1⟩ : ∃ w1, w1 = ((((w.alloc (.cells #[.func (.func lf) #[] lb] 93)).alloc (.map #[] 0)).alloc (.cells #[.map (some (w.heap.size + 1))] 77)).alloc (.cells #[.pointer (some ⟨d, 0, none⟩)] 25)) := ⟨_, rfl⟩
  rw [← hw1]
  have HX1 : Hid (Ext w w1) := by rw [hw1]; exact (((ext_alloc _ _).trans (ext_alloc _ _)).trans (ext_alloc _ _)).trans (ext_alloc _ _)
  have HZ1 : Hid (w1.heap.size = w.heap.size + 4) := by rw [hw1]; simp [Hid]
  have HB0 : Hid (Boxed w1 w.heap.size 93 (.func (.func lf) #[] lb)) := by rw [hw1]; exact ext_heap (((ext_alloc _ _).trans (ext_alloc _ _)).trans (ext_alloc _ _)) (heap_at _ _ rfl)
  have HM1 : Hid (w1.ownsMap Try.prog 9 rdf (w.heap.size + 1) 0 (.map [])) := by
    have h := World.ownsMap_made (w.alloc (.cells #[.func (.func lf) #[] lb] 93)) Try.prog 9 rdf
    rw [hw1]; unfold Hid; simpa using (h.alloc (.cells #[.map (some (w.heap.size + 1))] 77)).alloc (.cells #[.pointer (some ⟨d, 0, none⟩)] 25)
  have HB2 : Hid (Boxed w1 (w.heap.size + 2) 77 (.map (some (w.heap.size + 1)))) := by rw [hw1]; exact ext_heap (ext_alloc _ _) (heap_at _ _ (by simp))
  have HB3 : Hid (w1.heap[w.heap.size + 3]? = some (.cells #[.pointer (some ⟨d, 0, none⟩)] 25)) := by rw [hw1]; exact heap_at _ _ (by simp)
  clear hw1
  have hchg : ∀ n₁ k A A', OtherI w w.heap.size (w.heap.size + 1) (w.heap.size + 2) (.func (.func lf) #[] lb) G F n₁ k A → Chg (Btw w1.heap.size n₁) A A' → OtherI w w.heap.size (w.heap.size + 1) (w.heap.size + 2) (.func (.func lf) #[] lb) G F n₁ k A' :=
    fun _ _ _ _ hi hc => hi.chg (by have := HZ1.out; omega) (by have := HZ1.out; omega) (by have := HZ1.out; omega) HX1.out.size hc
  have HCHG := Lib.hid hchg
  clear hchg
  refine wpIn_over rfl enters_each (each_iter (HSEE.out.ext HX1.out) H.out.lo H.out.cnt HSZ.out (cell_of HB3.out rfl)) (fun _ => rfl) (OtherI w w.heap.size (w.heap.size + 1) (w.heap.size + 2) (.func (.func lf) #[] lb) G F) (fun _ _ => False) (fun _ _ _ _ => trivial) ?hI (fun _ _ _ h _ => h) ?h0 ?round ?done (fun _ _ _ _ h _ => h.elim)
  case hI => intro n₁ k A A' _ hi hc; exact HCHG.out _ _ _ _ hi hc
  case h0 =>
    intro A hx
    refine ⟨(Files.none A _ _ _ (map_kept HM1.out (hx.block _ HM1.out.lt))), ext_heap hx HB0.out, ext_heap hx HB2.out, Ext.trans HX1.out hx, Nat.le_refl _⟩
  case round =>
    rintro l n₁ k ⟨x, vv⟩ A hl1 hl2 hn hnA hi hk ⟨hok, hvv⟩
    have hok' : (snames F)[k]? = some x := hok
    have hvv' : vv = V x := hvv
    subst hvv'
    have hmem : x ∈ snames F := List.mem_of_getElem? hok'
    obtain ⟨f, hf, hfx⟩ := snames_mem.1 hmem
    have hcur := cur_mem HSEE.out.con.nodup hf
    rw [hfx] at hcur
    have HACC : Hid (acc G F (k + 1) = acc G F k ++ [G f]) := by unfold Hid acc; rw [List.take_add_one, hok']; simp [hcur]
    obtain ⟨A0, c0, y0, hshape⟩ : ∃ A0 c0 y0, V x = fv A0 f.data.length c0 y0 := by
      obtain ⟨⟨u, e, hr, _⟩, _⟩ := HFI.out f hf
      obtain ⟨A', c', rfl, _⟩ := Sl.of_own hr
      rw [hfx] at e
      exact ⟨_, _, _, e⟩
    have HFILE := HFI.out f hf
    rw [hfx] at HFILE
    rw [hshape] at HFILE ⊢
    unfold fv at HFILE ⊢
    have HFILE := Lib.hid HFILE
    have HI := Lib.hid hi
    have HN := Lib.hid hn
    have HL := Lib.hid (And.intro hl1 hl2)
    have HK := Lib.hid hk
    have HF := Lib.hid hf
    have HFX := Lib.hid hfx
    have HOK := Lib.hid hok'
    clear hok hok' hvv hi hn hl1 hl2 hk hmem hcur hshape hf hfx hnA
    gi_wp2
    refine ⟨?_, fun A2 hc => ?_⟩
    · exact Step.of_chg (Chg.alloc (S := fun _ => False) _ _) HI.out.le (fun _ _ _ h => h)
    have HBX : Hid (A2.heap[A.heap.size]? = some (.cells #[.slice A0 f.data.length c0, .int .i64 y0] 92 (0, 0))) := (hc.block _ (by simp) (by have := HI.out.le; have := HL.out.2; omega)).trans (heap_at _ _ rfl)
    have HI2 := Lib.hid (HCHG.out _ _ _ _ (HCHG.out _ _ _ _ HI.out (Chg.alloc A (.cells #[.slice A0 f.data.length c0, .int .i64 y0] 92))) (hc.mono fun i _ e => ⟨by have := HL.out.1; omega, by have := HL.out.2; omega⟩))
    have hz2 : A.heap.size < A2.heap.size := by have := hc.size; simp at this; omega
    have q0 := HI2.out.fn.cell
    have q1 := cell_of (k := 0) HBX.out rfl
    have q2 := cell_of (k := 1) HBX.out rfl
    have HC := Lib.hid (HLF.out A2 f _ HF.out HFILE.out HI2.out.below)
    rw [HFX.out] at HC
    clear hc
    gi_wp2_with fail
    refine CallsIn.mono (CallsIn.inRound l (callsIn_wide.2 HC.out)) ?_
    rintro e A3 ⟨A1', c1, rfl, hb3, hbs3⟩
    have HB3' := Lib.hid hb3
    have HBS3 := Lib.hid hbs3
    have hbx3 := ext_heap hb3 HBX.out
    have r1 := cell_of (k := 0) hbx3 rfl
    have r2 := cell_of (k := 1) hbx3 rfl
    have r3 := free_of (k := 0) hbx3
    have r4 := free_of (k := 1) hbx3
    have HBX3 := Lib.hid hbx3
    clear hb3 hbs3 hbx3 q0 q1 q2
    gi_wp2_with fail
    obtain ⟨A4, hA4⟩ : ∃ A4, A4 = (A3.setCell ⟨A.heap.size, 0, none⟩ (.slice A1' (G f).data.length c1)).setCell ⟨A.heap.size, 1, none⟩ (.int .i64 ((G f).lasts : Int)) := ⟨_, rfl⟩
    rw [← hA4]
    have HBX4 : Hid (A4.heap[A.heap.size]? = some (.cells #[.slice A1' (G f).data.length c1, .int .i64 ((G f).lasts : Int)] 92 (0, 0))) := by
      rw [hA4]; exact heap_set (k := 1) _ (heap_set (k := 0) _ HBX3.out)
    have hwA : w.heap.size ≤ A.heap.size := HI.out.below.size
    have HBS4 : Hid (Bs A4 0 w.heap.size (.slice A1' (G f).data.length c1) (G f).data) := by
      rw [hA4]; exact (HBS3.out.setCell (.inr hwA) _).setCell (.inr hwA) _
    have HC24 : Hid (Chg (fun i => i = A.heap.size) A2 A4) := by
      rw [hA4]; exact ((Chg.of_ext HB3'.out).trans (Chg.setCell (S := fun i => i = A.heap.size) _ ⟨A.heap.size, 0, none⟩ _ rfl)).trans (Chg.setCell (S := fun i => i = A.heap.size) _ ⟨A.heap.size, 1, none⟩ _ rfl)
    clear hA4 r1 r2 r3 r4 hwA
    obtain ⟨hgn, hgl, hgd, hgb⟩ := HG.out f HF.out
    have hfl : f.data.length ≤ 1048576 := by have h1 := tot_mem HF.out; have h2 := H.out.tot; have h3 := H.out.hi; omega
    refine CallsIn.mono (CallsIn.inRound l (callsIn_wide.2 (clone_any _ 0 w.heap.size _ A4 HBS4.out (Nat.le_trans HI2.out.below.size HC24.out.size) (by omega)))) ?_
    rintro e A5 ⟨v5, rfl, hown5, hb5⟩
    have hb5' : Ext A4 A5 := hb5
    obtain ⟨R, cR, rfl, _, _, _, _⟩ := Sl.of_own hown5
    have HOWN5 := Lib.hid hown5
    have HX45 := Lib.hid hb5'
    have HBX5 := Lib.hid (ext_heap hb5' HBX4.out)
    have hc25 : Chg (fun i => i = A.heap.size) A2 A5 := HC24.out.trans (Chg.of_ext hb5')
    have hc26 := hc25.trans (Chg.setCell (S := fun i => i = A.heap.size) A5 ⟨A.heap.size, 0, none⟩ (.slice R (G f).data.length cR) rfl)
    have HC26 := Lib.hid hc26
    obtain ⟨D2, V2, hD2, hC2, hV2, hap2⟩ := HI2.out.files
    have hmA : w.heap.size + 1 ≠ A.heap.size := by have := HN.out; have := HI.out.le; have := HX1.out.size; have := HZ1.out; omega
    have hm6 := hc26.block (w.heap.size + 1) hD2.lt hmA
    have hD6 := map_kept hD2 hm6
    have hxl : x.length ≤ maxLen := by rw [← HFX.out]; exact HSZ.out f HF.out
    have hkey : keyOf Try.prog 9 (encStr x) = some (.string x) := by
      have := WideMaps.keyOf_string_mk (P := Try.prog) (s := ⟨x.toArray⟩) Try.underlying9 (by simpa [ByteArray.size] using hxl)
      simpa [encStr] using this
    have hlen2 : (acc G F k).length < maxLen := by have h1 := H.out.cnt; have h2 := HK.out; unfold maxLen acc; simp [snames_length]; omega
    obtain ⟨A7, hrun7, hown7, hg7⟩ := hD6.update lawS Try.underlying77 hlen2 (val := .agg #[.slice R (G f).data.length cR, .int .i64 ((G f).lasts : Int)]) hkey (rdf_mk _ _ _ _)
    have HOWN7 := Lib.hid hown7
    have HG7 := Lib.hid hg7
    have HKEY := Lib.hid hkey
    have HHD := Lib.hid hD2
    have HHC := Lib.hid hC2
    have HHV := Lib.hid hV2
    have HHA := Lib.hid hap2
    have s1 := cell_of (k := 0) HBX5.out rfl
    have s2 := cell_of (k := 1) HBX5.out rfl
    have s3 := free_of (k := 0) HBX5.out
    have s4 : A5.cell? ⟨w.heap.size + 2, 0, none⟩ = some (.map (some (w.heap.size + 1))) := (boxed_chg HI2.out.box hc25 (by have := HN.out; have := HI.out.le; have := HX1.out.size; have := HZ1.out; omega)).cell
    have hne : w.heap.size + 2 ≠ A.heap.size := by have := HN.out; have := HI.out.le; have := HX1.out.size; have := HZ1.out; omega
    clear hown5 hb5 hb5' hc25 hc26 hD2 hC2 hV2 hap2 hmA hm6 hD6 hxl hkey hlen2 hown7 hg7 hgn hgl hgd hgb hfl
    gi_wp2_with fail
    have hz1 := HZ1.out
    have hn1 := HN.out
    have hAn := HI.out.le
    have hc27 : Chg (fun i => i = A.heap.size ∨ i = w.heap.size + 1) A2 A7 := (HC26.out.mono fun i _ e => .inl e).trans (Chg.grown HG7.out (fun i e => by injection e with e; exact .inr e.symm))
    have hstep : Step w1.heap.size n₁ A2 A7 := Step.of_chg hc27 HI2.out.le (fun i h1 h2 hs => by rcases hs with hs | hs <;> omega)
    obtain ⟨hgn, hgl, hgd, hgb⟩ := HG.out f HF.out
    have hgx : (G f).name = x := hgn.trans HFX.out
    have hkey2 := lawS.key HKEY.out
    refine ⟨hstep, ⟨?_, boxed_chg HI2.out.fn hc27 (fun hs => by rcases hs with hs | hs <;> omega), boxed_chg HI2.out.box hc27 (fun hs => by rcases hs with hs | hs <;> omega),
      HI2.out.below.trans (hc27.below (fun i hi => by rcases hi with hi | hi <;> omega) HI2.out.below.size), Nat.le_trans HI2.out.le hc27.size⟩⟩
    rw [HACC.out]
    refine Files.perm (Files.put (w := A2) (w5 := A5.setCell ⟨A.heap.size, 0, none⟩ (.slice R (G f).data.length cR)) (S := Frm n₁) (fun k' cc hk' => HC26.out.block k' (Array.getElem?_eq_some_iff.1 hk').1 (fun e => ?_)) (G f) (.slice R (G f).data.length cR) (acc_new HSEE.out.con HG.out HOK.out (hgx)) (by rw [hgx]; exact hkey2)
      (ownsRow_base (row_kept HOWN5.out (fun g hg => Below.heap_setCell _ _ _ _ (fun e => ?_))) (by have h1 := HI2.out.le; have h2 := HC24.out.size; omega)) (fun g hg => ?_) hgl hgb _ _ (map_kept HHD.out (HC26.out.block _ HHD.out.lt (by omega))) HHV.out HHC.out HHA.out HG7.out (by rw [hgx]; exact HOWN7.out)) (List.perm_append_singleton _ _).symm
    · rw [e, HBX.out] at hk'
      injection hk' with hk'
      injection hk' with _ hk'
      exact absurd hk' (by decide)
    · have e : g = A.heap.size := e
      have h1 := (row_lt HOWN5.out g hg).1
      have h2 := HC24.out.size
      have h3 : A.heap.size < A2.heap.size := hz2
      omega
    · have h1 := (row_lt HOWN5.out g hg).1
      have h2 := HC24.out.size
      have h3 := HI2.out.le
      exact ⟨show n₁ ≤ g by omega, by omega⟩
  case done =>
    rintro D' n₁ W hDl _ hn hi hD
    have HI := Lib.hid hi
    have HDL := Lib.hid hDl
    have HDD := Lib.hid hD
    have q0 : W.cell? ⟨d, 0, none⟩ = some (.int .i64 (room : Int)) := ext_cell (hi.below) HSEE.out.c0
    have q1 : W.cell? ⟨w.heap.size + 2, 0, none⟩ = some (.map (some (w.heap.size + 1))) := hi.box.cell
    have HWN : Hid (w.heap.size ≤ n₁) := by have := HX1.out.size; unfold Hid; omega
    clear hi hDl hn hD
    gi_wp2
    gi_region
    gi_wp2
    have hDlt := (Array.getElem?_eq_some_iff.1 HDD.out).1
    have hD2 : ((W.alloc (.cells #[.int .i64 (room : Int), .map (some (w.heap.size + 1))] 79)).drew).heap[D']? = some (.deferred (some [])) := (Below.heap_alloc _ _ _ hDlt).trans HDD.out
    refine ⟨by simp, .inl ⟨_, _, rfl, run_takeDeferred hD2, ?_⟩⟩
    refine ⟨_, results_tmp rfl _ _ _, ⟨W.heap.size, rfl, ?_, ?_⟩⟩
    · have hc : Chg (fun i => i = D') W (((W.alloc (.cells #[.int .i64 (room : Int), .map (some (w.heap.size + 1))] 79)).drew).putObj D' (.deferred none)) :=
        ((Chg.alloc W _).trans (Chg.drew _)).trans (putObj_chg _ _ _)
      have hz1 := HZ1.out
      have hdl := HDL.out
      have hb := HI.out.below.size
      have hwn := HWN.out
      have hf := ((HI.out.files.perm (acc_all (G := G) HSEE.out.con.nodup)).wide (S' := Frm w.heap.size) (B' := w.heap.size) (fun k hk => show w.heap.size ≤ k from Nat.le_trans hwn hk) hwn)
      obtain ⟨D2, V2, h1, h2, h3, h4⟩ := HI.out.files.perm (acc_all (G := G) HSEE.out.con.nodup)
      have hrows : ∀ k cc, W.heap[k]? = some (Obj.cells cc 5 (0, 0)) → k ≠ D' := fun k cc hk e => by rw [e, HDD.out] at hk; cases hk
      refine ⟨⟨w.heap.size + 1, D2, V2, ?_, map_kept h1 (hc.block _ h1.lt (by omega)), h2, fun f hf => ?_, h4, show w.heap.size ≤ w.heap.size + 1 by omega, by omega⟩, show w.heap.size ≤ W.heap.size from hb, hb, H.out.lo, H.out.hi, ?_, by simpa using H.out.cnt, ?_⟩
      · exact (World.putObj_heap_other (by omega)).trans (heap_at _ _ rfl)
      · have := (h3 f hf)
        obtain ⟨⟨u, e1, e2, e3⟩, e4, e5⟩ := this
        exact ⟨⟨u, e1, ownsRow_base (row_kept e2 (fun g hg => hc.block g (row_lt e2 g hg).2 (fun e => by obtain ⟨cc, hcc⟩ := row_not e2 hg; exact hrows g cc hcc e))) hwn, fun g hg => Nat.le_trans hwn (e3 g hg)⟩, e4, e5⟩
      · refine Nat.le_trans (tot_map F G (fun f hf => (HG.out f hf).2.2.1)) H.out.tot
      · intro g hg
        obtain ⟨f, hf, rfl⟩ := List.mem_map.1 hg
        rw [(HG.out f hf).1]
        exact H.out.names f hf
    · exact HI.out.below.trans ((((Below.refl _ W).alloc (Nat.le_refl _) _).drew.mono HI.out.below.size).trans ((putObj_chg _ D' _).below (fun i e => by have := HDL.out; have := HX1.out.size; omega) (by have := HI.out.below.size; simp; omega)))
end Go.Proofs.Ytenhfphgobalfaa
