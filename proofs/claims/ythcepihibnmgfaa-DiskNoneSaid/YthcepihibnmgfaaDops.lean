/- Sync, Remove, Rename; Lasting, Read. -/
import Derived.Test.YthcepihibnmgfaaDappend
import Derived.Test.YthcepihibnmgfaaDclone
namespace Go.Proofs.Ythcepihibnmgfaa
open Go.RowKit Go.Maps

/-- What is asked first of a file by its name. -/
def seekN (F : List Fl) (n : List UInt8) : Int := match good n with | true => lackN (there F n) | false => 2
def seek2 (F : List Fl) (n k : List UInt8) : Int := match good n && good k with | true => lackN (there F n) | false => 2
theorem field_lasts (A : Option Addr) (L c z : Nat) (w : World) : (Instr.field 96 (.agg #[.slice A L c, .int .i64 (z : Int)]) 1).run Try.prog w = .ok (.int .i64 (z : Int)) w := by kernel_rfl
theorem field_bytes (A : Option Addr) (L c z : Nat) (w : World) : (Instr.field 96 (.agg #[.slice A L c, .int .i64 (z : Int)]) 0).run Try.prog w = .ok (.slice A L c) w := by kernel_rfl
/-- The files behind a Rename. -/
def ren (F : List Fl) (n k : List UInt8) : List Fl := upd (del F n) ⟨k, (cur F n).data, (cur F n).lasts⟩
/-- Bytes that are answered, and a number. -/
def ReadAns (w : World) (bs : List Nat) (x : Int) (e : Ending) (w' : World) : Prop := ∃ v, e = .returned (.tuple #[v, .int .i64 x]) ∧ w'.ownsRow w.heap.size 5 1 v bs.length (bv bs) ∧ Below w.heap.size w w'
theorem ownsRow_base {w : World} {b b' : Nat} {e : TypeId} {v : Value} {n : Nat} {xs : List Value} (h : w.ownsRow b e 1 v n xs) (hb : b' ≤ b) : w.ownsRow b' e 1 v n xs := by
  obtain ⟨h1, h2⟩ := h
  refine ⟨h1, ?_⟩
  rcases h2 with h2 | ⟨g, cap, cur, hv, hg, hh, r⟩
  · exact .inl h2
  · exact .inr ⟨g, cap, cur, hv, Nat.le_trans hb hg, hh, r⟩
/-- The files behind a Sync. -/
def syn (F : List Fl) (n : List UInt8) : List Fl := upd F ⟨n, (cur F n).data, (cur F n).data.length⟩
theorem seekN_ok {F : List Fl} {n : List UInt8} (h : 0 = seekN F n) : good n = true ∧ there F n = true := by
  unfold seekN at h
  cases hg : good n <;> rw [hg] at h
  · cases h
  · cases ht : there F n <;> rw [ht] at h
    · cases h
    · exact ⟨rfl, rfl⟩
theorem seek2_ok {F : List Fl} {n k : List UInt8} (h : 0 = seek2 F n k) : good n = true ∧ good k = true ∧ there F n = true := by
  unfold seek2 at h
  cases hg : good n <;> cases hk : good k <;> rw [hg, hk] at h
  · cases h
  · cases h
  · cases h
  · cases ht : there F n <;> rw [ht] at h
    · cases h
    · exact ⟨rfl, rfl, rfl⟩
theorem names_two {w' : World} {b : Nat} {s t : ByteArray} (hs : s.size ≤ maxLen) (ht : t.size ≤ maxLen) (h : w'.heap[b]? = some (.cells #[.string s, .string t] 9 (0, 0))) : Names w' (some ⟨b, 0, none⟩) [s, t] :=
  ⟨.inr ⟨b, 0, rfl, Nat.zero_le _, (Array.getElem?_eq_some_iff.1 h).1, fun i u hu => by
    rcases i with _ | _ | i
    · simp at hu; subst hu; simp [World.cell?, h]
    · simp at hu; subst hu; simp [World.cell?, h]
    · simp at hu⟩, by simp [hs, ht], by simp⟩
theorem refused_two {w : World} {d : Nat} (h : IsDisk w d) {s t : ByteArray} {A : Option Addr} {c : Nat} (hn : Names w A [s, t]) {g : Nat} {lb : Array Value} (eg : ∀ args w, (callFunc g args).run Try.prog w = .ok (.enter g args) w) {r x : Int}
    (hr : r = match good s.data.toList && good t.data.toList with | true => x | false => 2) (hok : Calls Try.prog g lb w fun e w' => e = .returned (.int .i64 x) ∧ Below w.heap.size w w') :
    Calls Try.prog 48 #[.pointer (some ⟨d, 0, none⟩), .func (.func g) #[] lb, .slice A 2 c] w fun e w' => e = .returned (.int .i64 r) ∧ Below w.heap.size w w' := by
  refine (refused_any h hn (c := c) eg (Q := fun y w' => y = r ∧ Below w.heap.size w w') ?_ ?_).mono ?_
  · rintro ⟨s', hs', hb⟩
    refine ⟨?_, Below.refl _ _⟩
    rcases List.mem_cons.1 hs' with rfl | hs'
    · rw [hr, hb]; rfl
    · simp at hs'; subst hs'; rw [hr, hb, Bool.and_false]
  · intro hg
    refine hok.mono ?_
    rintro e w' ⟨rfl, hb⟩
    exact ⟨x, rfl, by rw [hr, hg s (by simp), hg t (by simp)]; rfl, hb⟩
  · rintro e w' ⟨y, rfl, rfl, hb⟩
    exact ⟨rfl, hb⟩

set_option maxRecDepth 100000 in
set_option maxHeartbeats 4000000 in
theorem sync_any {w : World} {S : Nat → Prop} {B d room : Nat} {F : List Fl} (h : Disk w S B d room F) {s : ByteArray} (hs : s.size ≤ maxLen) {x : Int} (hx : x = seekN F s.data.toList) :
    Calls Try.prog 25 #[.pointer (some ⟨d, 0, none⟩), .string s] w (Did w S B d room (match x == 0 with | true => syn F s.data.toList | false => F) x) := by
  obtain ⟨m, D, V, hsee, hfiles, hBm, hap⟩ := h.seen
  have H := Lib.hid h
  have HSEE := Lib.hid hsee
  have HX := Lib.hid hx
  have HS := Lib.hid hs
  have HFI := Lib.hid hfiles
  have HBM := Lib.hid hBm
  have HAP := Lib.hid hap
  clear hsee h hx hs hfiles hBm hap
  go_enter Try.func25, Try.ntmps25
  go_wp2_with fail
  refine (lacks_any _ _ _).mono ?_
  rintro e w0 ⟨rfl, rfl⟩
  go_wp2_with fail
  obtain ⟨w1, hw1⟩ : ∃ w1, w1 = ((w.alloc (.cells #[.pointer (some ⟨d, 0, none⟩)] 25)).alloc (.cells #[.string s] 9)).alloc (.cells #[.string s] 9) := ⟨_, rfl⟩
  rw [← hw1]
  have HX1 : Hid (Ext w w1) := by rw [hw1]; exact ((ext_alloc _ _).trans (ext_alloc _ _)).trans (ext_alloc _ _)
  have hb0 : Hid (w1.heap[w.heap.size]? = some (.cells #[.pointer (some ⟨d, 0, none⟩)] 25)) := by
    rw [hw1]; exact ext_heap ((ext_alloc _ _).trans (ext_alloc _ _)) (heap_at _ _ rfl)
  have hb1 : Hid (w1.heap[w.heap.size + 1]? = some (.cells #[.string s] 9)) := by
    rw [hw1]; exact ext_heap (ext_alloc _ _) (heap_at _ _ (by simp))
  have hb2 : Hid (w1.heap[w.heap.size + 2]? = some (.cells #[.string s] 9)) := by
    rw [hw1]; exact heap_at _ _ (by simp)
  clear hw1
  obtain ⟨A, n, c, y, hlt, hl, hVf, hno⟩ := (HSEE.out.ext HX1.out).look HS.out (fun f hf => (HFI.out f hf).shape)
  refine Calls.mono (refused_one (r := x) (H.out.isDisk.ext HX1.out) (names_one HS.out hb2.out) enters_lacks HX.out (lacks_is (HSEE.out.ext HX1.out) (cell_of hb0.out rfl) (cell_of hb1.out rfl) hlt)) ?_
  rintro e w2 ⟨rfl, hx2⟩
  have HX2 : Hid (Ext w w2) := HX1.out.trans hx2
  have HL := Lib.hid (fun w' (hx : Ext w2 w') => hl w' (Ext.trans hx2 hx))
  have HVF := Lib.hid hVf
  have HNO := Lib.hid hno
  clear hx2 hb0 hb1 hb2 hlt hl hVf hno
  by_cases hx0 : x = 0
  · subst hx0
    have HOK := Lib.hid (seekN_ok HX.out)
    obtain ⟨hrow, hn, hy, hbl⟩ := cur_row (w := w2) (fun f hf => (HFI.out f hf).kept (fun k _ hk => HX2.out.block k hk)) HVF.out HNO.out
    subst hn hy
    have HROW := Lib.hid hrow
    have HBLK := Lib.hid hbl
    clear hrow hbl HX
    obtain ⟨L, hL⟩ : ∃ L, L = (cur F s.data.toList).data.length := ⟨_, rfl⟩
    obtain ⟨z, hz⟩ : ∃ z, z = (cur F s.data.toList).lasts := ⟨_, rfl⟩
    rw [← hL, ← hz] at HL HVF
    rw [← hL] at HROW HBLK
    have HLL := Lib.hid hL
    have HZZ := Lib.hid hz
    have hLb : L ≤ 1048576 := by have h1 := tot_mem (there_cur HOK.out.2); have h2 := H.out.tot; have h3 := H.out.hi; omega
    have hzb : z ≤ L := by have := HBLK.out.2.1; omega
    clear hL hz
    have hl := HL.out w2 (Ext.refl _)
    unfold fv at hl
    have hs2 := HSEE.out.ext HX2.out
    have q2 := hs2.c1
    clear hs2
    go_wp2_with fail
    obtain ⟨w5, hw5⟩ : ∃ w5, w5 = (w2.alloc (.cells #[.slice A L c, .int .i64 (L : Int)] 96)) := ⟨_, rfl⟩
    rw [← hw5]
    have HX25 : Hid (Ext w2 w5) := by rw [hw5]; exact ext_alloc _ _
    have HBX : Hid (w5.heap[w2.heap.size]? = some (.cells #[.slice A L c, .int .i64 (L : Int)] 96 (0, 0))) := by rw [hw5]; exact heap_at _ _ rfl
    clear hw5 hl q2
    have HX5 := Lib.hid (HX2.out.trans HX25.out)
    have hown5 := ((HSEE.out.ext HX5.out).ext (Ext.drew w5)).own
    have hcnt := H.out.cnt
    have hkey : keyOf Try.prog 9 (.string s) = some (.string s.data.toList) := WideMaps.keyOf_string_mk Try.underlying9 HS.out
    obtain ⟨w6, hrun6, hown6, hg6⟩ := hown5.update lawS Try.underlying78 (by unfold maxLen; omega) (val := .agg #[.slice A L c, .int .i64 (L : Int)]) hkey (rdf_mk _ _ _ _)
    have HOWN6 := Lib.hid hown6
    have HG6 : Hid (w5.grownBy w6 (some m)) := ⟨hg6.os, hg6.tape, hg6.output, hg6.size, hg6.block⟩
    have HKEY := Lib.hid hkey
    have q2 := (HSEE.out.ext HX5.out).c1
    have q3 : w5.cell? ⟨w2.heap.size, 0, none⟩ = some (.slice A L c) := cell_of HBX.out rfl
    have q4 : w5.cell? ⟨w2.heap.size, 1, none⟩ = some (.int .i64 (L : Int)) := cell_of HBX.out rfl
    clear hown5 hown6 hg6 hkey hcnt
    go_region
    clear q2 q3 q4 hrun6
    go_wp2_with fail
    go_ret
    have hfin := H.out.grown_file HSEE.out HBM.out HAP.out HFI.out ⟨s.data.toList, (cur F s.data.toList).data, (cur F s.data.toList).data.length⟩ (.slice A L c) (.slice A L c) (w5 := w5) (w6 := w6)
      (fun f hf e => by rw [HVF.out f hf e]; rfl) (fun ht => by rw [HOK.out.2] at ht; cases ht) (Chg.of_ext HX5.out) HG6.out (by rw [← HLL.out]; exact HOWN6.out) (lawS.key HKEY.out)
      (by rw [← HLL.out]; have := row_kept HROW.out (w' := w5) (fun g hg => HX25.out.block g (row_lt HROW.out g hg).2); exact this) (.inl rfl) (Nat.le_refl _) (fun b hb => HBLK.out.1 b hb)
      (by have h1 := tot_upd HSEE.out.con.nodup ⟨s.data.toList, (cur F s.data.toList).data, (cur F s.data.toList).data.length⟩; have h2 := H.out.tot; simp at h1; omega)
      (by have h1 := len_upd HSEE.out.con.nodup ⟨s.data.toList, (cur F s.data.toList).data, (cur F s.data.toList).data.length⟩; have h3 := H.out.cnt; rw [h1]; simp [HOK.out.2]; omega)
      HOK.out.1
    obtain ⟨S', k1, k2, k3⟩ := hfin
    exact ⟨rfl, S', k1, k2, k3⟩
  · have t1 : (x != 0) = true := by simpa using hx0
    have t2 : (x == 0) = false := by simpa using hx0
    clear hx0
    go_wp2_with fail
    go_ret
    exact Did.same H.out HX2.out

set_option maxRecDepth 100000 in
set_option maxHeartbeats 4000000 in
theorem remove_any {w : World} {S : Nat → Prop} {B d room : Nat} {F : List Fl} (h : Disk w S B d room F) {s : ByteArray} (hs : s.size ≤ maxLen) {x : Int} (hx : x = seekN F s.data.toList) :
    Calls Try.prog 24 #[.pointer (some ⟨d, 0, none⟩), .string s] w (Did w S B d room (match x == 0 with | true => del F s.data.toList | false => F) x) := by
  obtain ⟨m, D, V, hsee, hfiles, hBm, hap⟩ := h.seen
  have H := Lib.hid h
  have HSEE := Lib.hid hsee
  have HX := Lib.hid hx
  have HS := Lib.hid hs
  have HFI := Lib.hid hfiles
  have HBM := Lib.hid hBm
  have HAP := Lib.hid hap
  clear hsee h hx hs hfiles hBm hap
  go_enter Try.func24, Try.ntmps24
  go_wp2_with fail
  refine (lacks_any _ _ _).mono ?_
  rintro e w0 ⟨rfl, rfl⟩
  go_wp2_with fail
  obtain ⟨w1, hw1⟩ : ∃ w1, w1 = ((w.alloc (.cells #[.pointer (some ⟨d, 0, none⟩)] 25)).alloc (.cells #[.string s] 9)).alloc (.cells #[.string s] 9) := ⟨_, rfl⟩
  rw [← hw1]
  have HX1 : Hid (Ext w w1) := by rw [hw1]; exact ((ext_alloc _ _).trans (ext_alloc _ _)).trans (ext_alloc _ _)
  have hb0 : Hid (w1.heap[w.heap.size]? = some (.cells #[.pointer (some ⟨d, 0, none⟩)] 25)) := by
    rw [hw1]; exact ext_heap ((ext_alloc _ _).trans (ext_alloc _ _)) (heap_at _ _ rfl)
  have hb1 : Hid (w1.heap[w.heap.size + 1]? = some (.cells #[.string s] 9)) := by
    rw [hw1]; exact ext_heap (ext_alloc _ _) (heap_at _ _ (by simp))
  have hb2 : Hid (w1.heap[w.heap.size + 2]? = some (.cells #[.string s] 9)) := by
    rw [hw1]; exact heap_at _ _ (by simp)
  clear hw1
  obtain ⟨A, n, c, y, hlt, hl, hVf, hno⟩ := (HSEE.out.ext HX1.out).look HS.out (fun f hf => (HFI.out f hf).shape)
  refine Calls.mono (refused_one (r := x) (H.out.isDisk.ext HX1.out) (names_one HS.out hb2.out) enters_lacks HX.out (lacks_is (HSEE.out.ext HX1.out) (cell_of hb0.out rfl) (cell_of hb1.out rfl) hlt)) ?_
  rintro e w2 ⟨rfl, hx2⟩
  have HX2 : Hid (Ext w w2) := HX1.out.trans hx2
  have HL := Lib.hid (fun w' (hx : Ext w2 w') => hl w' (Ext.trans hx2 hx))
  have HVF := Lib.hid hVf
  have HNO := Lib.hid hno
  clear hx2 hb0 hb1 hb2 hlt hl hVf hno
  by_cases hx0 : x = 0
  · subst hx0
    have hs2 := HSEE.out.ext HX2.out
    have q2 := hs2.c1
    have hkey : keyOf Try.prog 9 (.string s) = some (.string s.data.toList) := WideMaps.keyOf_string_mk Try.underlying9 HS.out
    obtain ⟨w6, hrun6, hown6, hg6⟩ := hs2.own.drop lawS Try.underlying78 hkey 0
    have HOWN6 := Lib.hid hown6
    have HG6 := Lib.hid hg6.grown
    clear hs2 hown6 hg6 hkey
    go_wp2_with fail
    go_ret
    have hd : w6.heap[d]? = w.heap[d]? := (HG6.out.block d (Nat.lt_of_lt_of_le H.out.isDisk.lt HX2.out.size) (fun e => HSEE.out.dm (by injection e))).trans (HX2.out.block d H.out.isDisk.lt)
    refine ⟨rfl, S, H.out.dropped HSEE.out HBM.out HAP.out (fun f hf => (HFI.out f hf).keep1 (fun b hb => ?_) (fun _ hk => hk)) _ hd HOWN6.out, ?_, fun _ hk => .inl hk⟩
    · obtain ⟨h1, _, cc, h3⟩ := (HFI.out f hf).blk_lt hb
      refine (HG6.out.block b (Nat.lt_of_lt_of_le h1 HX2.out.size) (fun e => ?_)).trans (HX2.out.block b h1)
      injection e with e
      obtain ⟨es, clock, hm, _⟩ := HSEE.out.own
      rw [e, hm] at h3; cases h3
    · exact (Chg.of_ext HX2.out).trans_new (Chg.grown (S := fun k => k = m) HG6.out (fun k e => by injection e with e; exact e.symm)) (fun i _ hi => hi ▸ HSEE.out.mine.2)
  · have t1 : (x != 0) = true := by simpa using hx0
    have t2 : (x == 0) = false := by simpa using hx0
    clear hx0
    go_wp2_with fail
    go_ret
    exact Did.same H.out HX2.out

set_option maxRecDepth 100000 in
set_option maxHeartbeats 4000000 in
theorem lasting_any {w : World} {S : Nat → Prop} {B d room : Nat} {F : List Fl} (h : Disk w S B d room F) {s : ByteArray} (hs : s.size ≤ maxLen) {x : Int} (hx : x = seekN F s.data.toList) :
    Calls Try.prog 31 #[.pointer (some ⟨d, 0, none⟩), .string s] w (fun e w' => e = .returned (.tuple #[.int .i64 (match x == 0 with | true => ((cur F s.data.toList).lasts : Int) | false => 0), .int .i64 x]) ∧ Below w.heap.size w w') := by
  obtain ⟨m, D, V, hsee, hfiles, hBm, hap⟩ := h.seen
  have H := Lib.hid h
  have HSEE := Lib.hid hsee
  have HX := Lib.hid hx
  have HS := Lib.hid hs
  have HFI := Lib.hid hfiles
  have HBM := Lib.hid hBm
  have HAP := Lib.hid hap
  clear hsee h hx hs hfiles hBm hap
  go_enter Try.func31, Try.ntmps31
  go_wp2_with fail
  refine (lacks_any _ _ _).mono ?_
  rintro e w0 ⟨rfl, rfl⟩
  go_wp2_with fail
  obtain ⟨w1, hw1⟩ : ∃ w1, w1 = ((w.alloc (.cells #[.pointer (some ⟨d, 0, none⟩)] 25)).alloc (.cells #[.string s] 9)).alloc (.cells #[.string s] 9) := ⟨_, rfl⟩
  rw [← hw1]
  have HX1 : Hid (Ext w w1) := by rw [hw1]; exact ((ext_alloc _ _).trans (ext_alloc _ _)).trans (ext_alloc _ _)
  have hb0 : Hid (w1.heap[w.heap.size]? = some (.cells #[.pointer (some ⟨d, 0, none⟩)] 25)) := by
    rw [hw1]; exact ext_heap ((ext_alloc _ _).trans (ext_alloc _ _)) (heap_at _ _ rfl)
  have hb1 : Hid (w1.heap[w.heap.size + 1]? = some (.cells #[.string s] 9)) := by
    rw [hw1]; exact ext_heap (ext_alloc _ _) (heap_at _ _ (by simp))
  have hb2 : Hid (w1.heap[w.heap.size + 2]? = some (.cells #[.string s] 9)) := by
    rw [hw1]; exact heap_at _ _ (by simp)
  clear hw1
  obtain ⟨A, n, c, y, hlt, hl, hVf, hno⟩ := (HSEE.out.ext HX1.out).look HS.out (fun f hf => (HFI.out f hf).shape)
  refine Calls.mono (refused_one (r := x) (H.out.isDisk.ext HX1.out) (names_one HS.out hb2.out) enters_lacks HX.out (lacks_is (HSEE.out.ext HX1.out) (cell_of hb0.out rfl) (cell_of hb1.out rfl) hlt)) ?_
  rintro e w2 ⟨rfl, hx2⟩
  have HX2 : Hid (Ext w w2) := HX1.out.trans hx2
  have HL := Lib.hid (fun w' (hx : Ext w2 w') => hl w' (Ext.trans hx2 hx))
  have HVF := Lib.hid hVf
  have HNO := Lib.hid hno
  clear hx2 hb0 hb1 hb2 hlt hl hVf hno
  by_cases hx0 : x = 0
  · subst hx0
    have HOK := Lib.hid (seekN_ok HX.out)
    obtain ⟨hrow, hn, hy, hbl⟩ := cur_row (w := w2) (fun f hf => (HFI.out f hf).kept (fun k _ hk => HX2.out.block k hk)) HVF.out HNO.out
    subst hn hy
    have HROW := Lib.hid hrow
    have HBLK := Lib.hid hbl
    clear hrow hbl HX
    obtain ⟨L, hL⟩ : ∃ L, L = (cur F s.data.toList).data.length := ⟨_, rfl⟩
    obtain ⟨z, hz⟩ : ∃ z, z = (cur F s.data.toList).lasts := ⟨_, rfl⟩
    rw [← hL, ← hz] at HL HVF
    rw [← hL] at HROW HBLK
    have HLL := Lib.hid hL
    have HZZ := Lib.hid hz
    have hLb : L ≤ 1048576 := by have h1 := tot_mem (there_cur HOK.out.2); have h2 := H.out.tot; have h3 := H.out.hi; omega
    have hzb : z ≤ L := by have := HBLK.out.2.1; omega
    clear hL hz
    have hl := HL.out w2 (Ext.refl _)
    unfold fv at hl
    have hs2 := HSEE.out.ext HX2.out
    have q2 := hs2.c1
    clear hs2
    have hfd := field_lasts A L c z
    go_wp2_with fail
    go_ret2
    exact ⟨by rw [← HZZ.out]; rfl, HX2.out⟩
  · have t1 : (x != 0) = true := by simpa using hx0
    have t2 : (x == 0) = false := by simpa using hx0
    clear hx0
    go_wp2_with fail
    go_ret2
    exact ⟨rfl, HX2.out⟩

set_option maxRecDepth 100000 in
set_option maxHeartbeats 4000000 in
theorem read_any {w : World} {S : Nat → Prop} {B d room : Nat} {F : List Fl} (h : Disk w S B d room F) {s : ByteArray} (hs : s.size ≤ maxLen) {x : Int} (hx : x = seekN F s.data.toList) :
    Calls Try.prog 21 #[.pointer (some ⟨d, 0, none⟩), .string s] w (ReadAns w (match x == 0 with | true => (cur F s.data.toList).data | false => []) x) := by
  obtain ⟨m, D, V, hsee, hfiles, hBm, hap⟩ := h.seen
  have H := Lib.hid h
  have HSEE := Lib.hid hsee
  have HX := Lib.hid hx
  have HS := Lib.hid hs
  have HFI := Lib.hid hfiles
  have HBM := Lib.hid hBm
  have HAP := Lib.hid hap
  clear hsee h hx hs hfiles hBm hap
  go_enter Try.func21, Try.ntmps21
  go_wp2_with fail
  refine (lacks_any _ _ _).mono ?_
  rintro e w0 ⟨rfl, rfl⟩
  go_wp2_with fail
  obtain ⟨w1, hw1⟩ : ∃ w1, w1 = ((w.alloc (.cells #[.pointer (some ⟨d, 0, none⟩)] 25)).alloc (.cells #[.string s] 9)).alloc (.cells #[.string s] 9) := ⟨_, rfl⟩
  rw [← hw1]
  have HX1 : Hid (Ext w w1) := by rw [hw1]; exact ((ext_alloc _ _).trans (ext_alloc _ _)).trans (ext_alloc _ _)
  have hb0 : Hid (w1.heap[w.heap.size]? = some (.cells #[.pointer (some ⟨d, 0, none⟩)] 25)) := by
    rw [hw1]; exact ext_heap ((ext_alloc _ _).trans (ext_alloc _ _)) (heap_at _ _ rfl)
  have hb1 : Hid (w1.heap[w.heap.size + 1]? = some (.cells #[.string s] 9)) := by
    rw [hw1]; exact ext_heap (ext_alloc _ _) (heap_at _ _ (by simp))
  have hb2 : Hid (w1.heap[w.heap.size + 2]? = some (.cells #[.string s] 9)) := by
    rw [hw1]; exact heap_at _ _ (by simp)
  clear hw1
  obtain ⟨A, n, c, y, hlt, hl, hVf, hno⟩ := (HSEE.out.ext HX1.out).look HS.out (fun f hf => (HFI.out f hf).shape)
  refine Calls.mono (refused_one (r := x) (H.out.isDisk.ext HX1.out) (names_one HS.out hb2.out) enters_lacks HX.out (lacks_is (HSEE.out.ext HX1.out) (cell_of hb0.out rfl) (cell_of hb1.out rfl) hlt)) ?_
  rintro e w2 ⟨rfl, hx2⟩
  have HX2 : Hid (Ext w w2) := HX1.out.trans hx2
  have HL := Lib.hid (fun w' (hx : Ext w2 w') => hl w' (Ext.trans hx2 hx))
  have HVF := Lib.hid hVf
  have HNO := Lib.hid hno
  clear hx2 hb0 hb1 hb2 hlt hl hVf hno
  by_cases hx0 : x = 0
  · subst hx0
    have HOK := Lib.hid (seekN_ok HX.out)
    obtain ⟨hrow, hn, hy, hbl⟩ := cur_row (w := w2) (fun f hf => (HFI.out f hf).kept (fun k _ hk => HX2.out.block k hk)) HVF.out HNO.out
    subst hn hy
    have HROW := Lib.hid hrow
    have HBLK := Lib.hid hbl
    clear hrow hbl HX
    obtain ⟨L, hL⟩ : ∃ L, L = (cur F s.data.toList).data.length := ⟨_, rfl⟩
    obtain ⟨z, hz⟩ : ∃ z, z = (cur F s.data.toList).lasts := ⟨_, rfl⟩
    rw [← hL, ← hz] at HL HVF
    rw [← hL] at HROW HBLK
    have HLL := Lib.hid hL
    have HZZ := Lib.hid hz
    have hLb : L ≤ 1048576 := by have h1 := tot_mem (there_cur HOK.out.2); have h2 := H.out.tot; have h3 := H.out.hi; omega
    have hzb : z ≤ L := by have := HBLK.out.2.1; omega
    clear hL hz
    have hl := HL.out w2 (Ext.refl _)
    unfold fv at hl
    have hs2 := HSEE.out.ext HX2.out
    have q2 := hs2.c1
    clear hs2
    have hfd := field_bytes A L c z
    go_wp2_with fail
    obtain ⟨A1, c1, e1, h1, h2, h3⟩ := Sl.of_own HROW.out
    injection e1 with e1 e2 e3
    subst e1 e3
    have hbs : Bs w2 0 w2.heap.size (.slice A L c) (cur F s.data.toList).data := by
      have := HROW.out
      rw [HLL.out] at this ⊢
      exact (Bs.of_own this).wide (Nat.zero_le _) (Nat.le_refl _)
    refine (clone_any _ 0 w2.heap.size _ w2 hbs (Nat.le_refl _) (by have := HLL.out; omega)).mono ?_
    rintro e w3 ⟨v, rfl, hown, hb3⟩
    have HOWN := Lib.hid hown
    have HX3 := Lib.hid (HX2.out.trans hb3)
    clear hown hb3 hbs hl q2 hfd
    go_wp2_with fail
    go_ret2
    exact ⟨v, rfl, ownsRow_base HOWN.out HX2.out.size, HX3.out⟩
  · have t1 : (x != 0) = true := by simpa using hx0
    have t2 : (x == 0) = false := by simpa using hx0
    have HR : Hid (ReadAns w (match x == 0 with | true => (cur F s.data.toList).data | false => []) x (.returned (.tuple #[.slice none 0 0, .int .i64 x])) w2) := by
      rw [t2]; exact ⟨_, rfl, World.ownsRow_nil _ _ _ _, HX2.out⟩
    rw [t2] at HR
    clear hx0
    go_wp2_with fail
    go_ret2
    exact HR.out

set_option maxRecDepth 100000 in
set_option maxHeartbeats 4000000 in
theorem rename_any {w : World} {S : Nat → Prop} {B d room : Nat} {F : List Fl} (h : Disk w S B d room F) {s s2 : ByteArray} (hs : s.size ≤ maxLen) (hs2 : s2.size ≤ maxLen) {x : Int} (hx : x = seek2 F s.data.toList s2.data.toList) :
    Calls Try.prog 30 #[.pointer (some ⟨d, 0, none⟩), .string s, .string s2] w (Did w S B d room (match x == 0 with | true => ren F s.data.toList s2.data.toList | false => F) x) := by
  obtain ⟨m, D, V, hsee, hfiles, hBm, hap⟩ := h.seen
  have H := Lib.hid h
  have HSEE := Lib.hid hsee
  have HX := Lib.hid hx
  have HS := Lib.hid hs
  have HS2 := Lib.hid hs2
  clear hs2
  have HFI := Lib.hid hfiles
  have HBM := Lib.hid hBm
  have HAP := Lib.hid hap
  clear hsee h hx hs hfiles hBm hap
  go_enter Try.func30, Try.ntmps30
  go_wp2_with fail
  refine (lacks_any _ _ _).mono ?_
  rintro e w0 ⟨rfl, rfl⟩
  go_wp2_with fail
  obtain ⟨w1, hw1⟩ : ∃ w1, w1 = ((w.alloc (.cells #[.pointer (some ⟨d, 0, none⟩)] 25)).alloc (.cells #[.string s] 9)).alloc (.cells #[.string s, .string s2] 9) := ⟨_, rfl⟩
  rw [← hw1]
  have HX1 : Hid (Ext w w1) := by rw [hw1]; exact ((ext_alloc _ _).trans (ext_alloc _ _)).trans (ext_alloc _ _)
  have hb0 : Hid (w1.heap[w.heap.size]? = some (.cells #[.pointer (some ⟨d, 0, none⟩)] 25)) := by
    rw [hw1]; exact ext_heap ((ext_alloc _ _).trans (ext_alloc _ _)) (heap_at _ _ rfl)
  have hb1 : Hid (w1.heap[w.heap.size + 1]? = some (.cells #[.string s] 9)) := by
    rw [hw1]; exact ext_heap (ext_alloc _ _) (heap_at _ _ (by simp))
  have hb2 : Hid (w1.heap[w.heap.size + 2]? = some (.cells #[.string s, .string s2] 9)) := by
    rw [hw1]; exact heap_at _ _ (by simp)
  clear hw1
  obtain ⟨A, n, c, y, hlt, hl, hVf, hno⟩ := (HSEE.out.ext HX1.out).look HS.out (fun f hf => (HFI.out f hf).shape)
  refine Calls.mono (refused_two (r := x) (H.out.isDisk.ext HX1.out) (names_two HS.out HS2.out hb2.out) enters_lacks HX.out (lacks_is (HSEE.out.ext HX1.out) (cell_of hb0.out rfl) (cell_of hb1.out rfl) hlt)) ?_
  rintro e w2 ⟨rfl, hx2⟩
  have HX2 : Hid (Ext w w2) := HX1.out.trans hx2
  have HL := Lib.hid (fun w' (hx : Ext w2 w') => hl w' (Ext.trans hx2 hx))
  have HVF := Lib.hid hVf
  have HNO := Lib.hid hno
  clear hx2 hb0 hb1 hb2 hlt hl hVf hno
  by_cases hx0 : x = 0
  · subst hx0
    have HOK := Lib.hid (seek2_ok HX.out)
    obtain ⟨hrow, hn, hy, hbl⟩ := cur_row (w := w2) (fun f hf => (HFI.out f hf).kept (fun k _ hk => HX2.out.block k hk)) HVF.out HNO.out
    subst hn hy
    have HROW := Lib.hid hrow
    have HBLK := Lib.hid hbl
    clear hrow hbl HX
    obtain ⟨L, hL⟩ : ∃ L, L = (cur F s.data.toList).data.length := ⟨_, rfl⟩
    obtain ⟨z, hz⟩ : ∃ z, z = (cur F s.data.toList).lasts := ⟨_, rfl⟩
    rw [← hL, ← hz] at HL HVF
    rw [← hL] at HROW HBLK
    have HLL := Lib.hid hL
    have HZZ := Lib.hid hz
    have hLb : L ≤ 1048576 := by have h1 := tot_mem (there_cur HOK.out.2.2); have h2 := H.out.tot; have h3 := H.out.hi; omega
    have hzb : z ≤ L := by have := HBLK.out.2.1; omega
    clear hL hz
    have hl := HL.out w2 (Ext.refl _)
    unfold fv at hl
    have hs2 := HSEE.out.ext HX2.out
    have q2 := hs2.c1
    clear hs2
    have HX23 := Lib.hid (ext_alloc w2 (.cells #[.slice A L c, .int .i64 (z : Int)] 96))
    obtain ⟨w3, hw3⟩ : ∃ w3, w3 = w2.alloc (.cells #[.slice A L c, .int .i64 (z : Int)] 96) := ⟨_, rfl⟩
    have HBX : Hid (w3.heap[w2.heap.size]? = some (.cells #[.slice A L c, .int .i64 (z : Int)] 96 (0, 0))) := by rw [hw3]; exact heap_at _ _ rfl
    rw [← hw3] at HX23
    have HX3 := Lib.hid (HX2.out.trans HX23.out)
    have hs3 := HSEE.out.ext HX3.out
    have hkey : keyOf Try.prog 9 (.string s) = some (.string s.data.toList) := WideMaps.keyOf_string_mk Try.underlying9 HS.out
    have hkey2 : keyOf Try.prog 9 (.string s2) = some (.string s2.data.toList) := WideMaps.keyOf_string_mk Try.underlying9 HS2.out
    obtain ⟨w4, hrun4, hown4, hg4⟩ := hs3.own.drop lawS Try.underlying78 hkey 0
    have hcnt := H.out.cnt
    obtain ⟨w5, hrun5, hown5, hg5⟩ := World.ownsMap.update (w := w4.drew) hown4 lawS Try.underlying78 (by unfold maxLen; omega) (val := .agg #[.slice A L c, .int .i64 (z : Int)]) hkey2 (rdf_mk _ _ _ _)
    have HOWN4 := Lib.hid hown4
    have HG4 := Lib.hid hg4.grown
    have HOWN5 := Lib.hid hown5
    have HG5 : Hid (w4.grownBy w5 (some m)) := ⟨hg5.os, hg5.tape, hg5.output, hg5.size, hg5.block⟩
    have HC4 : Hid (Chg (fun k => k = m) w w4) := (Chg.of_ext HX3.out).trans_new (Chg.grown (S := fun k => k = m) HG4.out (fun k e => by injection e with e; exact e.symm)) (fun i _ hi => hi)
    have HC5 : Hid (Chg (fun k => k = m) w w5) := HC4.out.trans (Chg.grown (S := fun k => k = m) HG5.out (fun k e => by injection e with e; exact e.symm))
    have hd4 : w4.heap[d]? = w.heap[d]? := HC4.out.block d H.out.isDisk.lt HSEE.out.dm
    have q0 : w4.cell? ⟨d, 1, none⟩ = some (.map (some m)) := cell_of (hd4.trans HSEE.out.block) rfl
    have q3x := hs3.c1
    have hbx4 := (HG4.out.block _ (Array.getElem?_eq_some_iff.1 HBX.out).1 (fun e => by injection e with e; have := HSEE.out.own.lt; have := HX2.out.size; omega)).trans HBX.out
    have q3 : w4.cell? ⟨w2.heap.size, 0, none⟩ = some (.slice A L c) := cell_of hbx4 rfl
    have q4 : w4.cell? ⟨w2.heap.size, 1, none⟩ = some (.int .i64 (z : Int)) := cell_of hbx4 rfl
    have HD4 := Lib.hid hd4
    have HKEY2 := Lib.hid hkey2
    rw [hw3] at hrun4 q3x
    clear hs3 hkey hkey2 hown4 hg4 hcnt hown5 hg5 hd4 hbx4 hw3
    go_wp2_with fail
    go_region
    clear q0 q3 q4 q2 q3x hl hrun4 hrun5
    go_wp2_with fail
    go_ret
    have hcon := HSEE.out.con
    have hcm := there_cur HOK.out.2.2
    have hcn := cur_name F s.data.toList
    have hsee4 : Seen w4 d m S (del F s.data.toList) V (D.del (.string s.data.toList)) room :=
      ⟨HD4.out.trans HSEE.out.block, by have := own_exact HOWN4.out; rw [(hcon.drop s.data.toList).size] at this; exact this, hcon.drop _, HSEE.out.mine⟩
    have hkeep : ∀ g ∈ F, ∀ b, blk (V g.name) = some b → b ≠ m := fun g hg b hb e => by
      obtain ⟨h1, _, cc, h3⟩ := (HFI.out g hg).blk_lt hb
      obtain ⟨es, clock, hm, _⟩ := HSEE.out.own
      rw [e, hm] at h3; cases h3
    have hdisk4 : Disk w4 S B d room (del F s.data.toList) := H.out.dropped HSEE.out HBM.out HAP.out (fun f hf => (HFI.out f hf).keep1 (fun b hb => HC4.out.block b ((HFI.out f hf).blk_lt hb).1 (hkeep f hf b hb)) (fun _ hk => hk)) _ HD4.out HOWN4.out
    have hVn := HVF.out _ hcm hcn
    have hfile := HFI.out _ hcm
    have hkc := hkeep _ hcm
    rw [hcn, ] at hVn hfile hkc
    have hperm := del_perm hcon.nodup hcm
    rw [hcn] at hperm
    have ht1 := tot_perm hperm
    have ht2 := hperm.length_eq
    rw [tot_cons] at ht1
    rw [List.length_cons] at ht2
    have ht3 := tot_upd (del_nodup (n := s.data.toList) hcon.nodup) ⟨s2.data.toList, (cur F s.data.toList).data, (cur F s.data.toList).lasts⟩
    have ht4 := len_upd (del_nodup (n := s.data.toList) hcon.nodup) ⟨s2.data.toList, (cur F s.data.toList).data, (cur F s.data.toList).lasts⟩
    have hH1 := H.out.tot
    have hH2 := H.out.cnt
    refine ⟨rfl, S, hdisk4.updated hsee4 HBM.out (fun f hf g hg => HAP.out f (mem_del.1 hf).1 g (mem_del.1 hg).1) ⟨s2.data.toList, (cur F s.data.toList).data, (cur F s.data.toList).lasts⟩ _ ?_ HOWN5.out (lawS.key HKEY2.out) ?_ ?_ ?_ (fun _ hk => hk) ?_ ?_ HOK.out.2.1, ?_, fun _ hk => .inl hk⟩
    · exact HG5.out.block d (Nat.lt_of_lt_of_le H.out.isDisk.lt HC4.out.size) (fun e => HSEE.out.dm (by injection e))
    · refine ⟨⟨.slice A L c, by rw [HZZ.out]; rfl, ?_, HBLK.out.2.2⟩, by have := HBLK.out.2.1; rw [HLL.out] at this; exact this, HBLK.out.1⟩
      rw [← HLL.out]
      refine row_kept HROW.out (fun g hg => ?_)
      have h1 : blk (V s.data.toList) = some g := by rw [hVn]; exact hg
      obtain ⟨h2, _, _⟩ := hfile.blk_lt h1
      exact (HC5.out.block g h2 (hkc g h1)).trans (HX2.out.block g h2).symm
    · exact fun g hg _ => (HFI.out g (mem_del.1 hg).1).keep1 (fun b hb => HC5.out.block b ((HFI.out g (mem_del.1 hg).1).blk_lt hb).1 (hkeep g (mem_del.1 hg).1 b hb)) (fun _ hk => hk)
    · intro g hg _ b hb
      refine HAP.out _ hcm g (mem_del.1 hg).1 (fun e => (mem_del.1 hg).2 (e.symm.trans hcn)) b ?_
      rw [hcn, hVn]; exact hb
    · simp only at ht3; omega
    · rw [ht4]; split <;> omega
    · exact HC5.out.mono (fun k _ e => e ▸ HSEE.out.mine.2)
  · have t1 : (x != 0) = true := by simpa using hx0
    have t2 : (x == 0) = false := by simpa using hx0
    clear hx0
    go_wp2_with fail
    go_ret
    exact Did.same H.out HX2.out
end Go.Proofs.Ythcepihibnmgfaa
