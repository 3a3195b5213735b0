/- Dcrash Drefw Drefx Dlive, joined. -/
import Derived.Test.YtenhfphgobalfaaMa6
import Derived.Maps.AppendAt

/- Crash. -/
namespace Go.Proofs.Ytenhfphgobalfaa
open Go.RowKit Go.Maps

/-- Crash's answer. -/
def crashN (F : List Fl) (ks : List (ByteArray × Int)) : Int := match (kn ks).all good with | true => wrongN F ks | false => 2
/-- A disk that a crash leaves, or none. -/
def CrashAns (w : World) (room : Nat) (F : List Fl) (ks : List (ByteArray × Int)) (e : Ending) (w' : World) : Prop :=
  (crashN F ks ≠ 0 ∧ e = .returned (.tuple #[.pointer none, .int .i64 (crashN F ks)]) ∧ Below w.heap.size w w') ∨
  (crashN F ks = 0 ∧ ∃ d', e = .returned (.tuple #[.pointer (some ⟨d', 0, none⟩), .int .i64 0]) ∧ Disk w' (Frm w.heap.size) w.heap.size d' room (F.map (crashed ks)) ∧ Below w.heap.size w w')

theorem enters_crash1 : ∀ args w, (callFunc 41 args).run Try.prog w = .ok (.enter 41 args) w := enters_of Try.func41 (by kernel_rfl) rfl
theorem crashN_ok {F : List Fl} {ks : List (ByteArray × Int)} (h : crashN F ks = 0) : anyNeg ks = false := by
  unfold crashN at h
  cases hg : (kn ks).all good <;> rw [hg] at h
  · cases h
  · unfold wrongN at h
    cases hd : dupneg ks <;> rw [hd] at h
    · unfold dupneg at hd
      simp at hd
      exact hd.2
    · cases h

theorem Disk.low {w : World} {S : Nat → Prop} {B B' d room : Nat} {F : List Fl} (h : Disk w S B d room F) (hB : B' ≤ B) : Disk w S B' d room F := by
  obtain ⟨⟨m, D, V, h1, h2, h3, h4, h5, h6, h7⟩, a, b, c, e, f, g, i⟩ := h
  exact ⟨⟨m, D, V, h1, h2, h3, fun x hx => by obtain ⟨⟨u, q1, q2, q3⟩, q4, q5⟩ := h4 x hx; exact ⟨⟨u, q1, ownsRow_base q2 hB, q3⟩, q4, q5⟩, h5, h6, Nat.le_trans hB h7⟩, a, Nat.le_trans hB b, c, e, f, g, i⟩
/-- Behind k of what is told. -/
structure CrI (w : World) (d : Nat) (A : Option Addr) (c : Nat) (ks : List (ByteArray × Int)) (k : Nat) (wr : World) : Prop where
  map : wr.ownsMap Try.prog 9 (plainElem Try.prog 3) (w.heap.size + 2) k (loosed (ks.take k))
  bmap : Boxed wr (w.heap.size + 3) 84 (.map (some (w.heap.size + 2)))
  bkeep : Boxed wr (w.heap.size + 1) 36 (.slice A ks.length c)
  bd : Boxed wr w.heap.size 25 (.pointer (some ⟨d, 0, none⟩))
  names : ∃ v, Boxed wr (w.heap.size + 4) 73 v ∧ wr.ownsRow (w.heap.size + 5) 9 1 v k ((ks.take k).map fun x => Value.string x.1)
  below : Below w.heap.size w wr

set_option maxRecDepth 100000 in
set_option maxHeartbeats 4000000 in
theorem crash_any {w : World} {S : Nat → Prop} {B d room : Nat} {F : List Fl} (h : Disk w S B d room F) {A : Option Addr} {c : Nat} {ks : List (ByteArray × Int)} (hk : Kepts w A ks) :
    Calls Try.prog 18 #[.pointer (some ⟨d, 0, none⟩), .slice A ks.length c] w (CrashAns w room F ks) := by
  obtain ⟨m, D, V, hsee, hfiles, hBm, hap⟩ := h.seen
  have H := Lib.hid h
  have HSEE := Lib.hid hsee
  have HFI := Lib.hid hfiles
  have HK := Lib.hid hk
  have hkl : (ks.length : Int) ≤ 1000000000000 := by have := hk.len; omega
  obtain ⟨i0, hi0, hz0, hz1, hz2⟩ := info_parts t9info
  have HI0 := Lib.hid hi0
  clear hsee hfiles hBm hap h hk hi0
  have hmm := @run_makeMap Try.prog
  go_enter Try.func18, Try.ntmps18
  go_wp2_with fail
  clear hmm
  obtain ⟨w1, hw1⟩ : ∃ w1, w1 = ((((w.alloc (.cells #[.pointer (some ⟨d, 0, none⟩)] 25)).alloc (.cells #[.slice A ks.length c] 36)).alloc (.map #[] 0)).alloc (.cells #[.map (some (w.heap.size + 1 + 1))] 84)).alloc (.cells #[.slice none 0 0] 73) := ⟨_, rfl⟩
  rw [← hw1]
  have HI : Hid (CrI w d A c ks 0 w1) := by
    have hx : Ext w w1 := by rw [hw1]; exact ((((ext_alloc _ _).trans (ext_alloc _ _)).trans (ext_alloc _ _)).trans (ext_alloc _ _)).trans (ext_alloc _ _)
    refine ⟨?_, ?_, ?_, ?_, ⟨.slice none 0 0, ?_, World.ownsRow_nil _ _ _ _⟩, hx⟩
    · rw [hw1]
      have h := World.ownsMap_made ((w.alloc (.cells #[.pointer (some ⟨d, 0, none⟩)] 25)).alloc (.cells #[.slice A ks.length c] 36)) Try.prog 9 (plainElem (H := Value) Try.prog 3)
      simpa [loosed] using (h.alloc (.cells #[.map (some (w.heap.size + 1 + 1))] 84)).alloc (.cells #[.slice none 0 0] 73)
    · rw [hw1]; exact ext_heap (ext_alloc _ _) (heap_at _ _ (by simp))
    · rw [hw1]; exact ext_heap (((ext_alloc _ _).trans (ext_alloc _ _)).trans (ext_alloc _ _)) (heap_at _ _ (by simp))
    · rw [hw1]; exact ext_heap ((((ext_alloc _ _).trans (ext_alloc _ _)).trans (ext_alloc _ _)).trans (ext_alloc _ _)) (heap_at _ _ rfl)
    · rw [hw1]; exact heap_at _ _ (by simp)
  clear hw1
  go_loopw [9, 15] (fun _ i wr => ∃ k : Nat, k ≤ ks.length ∧ i = .int .i64 (k : Int) ∧ Hid (CrI w d A c ks k wr)) (fun _ i _ => ks.length - (intOf i).toNat)
  case atStart => exact ⟨0, Nat.zero_le _, rfl, HI⟩
  case round =>
    obtain ⟨k, hk, rfl, HR⟩ := hrel
    by_cases hlt : k < ks.length
    · obtain ⟨b, o, rfl, hb, h1, h2⟩ := (HK.out.ext HR.out.below).at_ hlt
      have HM := Lib.hid (List.getElem_mem hlt)
      have HTK : Hid (ks.take (k + 1) = ks.take k ++ [ks[k]]) := List.take_succ_eq_append_getElem hlt
      obtain ⟨s, hs⟩ : ∃ s, s = ks[k].1 := ⟨_, rfl⟩
      obtain ⟨z, hz⟩ : ∃ z, z = ks[k].2 := ⟨_, rfl⟩
      rw [← hs] at h1
      rw [← hz] at h2
      have HSS := Lib.hid hs
      have HZZ := Lib.hid hz
      have hwi : IntKind.i64.wrap ((k : Int) * 2) = (k : Int) * 2 := IntWalk.i64_in _ (by omega)
      obtain ⟨v, hbox, hrow⟩ := HR.out.names
      obtain ⟨A0, c0, rfl, _, _, _, _⟩ := Sl.of_own hrow
      have HROW := Lib.hid hrow
      have HBOX := Lib.hid hbox
      have hsz : s.size ≤ maxLen := by rw [hs]; exact HK.out.sz _ HM.out
      have hzw : (Lit.int .i64 z).wf = true := by have := HK.out.wf _ HM.out; rw [← hz] at this; exact WalkArith.wf_i64 (by omega)
      have hkey : keyOf Try.prog 9 (.string s) = some (.string s.data.toList) := WideMaps.keyOf_string_mk Try.underlying9 hsz
      obtain ⟨u2, hrun2, hown2, hg2⟩ := (HR.out.map.alloc (.cells #[.string s, .int .i64 z] 47)).update lawS lawI (by unfold maxLen; omega) hkey (plainElem_int Try.underlying3 hzw)
      have HOWN2 := Lib.hid hown2
      have HG2 := Lib.hid hg2
      have hwr := HR.out.below.size
      have hmlt := HR.out.map.lt
      have hn4 := HBOX.out.lt
      have HC2 : Hid (Chg (fun i => i = w.heap.size + 2) wr u2) := (Chg.alloc wr _).trans (Chg.grown HG2.out (fun i e => by injection e with e; exact e.symm))
      have hq : u2.heap[wr.heap.size]? = some (.cells #[.string s, .int .i64 z] 47 (0, 0)) := (HG2.out.block _ (by simp) (fun e => by injection e with e; omega)).trans (heap_at _ _ rfl)
      have q0 := HR.out.bmap.cell
      have q1 := cell_of (k := 0) hq rfl
      have q3 := (boxed_chg HBOX.out HC2.out (by omega)).cell
      have HB4 := Lib.hid (boxed_chg HBOX.out HC2.out (by omega))
      have HROW2 := Lib.hid (row_chg HROW.out HC2.out (fun i h1 h2 => by omega))
      have HZ5 : Hid (w.heap.size + 5 ≤ wr.heap.size) := by unfold Hid; omega
      have q0a := cell_new q0 (.cells #[.string s, .int .i64 z] 47)
      clear hbox hrow hown2 hg2 hq hsz hzw hkey hmlt hn4 hwr hs hz hb
      go_wp2_with (at_builtin; refine wpList_append_own _ rfl _ _ 73 rfl (w.heap.size + 5) 9 i0 (.string ⟨#[]⟩) 1 16 Try.underlying73 HI0.out hz0 hz1 hz2 rfl (by decide) _ _ _ rfl (HROW2.out.alloc _) ⟨u2.heap.size, 0, none⟩ 1 1 [.string s] rfl rfl (cell_one_new _ _ _) (by simp [Value.oneCell']) (by unfold maxLen; omega) (by omega) (by have := HZ5.out; have := HC2.out.size; simp; omega) ?_; intro v' u3 hown' hgrow _; obtain ⟨g', cap', rfl⟩ := ownsRow_succ hown'; have HOWN3 := Lib.hid hown'; have HG3 := Lib.hid hgrow; have q4 := (HB4.out.alloc (.cells #[.string s] 9)).kept hgrow (fun e => by have := (row_lt HROW2.out _ e.symm).1; omega); have q5 := q4.cell; have q6 := q4.frozen; clear hown' hgrow)
      have hz5 := HZ5.out
      have hc3 : Chg (fun i => i = w.heap.size + 2 ∨ w.heap.size + 5 ≤ i) wr u3 := ((HC2.out.mono fun i _ e => .inl e).trans (Chg.alloc u2 _)).trans (Chg.grown HG3.out (fun i e => .inr (row_lt HROW2.out i e).1))
      have hc4 : Chg (fun i => i = w.heap.size + 2 ∨ i = w.heap.size + 4 ∨ w.heap.size + 5 ≤ i) wr (u3.setCell ⟨w.heap.size + 4, 0, none⟩ (.slice (some ⟨g', 0, none⟩) (k + 1) cap')) :=
        (hc3.mono fun i _ e => e.elim .inl (fun h => .inr (.inr h))).trans (Chg.setCell _ _ _ (.inr (.inl rfl)))
      have hm : (u3.setCell ⟨w.heap.size + 4, 0, none⟩ (.slice (some ⟨g', 0, none⟩) (k + 1) cap')).heap[w.heap.size + 2]? = u2.heap[w.heap.size + 2]? := by
        have hlt2 := HOWN2.out.lt
        refine (Below.heap_setCell _ _ _ _ (by simp)).trans ((HG3.out.block _ (by simp; omega) (fun e => by have := (row_lt HROW2.out _ e.symm).1; omega)).trans (Below.heap_alloc _ _ _ hlt2))
      go_roundw
      case rel =>
        refine ⟨k + 1, by omega, by go_num, ⟨?_, boxed_chg HR.out.bmap hc4 (by omega), boxed_chg HR.out.bkeep hc4 (by omega), boxed_chg HR.out.bd hc4 (by omega), ⟨_, q4.set _, ?_⟩, HR.out.below.trans (hc4.below (fun i hi => by omega) HR.out.below.size)⟩⟩
        · rw [HTK.out, loosed_snoc, ← HSS.out, ← HZZ.out]
          exact map_kept HOWN2.out hm
        · rw [HTK.out, List.map_append, List.map_singleton, ← HSS.out]
          exact row_kept HOWN3.out (fun g hg => Below.heap_setCell _ _ _ _ (fun e => by have e : g = w.heap.size + 4 := e; have := (row_lt HOWN3.out g hg).1; omega))
      case measure => simp [intOf]; omega
    · obtain rfl : k = ks.length := by omega
      have HRX := Lib.hid HR.out.below
      obtain ⟨v, hbox, hrow⟩ := HR.out.names
      obtain ⟨A0, c0, rfl, _, _, hl3, hsl⟩ := Sl.of_own hrow
      have hmapI := HR.out.map
      rw [List.take_length] at hrow hsl hmapI
      have HMAP := Lib.hid hmapI
      have HNM : Hid (Names wr A0 (ks.map (·.1))) := ⟨by
          have := hsl.wide (Nat.zero_le _) (Nat.le_refl _)
          rw [List.map_map]; exact this, fun s hs => by obtain ⟨x, hx, rfl⟩ := List.mem_map.1 hs; exact HK.out.sz x hx, by rw [List.length_map]; have := HK.out.len; omega⟩
      have HIS := Lib.hid (H.out.isDisk.ext HRX.out)
      have q0 := HR.out.bd.cell
      have q1 := hbox.cell
      have HB0 := Lib.hid HR.out.bmap
      have HB1 := Lib.hid HR.out.bkeep
      have HB2 := Lib.hid HR.out.bd
      have HB3 := Lib.hid hbox
      have HW := Lib.hid (wrong_is (HSEE.out.ext HRX.out) (fun f hf => (HFI.out f hf).shape) (HK.out.ext HRX.out) HNM.out HMAP.out HB0.out.cell HB1.out.cell HB3.out.cell HB2.out.cell)
      obtain ⟨x, hx⟩ : ∃ x, x = crashN F ks := ⟨_, rfl⟩
      have HX := Lib.hid hx
      have HLEN : Hid ((ks.map (·.1)).length = ks.length) := by simp [Hid]
      have HREF := Lib.hid (refused_any HIS.out (c := c0) HNM.out enters_crash1 (lb := #[.pointer (some ⟨w.heap.size + 3, 0, none⟩), .pointer (some ⟨w.heap.size + 1, 0, none⟩), .pointer (some ⟨w.heap.size + 4, 0, none⟩), .pointer (some ⟨w.heap.size, 0, none⟩)]) (Q := fun y w' => y = x ∧ Below wr.heap.size wr w')
        (by
          rintro ⟨s, hs, hb⟩
          refine ⟨?_, Below.refl _ _⟩
          have : (kn ks).all good = false := by
            rw [List.all_eq_false]
            obtain ⟨y, hy, rfl⟩ := List.mem_map.1 hs
            exact ⟨_, List.mem_map.2 ⟨y, hy, rfl⟩, by rw [hb]; simp⟩
          rw [HX.out]; unfold crashN; rw [this])
        (by
          intro hg
          refine HW.out.mono ?_
          rintro e w' ⟨rfl, hb⟩
          refine ⟨_, rfl, ?_, hb⟩
          have : (kn ks).all good = true := by
            rw [List.all_eq_true]
            intro n hn
            obtain ⟨y, hy, rfl⟩ := List.mem_map.1 hn
            exact hg y.1 (List.mem_map.2 ⟨y, hy, rfl⟩)
          rw [HX.out]; unfold crashN; rw [this]))
      rw [HLEN.out] at HREF
      clear hbox hrow hl3 hsl hmapI hx
      go_wp2_with fail
      refine Calls.mono HREF.out ?_
      rintro e w2 ⟨y, rfl, rfl, hb⟩
      have HX2 : Hid (Ext wr w2) := hb
      have HXW : Hid (Ext w w2) := Ext.trans HRX.out hb
      clear hb q0 q1
      by_cases hy : y = 0
      · subst hy
        have q0 := ext_cell HX2.out HB2.out.cell
        have HOK := Lib.hid (crashN_ok HX.out.symm)
        have HAN := Lib.hid (another_any (H.out.ext HXW.out) (crashed ks) (fun f hf => ⟨rfl, by rw [crashed_len (HFI.out f hf).lasts]; exact Nat.le_refl _, by rw [crashed_len (HFI.out f hf).lasts]; exact leftN_le (HFI.out f hf).lasts, fun b hb => (HFI.out f hf).bytes b (List.mem_of_mem_take hb)⟩)
          47 #[.pointer (some ⟨w.heap.size + 3, 0, none⟩)] enters_crash2
          (fun A' f v hf hv hb => crash2_left HK.out.sz HK.out.wf HOK.out (map_kept HMAP.out (HX2.out.block _ HMAP.out.lt)) (ext_cell HX2.out HB0.out.cell) A' f v hv (by have := H.out.names f hf; simp [good] at this; unfold maxLen; omega) (by have h1 := tot_mem hf; have h2 := H.out.tot; have h3 := H.out.hi; omega) hb))
        go_wp2_with fail
        refine Calls.mono HAN.out ?_
        rintro e w3 ⟨d', rfl, hd3, hb3⟩
        have HD3 := Lib.hid hd3
        have HX3 : Hid (Ext w2 w3) := hb3
        clear hd3 hb3
        go_wp2_with fail
        go_ret2
        exact .inr ⟨HX.out.symm, d', rfl, (HD3.out.wide (fun k hk => Nat.le_trans HXW.out.size hk)).low HXW.out.size, Ext.trans HXW.out HX3.out⟩
      · have t1 : (y != 0) = true := by simpa using hy
        have HF : Hid (CrashAns w room F ks (.returned (.tuple #[.pointer none, .int .i64 y])) w2) := .inl ⟨by rw [← HX.out]; exact hy, by rw [HX.out], HXW.out⟩
        clear hy
        go_wp2_with fail
        go_ret2
        exact HF.out
end Go.Proofs.Ytenhfphgobalfaa

/- The reference's disk: a Crash that is refused. -/
namespace Go.Proofs.Ytenhfphgobalfaa
open Go.RowKit

/-- Is there a file of that name? -/
def isIn (G : List RFl) (x : List UInt8) : Bool := G.any fun f => f.name == x
/-- A name's error. -/
def rseekN (G : List RFl) (x : List UInt8) : Int := match good x with | false => 2 | true => match isIn G x with | true => 0 | false => 6
theorem rseekN_any {w : World} {B r room : Nat} {G : List RFl} (h : RD w B r room G) (s : ByteArray) (hs : s.size ≤ maxLen) :
    Calls Try.prog 21 #[.pointer (some ⟨r, 0, none⟩), .string s] w fun e w' => ∃ i : Int, e = .returned (.tuple #[.int .i64 i, .int .i64 (rseekN G s.data.toList)]) ∧ w = w' := by
  refine (seek_any h s hs).mono ?_
  rintro e w' ⟨rfl, ⟨hg, rfl⟩ | ⟨hg, hn, rfl⟩ | ⟨hg, k, hk, hx, hn, rfl⟩⟩
  · exact ⟨-1, by simp [rseekN, hg], rfl⟩
  · refine ⟨-1, ?_, rfl⟩
    have : isIn G s.data.toList = false := by
      unfold isIn
      rw [List.any_eq_false]
      intro f hf
      simpa using hn f hf
    simp [rseekN, hg, this]
  · refine ⟨k, ?_, rfl⟩
    have : isIn G s.data.toList = true := by
      unfold isIn
      rw [List.any_eq_true]
      exact ⟨G[k], List.getElem_mem hk, by simpa using hx⟩
    simp [rseekN, hg, this]

/-- May that be kept? -/
def okK (ks : List (ByteArray × Int)) : Prop := (∀ p ∈ ks, good p.1.data.toList = true ∧ 0 ≤ p.2) ∧ ks.Pairwise fun p q => p.1.data.toList ≠ q.1.data.toList
/-- Is a file of them not there? -/
def missK (G : List RFl) (ks : List (ByteArray × Int)) : Bool := ks.any fun p => !isIn G p.1.data.toList
theorem missK_snoc {G : List RFl} {ks : List (ByteArray × Int)} {p : ByteArray × Int} (hg : rseekN G p.1.data.toList ≠ 2) : missK G (ks ++ [p]) = (missK G ks || (rseekN G p.1.data.toList == 6)) := by
  unfold missK
  rw [List.any_append]
  congr 1
  simp only [List.any_cons, List.any_nil, Bool.or_false]
  cases hgd : good p.1.data.toList
  · exact absurd (by unfold rseekN; rw [hgd]) hg
  · unfold rseekN
    rw [hgd]
    cases isIn G p.1.data.toList <;> rfl
theorem rseekN_two {G : List RFl} {x : List UInt8} : rseekN G x = 2 ↔ good x = false := by
  unfold rseekN
  cases good x
  · simp
  · cases isIn G x <;> simp
theorem okK_snoc {ks : List (ByteArray × Int)} {k : Nat} {p : ByteArray × Int} (h : (∀ i q, i < k → ks[i]? = some q → good q.1.data.toList = true ∧ 0 ≤ q.2) ∧ ∀ i j q q', i < k → i < j → ks[i]? = some q → ks[j]? = some q' → q.1.data.toList ≠ q'.1.data.toList) (hp : ks[k]? = some p) (h1 : good p.1.data.toList = true) (h2 : 0 ≤ p.2) (h3 : ∀ j q', k < j → ks[j]? = some q' → p.1.data.toList ≠ q'.1.data.toList) :
    (∀ i q, i < k + 1 → ks[i]? = some q → good q.1.data.toList = true ∧ 0 ≤ q.2) ∧ ∀ i j q q', i < k + 1 → i < j → ks[i]? = some q → ks[j]? = some q' → q.1.data.toList ≠ q'.1.data.toList := by
  refine ⟨fun i q hi hq => ?_, fun i j q q' hi hij hq hq' => ?_⟩
  · by_cases e : i = k
    · rw [e, hp] at hq; injection hq with hq; rw [← hq]; exact ⟨h1, h2⟩
    · exact h.1 i q (by omega) hq
  · by_cases e : i = k
    · rw [e] at hij; rw [e, hp] at hq; injection hq with hq; rw [← hq]; exact h3 j q' hij hq'
    · exact h.2 i j q q' (by omega) hij hq hq'
theorem okK_of {ks : List (ByteArray × Int)} (h : (∀ i q, i < ks.length → ks[i]? = some q → good q.1.data.toList = true ∧ 0 ≤ q.2) ∧ ∀ i j q q', i < ks.length → i < j → ks[i]? = some q → ks[j]? = some q' → q.1.data.toList ≠ q'.1.data.toList) : okK ks := by
  refine ⟨fun p hp => ?_, List.pairwise_iff_getElem.2 fun i j hi hj hij => h.2 i j _ _ hi hij (List.getElem?_eq_getElem hi) (List.getElem?_eq_getElem hj)⟩
  obtain ⟨i, hi, rfl⟩ := List.mem_iff_getElem.1 hp
  exact h.1 i _ hi (List.getElem?_eq_getElem hi)

set_option maxRecDepth 100000 in
set_option maxHeartbeats 8000000 in
theorem crashRef_wrong {w : World} {B r room : Nat} {G : List RFl} (h : RD w B r room G) {A : Option Addr} {c : Nat} {ks : List (ByteArray × Int)} (hk : Kepts w A ks) (hbad : ¬ okK ks ∨ missK G ks = true) :
    Calls Try.prog 40 #[.pointer (some ⟨r, 0, none⟩), .slice A ks.length c] w fun e w' => ((¬ okK ks ∧ e = .returned (.tuple #[.pointer none, .int .i64 2])) ∨ (okK ks ∧ missK G ks = true ∧ e = .returned (.tuple #[.pointer none, .int .i64 6]))) ∧ Ext w w' := by
  have H := Lib.hid h
  have HKE := Lib.hid hk
  have HBAD := Lib.hid hbad
  have hlen := hk.len
  clear h hk hbad
  go_enter Try.func40, Try.ntmps40
  go_wp2_with fail
  go_loopw [6, 7] (fun v a wr => ∃ k : Nat, v = .bool (missK G (ks.take k)) ∧ a = .int .i64 (k : Int) ∧ k ≤ ks.length ∧ Hid ((∀ i q, i < k → ks[i]? = some q → good q.1.data.toList = true ∧ 0 ≤ q.2) ∧ ∀ i j q q', i < k → i < j → ks[i]? = some q → ks[j]? = some q' → q.1.data.toList ≠ q'.1.data.toList) ∧ Hid (Ext w wr)) (fun _ a _ => ks.length - (intOf a).toNat)
  case atStart => exact ⟨0, by simp [missK], rfl, by omega, ⟨fun i q hi => by omega, fun i j q q' hi => by omega⟩, Ext.refl _⟩
  case round =>
    obtain ⟨k, rfl, rfl, hkl, HOK, HX⟩ := hrel
    have HWK : Hid (wrap64 ((k : Int) + 1) = ((k + 1 : Nat) : Int)) := by unfold Hid wrap64; omega
    by_cases hlt : k < ks.length
    rotate_left
    · have d : decide ((k : Int) < (ks.length : Int)) = false := by simp; omega
      have d2 : decide (k < ks.length) = false := by simp; omega
      obtain rfl : k = ks.length := by omega
      have hok := okK_of HOK.out
      have hms : missK G (ks.take ks.length) = true := by
        rw [List.take_length]
        rcases HBAD.out with h | h
        · exact absurd hok h
        · exact h
      rw [hms]
      have HOKK := Lib.hid hok
      rw [List.take_length] at hms
      have HMS := Lib.hid hms
      clear hok hms hlt hkl
      go_wp2_with fail
      go_ret2
      exact ⟨.inr ⟨HOKK.out, HMS.out, rfl⟩, HX.out⟩
    have d : decide ((k : Int) < (ks.length : Int)) = true := by simp; omega
    have d2 : decide (k < ks.length) = true := by simp; omega
    obtain ⟨b, o, rfl, hb, q0, q1⟩ := HKE.out.at_ hlt
    obtain ⟨s, hs⟩ : ∃ s, s = (ks[k]'hlt).1 := ⟨_, rfl⟩
    obtain ⟨z, hz⟩ : ∃ z, z = (ks[k]'hlt).2 := ⟨_, rfl⟩
    have HP : Hid (ks[k]? = some (s, z)) := by rw [hs, hz]; exact List.getElem?_eq_getElem hlt
    have HSS : Hid (s.size ≤ maxLen) := by rw [hs]; exact HKE.out.sz _ (List.getElem_mem hlt)
    rw [← hs] at q0
    rw [← hz] at q1
    have HQ0 := Lib.hid q0
    have HQ1 := Lib.hid q1
    have c0 := ext_cell HX.out q0
    have c1 := ext_cell HX.out q1
    obtain ⟨nz, hnz⟩ : ∃ nz, nz = missK G (ks.take k) := ⟨_, rfl⟩
    rw [← hnz]
    have HNZ := Lib.hid hnz
    have HLT := Lib.hid hlt
    have n3 : (0 : Int) ≤ (k : Int) := by omega
    have n4 : (k : Int) < (ks.length : Int) := by omega
    obtain ⟨eN, heN⟩ : ∃ eN, eN = rseekN G s.data.toList := ⟨_, rfl⟩
    have HEN := Lib.hid heN
    clear q0 q1 hs hz hb hnz hlt hkl
    go_wp2_with fail
    refine (rseekN_any (H.out.ext HX.out) s HSS.out).mono ?_
    rintro e w1 ⟨pi, rfl, rfl⟩
    rw [← heN]
    clear heN
    go_upto_region 8 with (fail)
    obtain ⟨z1, hz1⟩ : ∃ z1 : Bool, z1 = (nz || (eN == 6)) := ⟨_, rfl⟩
    have HZ1 := Lib.hid hz1
    clear hz1
    go_cut [6] from 17 to 66 (fun v wx => v = .bool z1 ∧ wx = wr)
    case first =>
      cases nz
      · go_wp2_with fail
        go_meet
        case rel => exact ⟨by rw [HZ1.out, Bool.false_or], rfl⟩
      · go_wp2_with fail
        go_meet
        case rel => exact ⟨by rw [HZ1.out, Bool.true_or], rfl⟩
    case rest =>
      obtain ⟨rfl, rfl⟩ := hcut
      by_cases hg : eN = 2
      · have e1 : (eN == 2) = true := by simp [hg]
        have HB1 : Hid (good s.data.toList = false) := rseekN_two.1 (HEN.out.symm.trans hg)
        clear hg
        go_wp2_with fail
        go_ret2
        refine ⟨.inl ⟨fun h => ?_, rfl⟩, HX.out⟩
        have := (h.1 _ (List.mem_of_getElem? HP.out)).1
        rw [HB1.out] at this; cases this
      have e1 : (eN == 2) = false := by simp [hg]
      have HG2 : Hid (good s.data.toList = true) := by
        cases hq : good s.data.toList
        · exact absurd (HEN.out.trans (rseekN_two.2 hq)) hg
        · exact (rfl : true = true)
      have HG3 : Hid (rseekN G s.data.toList ≠ 2) := fun h => hg (HEN.out.trans h)
      clear hg
      by_cases hz : z < 0
      · have e2 : decide (z < 0) = true := decide_eq_true hz
        have HZN := Lib.hid hz
        clear hz
        go_wp2_with fail
        go_ret2
        refine ⟨.inl ⟨fun h => ?_, rfl⟩, HX.out⟩
        have h2 := (h.1 _ (List.mem_of_getElem? HP.out)).2
        have h3 := HZN.out
        dsimp only at h2
        omega
      have e2 : decide (z < 0) = false := decide_eq_false hz
      have HZP : Hid (0 ≤ z) := by unfold Hid; omega
      have hw := HWK.out
      clear hz
      go_wp2_with fail
      clear hw
      go_loopw [10] (fun a ws => ∃ j : Nat, a = .int .i64 (j : Int) ∧ k + 1 ≤ j ∧ j ≤ ks.length ∧ Hid (∀ m q', k < m → m < j → ks[m]? = some q' → s.data.toList ≠ q'.1.data.toList) ∧ Hid (Ext w ws)) (fun a _ => ks.length - (intOf a).toNat)
      case atStart => exact ⟨k + 1, by first | rfl | rw [HWK.out], by omega, HLT.out, fun m q' h1 h2 => by omega, HX.out⟩
      case round =>
        obtain ⟨j, rfl, hkj, hjl, HJ, HX5⟩ := hrel
        have HWJ : Hid (wrap64 ((j : Int) + 1) = ((j + 1 : Nat) : Int)) := by unfold Hid wrap64; omega
        by_cases hlt : j < ks.length
        rotate_left
        · have d3 : decide ((j : Int) < (ks.length : Int)) = false := by simp; omega
          have d4 : decide (j < ks.length) = false := by simp; omega
          have HJL : Hid (j = ks.length) := by unfold Hid; omega
          clear hlt hjl hkj
          have hw := HWK.out
          go_wp2_with fail
          refine ⟨⟨k + 1, ?_, by first | rfl | rw [hw], HLT.out, ?_, HX5.out⟩, by (try rw [hw]); clear hw; have := HLT.out; simp [intOf]; omega⟩
          · rw [List.take_add_one, HP.out, Option.toList_some, missK_snoc HG3.out, ← HNZ.out, HZ1.out, HEN.out]
          · refine okK_snoc HOK.out HP.out HG2.out HZP.out fun m q' hm hq => HJ.out m q' hm ?_ hq
            have := (List.getElem?_eq_some_iff.1 hq).1
            have := HJL.out
            omega
        have d3 : decide ((j : Int) < (ks.length : Int)) = true := by simp; omega
        have d4 : decide (j < ks.length) = true := by simp; omega
        obtain ⟨s2, hs2⟩ : ∃ s2, s2 = (ks[j]'hlt).1 := ⟨_, rfl⟩
        obtain ⟨b', o', he, _, q2, _⟩ := HKE.out.at_ hlt
        injection he with he
        injection he with he5 he6
        subst he5 he6
        rw [← hs2] at q2
        have HP2 : Hid (ks[j]? = some (s2, (ks[j]'hlt).2)) := by rw [hs2]; exact List.getElem?_eq_getElem hlt
        have p2 := ext_cell HX5.out q2
        have p0 := ext_cell HX5.out HQ0.out
        have n5 : (0 : Int) ≤ (j : Int) := by omega
        have n6 : (j : Int) < (ks.length : Int) := by omega
        have HKJ := Lib.hid hkj
        have HJL := Lib.hid hlt
        by_cases hss : s2.data.toList = s.data.toList
        · have e3 : (s2.toList == s.toList) = true := by rw [ByteArray.toList_eq, ByteArray.toList_eq, beq_iff_eq]; exact hss
          have HNO : Hid (¬ okK ks) := fun h => by
            have h1 := List.pairwise_iff_getElem.1 h.2 k j HLT.out hlt (by omega)
            have h2 := (List.getElem?_eq_some_iff.1 HP.out).2
            rw [h2, ← hs2] at h1
            exact h1 hss.symm
          clear hss hs2 hkj hjl q2
          go_wp2_with fail
          go_quiet (fail)
          go_wp2_with fail
          go_ret2
          exact ⟨.inl ⟨HNO.out, rfl⟩, below_drewN HX5.out _⟩
        · have e3 : (s2.toList == s.toList) = false := by rw [ByteArray.toList_eq, ByteArray.toList_eq, beq_eq_false_iff_ne]; exact hss
          have HNS := Lib.hid hss
          clear hss hs2 hkj hjl q2
          have hw := HWJ.out
          go_wp2_with fail
          go_quiet (fail)
          go_wp2_with fail
          refine ⟨⟨j + 1, by first | rfl | rw [hw], by have := HKJ.out; omega, HJL.out, fun m q' h1 h2 h3 => ?_, below_drewN HX5.out _⟩, by (try rw [hw]); clear hw; have := HJL.out; simp [intOf]; omega⟩
          by_cases hmj : m = j
          · rw [hmj, HP2.out] at h3
            injection h3 with h3
            rw [← h3]; exact fun h => HNS.out h.symm
          · exact HJ.out m q' h1 (by omega) h3
end Go.Proofs.Ytenhfphgobalfaa

/- The reference's disk: a Crash that is done. -/
namespace Go.Proofs.Ytenhfphgobalfaa
open Go.RowKit

/-- What a crash leaves of a file. -/
def rcrashed (ks : List (ByteArray × Int)) (f : RFl) : RFl := ⟨f.name, f.sure ++ f.loose.take (min (toldK ks f.name) (f.loose.length : Int)).toNat, []⟩
/-- What the operations that only read are to give. -/
def crV (r' : Nat) (row : Value) (m : Nat) (n s l : Value) (k : Nat) (l2 sl p : Value) : Nat → Option Value
  | 0 | 1 | 2 | 17 => some (.pointer (some ⟨r', 0, none⟩))
  | 3 | 18 => some (.pointer (some ⟨r', 1, none⟩))
  | 4 => some row
  | 5 => some (.pointer (some ⟨m, 0, none⟩))
  | 6 => some n
  | 7 => some (.pointer (some ⟨m, 1, none⟩))
  | 8 => some s
  | 9 => some (.pointer (some ⟨m, 2, none⟩))
  | 10 => some l
  | 11 => some (.int .i64 (k : Int))
  | 12 => some l2
  | 13 => some sl
  | 14 => some p
  | _ => none
/-- How far the row with one more file has got, and its disk. -/
structure CrJ (r' n : Nat) (w0 : World) (V : Nat → Option Value) (xs ys : List Value) (seen : Nat → Bool) (f : Nat → Value) (u : World) : Prop where
  vals : Fi.VI V seen f
  l16 : seen 16 = true → ∀ j, 1 ≤ j → j < 16 → seen j = true
  l19 : seen 19 = true → ∀ j, j < 19 → seen j = true
  pre : seen 16 = false → Below w0.heap.size w0 u
  low : seen 19 = false → Below (r' + 1) w0 u
  r15 : seen 15 = true → seen 16 = false → ∃ g, f 15 = .slice (some ⟨g, 0, none⟩) 1 1 ∧ u.heap[g]? = some (.cells ys.toArray 45 (0, 0))
  r16 : seen 16 = true → ∃ u1, Below (r' + 1) w0 u1 ∧ u1.ownsRow (r' + 1) 45 3 (f 16) (n + 1) (xs ++ ys) ∧ u = if seen 19 then u1.setCell ⟨r', 1, none⟩ (f 16) else u1
  cw : r' + 1 ≤ w0.heap.size
section
variable {r' n : Nat} {w0 u u' : World} {V : Nat → Option Value} {xs ys : List Value} {seen : Nat → Bool} {f : Nat → Value} {v : Value} {k : Nat}
theorem CrJ.before (h : CrJ r' n w0 V xs ys seen f u) (hk : seen k = false) (h1 : 1 ≤ k) (h2 : k < 16) : seen 16 = false := by
  cases e : seen 16 with
  | false => rfl
  | true => rw [h.l16 e k h1 h2] at hk; cases hk
theorem CrJ.ahead (h : CrJ r' n w0 V xs ys seen f u) (hk : seen k = false) (h2 : k < 19) : seen 19 = false := by
  cases e : seen 19 with
  | false => rfl
  | true => rw [h.l19 e k h2] at hk; cases hk
theorem CrJ.slice16 (h : CrJ r' n w0 V xs ys seen f u) (s : seen 16 = true) : ∃ X m c, f 16 = .slice X m c := by
  obtain ⟨u1, _, h1, _⟩ := h.r16 s
  obtain ⟨O, c, e⟩ := own_slice h1
  exact ⟨_, _, _, e⟩
theorem CrJ.start (f : Nat → Value) (h : w0 = u) (hc : r' + 1 ≤ w0.heap.size) : CrJ r' n w0 V xs ys (fun _ => false) f u.drew := by
  subst h
  exact ⟨fun _ _ _ h => (by cases h), fun h => (by cases h), fun h => (by cases h), fun _ => Below.drew (Below.refl _ _), fun _ => Below.drew (Below.refl _ _), fun h => (by cases h), fun h => (by cases h), hc⟩
theorem CrJ.read (h : CrJ r' n w0 V xs ys seen f u) (hv : V k = some v) (hk : k ≠ 15 ∧ k ≠ 16 ∧ k ≠ 19) : CrJ r' n w0 V xs ys (Fi.upd seen k true) (Fi.upd f k v) u := by
  obtain ⟨k15, k16, k19⟩ := hk
  have a15 := Fi.upd_ne seen true (i := k) (j := 15) (Ne.symm k15)
  have a16 := Fi.upd_ne seen true (i := k) (j := 16) (Ne.symm k16)
  have a19 := Fi.upd_ne seen true (i := k) (j := 19) (Ne.symm k19)
  have b15 := Fi.upd_ne f v (i := k) (j := 15) (Ne.symm k15)
  have b16 := Fi.upd_ne f v (i := k) (j := 16) (Ne.symm k16)
  have mono : ∀ j, seen j = true → Fi.upd seen k true j = true := fun j hj => by
    unfold Fi.upd
    split
    · rfl
    · exact hj
  exact ⟨h.vals.put k v (.inr hv), fun s j h1 h2 => mono j (h.l16 (by rw [a16] at s; exact s) j h1 h2), fun s j h1 => mono j (h.l19 (by rw [a19] at s; exact s) j h1), by rw [a16]; exact h.pre, by rw [a19]; exact h.low, by rw [a15, a16, b15]; exact h.r15, by rw [a16, a19, b16]; exact h.r16, h.cw⟩
theorem CrJ.fifteen (h : CrJ r' n w0 V xs ys seen f u) (hk : seen 15 = false) (n16 : seen 16 = false) (hV : V 15 = none) : CrJ r' n w0 V xs ys (Fi.upd seen 15 true) (Fi.upd f 15 (.slice (some ⟨u.heap.size, 0, none⟩) 1 1)) (u.alloc (.cells ys.toArray 45)) := by
  have n19 := h.ahead hk (by decide)
  have hx := ext_alloc u (.cells ys.toArray 45)
  have hb := (h.pre n16).trans (hx.mono (h.pre n16).size)
  refine ⟨h.vals.put 15 _ (.inl hV), fun s => ?_, fun s => ?_, fun _ => hb, fun _ => hb.mono h.cw, fun _ _ => ?_, fun s => ?_, h.cw⟩
  · rw [Fi.upd_ne _ _ (by decide), n16] at s; cases s
  · rw [Fi.upd_ne _ _ (by decide), n19] at s; cases s
  · rw [Fi.upd_at]; exact ⟨_, rfl, heap_at _ _ rfl⟩
  · rw [Fi.upd_ne _ _ (by decide), n16] at s; cases s
theorem CrJ.sixteen (h : CrJ r' n w0 V xs ys seen f u) (hk : seen 16 = false) (hV : V 16 = none) (v : Value) (hb : Below (r' + 1) w0 u') (hrow : u'.ownsRow (r' + 1) 45 3 v (n + 1) (xs ++ ys)) (hall : ∀ j, 1 ≤ j → j < 16 → seen j = true) : CrJ r' n w0 V xs ys (Fi.upd seen 16 true) (Fi.upd f 16 v) u' := by
  have n19 := h.ahead hk (by decide)
  refine ⟨h.vals.put 16 v (.inl hV), fun _ j h1 h2 => ?_, fun s => ?_, fun s => ?_, fun _ => hb, fun _ s => ?_, fun _ => ?_, h.cw⟩
  · rw [Fi.upd_ne _ _ (by omega)]; exact hall j h1 h2
  · rw [Fi.upd_ne _ _ (by decide), n19] at s; cases s
  · rw [Fi.upd_at] at s; cases s
  · rw [Fi.upd_at] at s; cases s
  · rw [Fi.upd_at, Fi.upd_ne _ _ (by decide), n19]
    exact ⟨u', hb, hrow, rfl⟩
theorem CrJ.store (h : CrJ r' n w0 V xs ys seen f u) (hk : seen 19 = false) (s16 : seen 16 = true) (s0 : seen 0 = true) (s17 : seen 17 = true) (s18 : seen 18 = true) (hV : V 19 = none) (v : Value) : CrJ r' n w0 V xs ys (Fi.upd seen 19 true) (Fi.upd f 19 v) (u.setCell ⟨r', 1, none⟩ (f 16)) := by
  have hall : ∀ j, j < 19 → seen j = true := fun j hj => by
    have : j = 0 ∨ (1 ≤ j ∧ j < 16) ∨ j = 16 ∨ j = 17 ∨ j = 18 := by omega
    rcases this with rfl | ⟨h1, h2⟩ | rfl | rfl | rfl
    · exact s0
    · exact h.l16 s16 j h1 h2
    · exact s16
    · exact s17
    · exact s18
  refine ⟨h.vals.put 19 v (.inl hV), fun _ j h1 h2 => ?_, fun _ j hj => ?_, fun s => ?_, fun s => ?_, fun _ s => ?_, fun _ => ?_, h.cw⟩
  · rw [Fi.upd_ne _ _ (by omega)]; exact hall j (by omega)
  · rw [Fi.upd_ne _ _ (by omega)]; exact hall j hj
  · rw [Fi.upd_ne _ _ (by decide), s16] at s; cases s
  · rw [Fi.upd_at] at s; cases s
  · rw [Fi.upd_ne _ _ (by decide), s16] at s; cases s
  · obtain ⟨u1, h1, h2, h3⟩ := h.r16 s16
    rw [hk] at h3
    rw [Fi.upd_at, Fi.upd_ne _ _ (by decide)]
    exact ⟨u1, h1, h2, by rw [h3]; rfl⟩
end

theorem toldK_nonneg {ks : List (ByteArray × Int)} (h : okK ks) (x : List UInt8) : 0 ≤ toldK ks x := by
  have h1 := h.1
  clear h
  induction ks with
  | nil => exact Int.le_refl _
  | cons p ks ih =>
    unfold toldK
    split
    · exact (h1 p (by simp)).2
    · exact ih fun q hq => h1 q (by simp [hq])
/-- The new disk has k files. -/
structure CrR (wA : World) (r' room : Nat) (xs : List Value) (k : Nat) (wr : World) : Prop where
  ex : ∃ v, wr.heap[r']? = some (.cells #[.int .i64 (room : Int), v] 66) ∧ wr.ownsRow (r' + 1) 45 3 v k xs
  below : Below r' wA wr

set_option maxRecDepth 100000 in
set_option maxHeartbeats 8000000 in
theorem crashRef_done {w : World} {B r room : Nat} {G : List RFl} (h : RD w B r room G) {A : Option Addr} {c : Nat} {ks : List (ByteArray × Int)} (hk : Kepts w A ks) (hok0 : okK ks) (hmiss : missK G ks = false) :
    Calls Try.prog 40 #[.pointer (some ⟨r, 0, none⟩), .slice A ks.length c] w fun e w' => ∃ r', e = .returned (.tuple #[.pointer (some ⟨r', 0, none⟩), .int .i64 0]) ∧ RD w' w.heap.size r' room (G.map (rcrashed ks)) ∧ Ext w w' := by
  obtain ⟨vF, hblk, hrowF⟩ := h.ex
  have HBLK := Lib.hid hblk
  have HROWF := Lib.hid hrowF
  have HGL := Lib.hid h.len
  have HSZ := Lib.hid h.sz
  clear hblk hrowF
  have H := Lib.hid h
  have HKE := Lib.hid hk
  have HOKA := Lib.hid hok0
  have HMISS := Lib.hid hmiss
  have hlen := hk.len
  clear h hk hok0 hmiss
  go_enter Try.func40, Try.ntmps40
  go_wp2_with fail
  go_loopw [6, 7] (fun v a wr => ∃ k : Nat, v = .bool (missK G (ks.take k)) ∧ a = .int .i64 (k : Int) ∧ k ≤ ks.length ∧ Hid ((∀ i q, i < k → ks[i]? = some q → good q.1.data.toList = true ∧ 0 ≤ q.2) ∧ ∀ i j q q', i < k → i < j → ks[i]? = some q → ks[j]? = some q' → q.1.data.toList ≠ q'.1.data.toList) ∧ Hid (Ext w wr)) (fun _ a _ => ks.length - (intOf a).toNat)
  case atStart => exact ⟨0, by simp [missK], rfl, by omega, ⟨fun i q hi => by omega, fun i j q q' hi => by omega⟩, Ext.refl _⟩
  case round =>
    obtain ⟨k, rfl, rfl, hkl, HOK, HX⟩ := hrel
    have HWK : Hid (wrap64 ((k : Int) + 1) = ((k + 1 : Nat) : Int)) := by unfold Hid wrap64; omega
    by_cases hlt : k < ks.length
    rotate_left
    · have d : decide ((k : Int) < (ks.length : Int)) = false := by simp; omega
      have d2 : decide (k < ks.length) = false := by simp; omega
      obtain rfl : k = ks.length := by omega
      rw [List.take_length, HMISS.out]
      clear hlt hkl
      have HCR := Lib.hid (cell_of (k := 0) HBLK.out rfl)
      have c0 : wr.cell? ⟨r, 0, none⟩ = some (.int .i64 (room : Int)) := ext_cell HX.out HCR.out
      obtain ⟨r', hr'⟩ : ∃ x, x = wr.heap.size := ⟨_, rfl⟩
      obtain ⟨wA, hwA⟩ : ∃ x, x = wr.alloc (.cells #[.int .i64 (room : Int), .slice none 0 0] 66) := ⟨_, rfl⟩
      have HXA : Hid (Ext w wA) := by rw [hwA]; exact Ext.trans HX.out (ext_alloc _ _)
      have HBA : Hid (wA.heap[r']? = some (.cells #[.int .i64 (room : Int), .slice none 0 0] 66)) := by rw [hwA, hr']; exact heap_at _ _ rfl
      have HZA : Hid (wA.heap.size = r' + 1) := by rw [hwA, hr']; simp [Hid]
      have HRW : Hid (w.heap.size ≤ r') := by rw [hr']; exact HX.out.size
      go_wp2_with fail
      rw [← hwA, ← hr']
      clear hwA hr' c0
      go_loopw [12] (fun a ws => ∃ k : Nat, a = .int .i64 (k : Int) ∧ k ≤ G.length ∧ Hid (CrR wA r' room (((G.take k).map (rcrashed ks)).flatMap rcells) k ws)) (fun a _ => G.length - (intOf a).toNat)
      case atStart => exact ⟨0, rfl, by omega, ⟨.slice none 0 0, HBA.out, World.ownsRow_nil _ _ _ _⟩, Below.refl _ _⟩
      case round =>
        obtain ⟨k, rfl, hkl, HCI⟩ := hrel
        have HXB : Hid (Ext w wr) := Below.trans HXA.out (HCI.out.below.mono HRW.out)
        have c1 : wr.cell? ⟨r, 1, none⟩ = some vF := ext_cell HXB.out (cell_of (k := 1) HBLK.out rfl)
        obtain ⟨FA, cF, rfl⟩ := own_slice HROWF.out
        have hGl := HGL.out
        by_cases hlt : k < G.length
        rotate_left
        · have d : decide ((k : Int) < (G.length : Int)) = false := by simp; omega
          have d2 : decide (k < G.length) = false := by simp; omega
          obtain rfl : k = G.length := by omega
          clear hlt hkl
          go_wp2_with fail
          go_ret2
          obtain ⟨v, hh, hrow⟩ := HCI.out.ex
          rw [List.take_length] at hrow
          refine ⟨r', rfl, ⟨⟨v, hh, ?_⟩, HRW.out, by rw [List.length_map]; exact hGl, fun y hy => ?_⟩, HXB.out⟩
          · rw [List.length_map]
            exact ownsRow_base3 hrow (by have := HRW.out; omega)
          · obtain ⟨f, hf, rfl⟩ := List.mem_map.1 hy
            have := HSZ.out f hf
            refine ⟨this.1, ?_⟩
            show (f.sure ++ f.loose.take _).length + 0 ≤ _
            rw [List.length_append, List.length_take]
            omega
        have d : decide ((k : Int) < (G.length : Int)) = true := by simp; omega
        have d2 : decide (k < G.length) = true := by simp; omega
        obtain ⟨g, c', he, q0, q1, q2⟩ := rrow_cell HROWF.out hlt
        injection he with he1 he2 he3
        subst he1 he3
        obtain ⟨f, hf⟩ : ∃ f, f = G[k] := ⟨_, rfl⟩
        rw [← hf] at q0 q1 q2
        have HF1 : Hid (G[k]? = some f) := by rw [hf]; exact List.getElem?_eq_getElem hlt
        have HFS : Hid (f.name.length ≤ maxLen ∧ f.sure.length + f.loose.length ≤ 1048576) := HSZ.out f (by rw [hf]; exact List.getElem_mem hlt)
        obtain ⟨fn, fs, fl⟩ := f
        have t0 := ext_cell HXB.out q0
        have t1 := ext_cell HXB.out q1
        have t2 := ext_cell HXB.out q2
        unfold encStr at t0 t1 t2
        have n3 : (0 : Int) ≤ (k : Int) := by omega
        have n4 : (k : Int) < (G.length : Int) := by omega
        have HLT2 := Lib.hid hlt
        have HW3 : Hid (wrap64 ((k : Int) + 1) = ((k + 1 : Nat) : Int)) := by unfold Hid wrap64; omega
        dsimp only at t0 t1 t2
        clear hf hlt hkl q0 q1 q2 he2
        go_wp2_with fail
        obtain ⟨m, hm⟩ : ∃ m, m = wr.heap.size := ⟨_, rfl⟩
        obtain ⟨w5, hw5⟩ : ∃ x, x = wr.alloc (.cells #[.string ⟨fn.toArray⟩, .string ⟨fs.toArray⟩, .string ⟨fl.toArray⟩] 45) := ⟨_, rfl⟩
        rw [← hw5, ← hm]
        have HXW5 : Hid (Ext wr w5) := by rw [hw5]; exact ext_alloc _ _
        have HX5 : Hid (Ext w w5) := Ext.trans HXB.out HXW5.out
        have HBM : Hid (w5.heap[m]? = some (.cells #[.string ⟨fn.toArray⟩, .string ⟨fs.toArray⟩, .string ⟨fl.toArray⟩] 45)) := by rw [hw5, hm]; exact heap_at _ _ rfl
        have HM0 : Hid (w5.cell? ⟨m, 0, none⟩ = some (.string ⟨fn.toArray⟩)) := cell_of (k := 0) HBM.out rfl
        have HM1 : Hid (w5.cell? ⟨m, 1, none⟩ = some (.string ⟨fs.toArray⟩)) := cell_of (k := 1) HBM.out rfl
        have HM2 : Hid (w5.cell? ⟨m, 2, none⟩ = some (.string ⟨fl.toArray⟩)) := cell_of (k := 2) HBM.out rfl
        have HRM : Hid (r' < m) := by
          obtain ⟨v, hh, _⟩ := HCI.out.ex
          rw [hm]; exact (Array.getElem?_eq_some_iff.1 hh).1
        have HRW2 : Hid (r' ≤ wr.heap.size) := by
          obtain ⟨v, hh, _⟩ := HCI.out.ex
          exact Nat.le_of_lt (Array.getElem?_eq_some_iff.1 hh).1
        obtain ⟨T, hT⟩ : ∃ T, T = toldK ks fn := ⟨_, rfl⟩
        have HTT := Lib.hid hT
        have HT0 : Hid (0 ≤ T) := by rw [hT]; exact toldK_nonneg HOKA.out fn
        obtain ⟨nN, hnN⟩ : ∃ nN : Nat, nN = (min T (fl.length : Int)).toNat := ⟨_, rfl⟩
        have HNN := Lib.hid hnN
        have HMN : Hid (min T (fl.length : Int) = (nN : Int)) := by have := HT0.out; unfold Hid; omega
        clear hw5 hm hT hnN t0 t1 t2 c1
        refine flow (by kernel_rfl) [Is (.slice A ks.length c), Is (.pointer (some ⟨m, 0, none⟩)), Is (.string ⟨fn.toArray⟩), Is (.int .i64 T), Is (.pointer (some ⟨m, 2, none⟩)), Is (.string ⟨fl.toArray⟩), Is (.int .i64 (fl.length : Int)), Is (.int .i64 (nN : Int)), Is (.int .i64 (nN : Int))] (by kernel_rfl) (by kernel_rfl) ?mono (fun f1 => ?obl) ?fin
        case mono =>
          simp only [List.forall_mem_cons, List.not_mem_nil, false_imp_iff, implies_true, and_true]
          exact ⟨.is _, .is _, .is _, .is _, .is _, .is _, .is _, .is _, .is _⟩
        case fin =>
          intro g1 u hu hg
          simp only [puts, Act.put, List.setIfInBounds_toArray, List.set_cons_zero, List.set_cons_succ]
          have h8 : g1 8 = .int .i64 (nN : Int) := hg 8 (by decide)
          have HXU : Hid (Ext w5 u) := Ext.trans (Ext.drew w5) hu
          clear hg hu
          go_upto_region 24 with (fail)
          rw [h8]
          clear h8
          obtain ⟨w1, hw1⟩ : ∃ x, x = u := ⟨_, rfl⟩
          have HXU1 : Hid (Ext wr w1) := by rw [hw1]; exact Ext.trans HXW5.out HXU.out
          have HU0 : Hid (w1.cell? ⟨m, 0, none⟩ = some (.string ⟨fn.toArray⟩)) := by rw [hw1]; exact ext_cell HXU.out HM0.out
          have HU1 : Hid (w1.cell? ⟨m, 1, none⟩ = some (.string ⟨fs.toArray⟩)) := by rw [hw1]; exact ext_cell HXU.out HM1.out
          have HU2 : Hid (w1.cell? ⟨m, 2, none⟩ = some (.string ⟨fl.toArray⟩)) := by rw [hw1]; exact ext_cell HXU.out HM2.out
          have HW1 := Lib.hid hw1
          clear hw1
          obtain ⟨vv, hvh, hvr⟩ := HCI.out.ex
          obtain ⟨V, cv, rfl⟩ := own_slice hvr
          have HRB : Hid (w1.heap[r']? = some (.cells #[.int .i64 (room : Int), .slice V k cv] 66)) := ext_heap HXU1.out hvh
          have HVR := Lib.hid (own_ext hvr HXU1.out)
          have HCA2 : Hid (w1.cell? ⟨r', 0, none⟩ = some (.int .i64 (room : Int))) := cell_of (k := 0) HRB.out rfl
          have HCB : Hid (w1.cell? ⟨r', 1, none⟩ = some (.slice V k cv)) := cell_of (k := 1) HRB.out rfl
          have HCW : Hid (r' + 1 ≤ w1.heap.size) := (Array.getElem?_eq_some_iff.1 HRB.out).1
          have HNL : Hid (nN ≤ fl.length) := by have := HNN.out; unfold Hid; omega
          have HAP : Hid (((⟨fs.toArray⟩ : ByteArray) ++ (⟨(fl.take nN).toArray⟩ : ByteArray)) = (⟨(fs ++ fl.take nN).toArray⟩ : ByteArray)) := by unfold Hid; ext1; simp
          have HSL : Hid (∀ z : World, (Instr.slice 9 (.string ⟨fl.toArray⟩) none (some (.int .i64 (nN : Int))) none).run Try.prog z = .ok (.string ⟨(fl.take nN).toArray⟩) z) := fun z => by
            rw [run_slice_string_h (w := z) (s := (⟨fl.toArray⟩ : ByteArray)) 9 Try.underlying9 .i64 (nN : Int) (by omega) (by have := HNL.out; simp [ByteArray.size]; omega)]
            congr 2
            ext1; simp
          obtain ⟨xs, hxs⟩ : ∃ xs, xs = ((G.take k).map (rcrashed ks)).flatMap rcells := ⟨_, rfl⟩
          obtain ⟨ys, hys⟩ : ∃ ys, ys = rcells ⟨fn, fs ++ fl.take nN, []⟩ := ⟨_, rfl⟩
          have HXS := Lib.hid hxs
          have HYS := Lib.hid hys
          rw [← hxs] at HVR
          clear hvh hvr hxs hys
          refine Fi.flowC (by kernel_rfl) (CrJ r' k w1 (crV r' (.slice V k cv) m (.string ⟨fn.toArray⟩) (.string ⟨fs.toArray⟩) (.string ⟨fl.toArray⟩) nN (.string ⟨(fl.take nN).toArray⟩) (.string ⟨(fs ++ fl.take nN).toArray⟩) (.agg #[.string ⟨fn.toArray⟩, .string ⟨(fs ++ fl.take nN).toArray⟩, .string ⟨#[]⟩])) xs ys) (by kernel_rfl) (by kernel_rfl) (fun f => CrJ.start f HW1.out HCW.out) (fun f => ?obl24) ?fin24
          case fin24 =>
            intro g2 seen z hall hI
            simp only [puts, Act.put, List.setIfInBounds_toArray, List.set_cons_zero, List.set_cons_succ]
            obtain ⟨u1, hb1, hr1, hz⟩ := hI.r16 (hall 16 (by decide))
            rw [if_pos (hall 19 (by decide))] at hz
            have HB1 := Lib.hid hb1
            have HR1 := Lib.hid hr1
            have HZ1 := Lib.hid hz
            clear hb1 hr1 hz hall hI
            have hw := HW3.out
            go_wp2_with fail
            refine ⟨⟨k + 1, by first | rfl | rw [hw], HLT2.out, ⟨g2 16, ?_, ?_⟩, ?_⟩, by (try rw [hw]); clear hw; have := HLT2.out; simp [intOf]; omega⟩
            · have := (HB1.out.block r' (Nat.lt_succ_self _)).trans HRB.out
              rw [HZ1.out]; simp [World.setCell, Array.getElem?_modify, this]
            · have h4 := ownsRow_setCell_other HR1.out (a := ⟨r', 1, none⟩) (fun e => by have : r' + 1 ≤ r' := own_base3 HR1.out r' e; omega) (g2 16)
              rw [HZ1.out, List.take_add_one, HF1.out, Option.toList_some, List.map_append, List.flatMap_append]
              have he : rcrashed ks ⟨fn, fs, fl⟩ = ⟨fn, fs ++ fl.take nN, []⟩ := by
                show (⟨fn, fs ++ fl.take (min (toldK ks fn) (fl.length : Int)).toNat, []⟩ : RFl) = _
                rw [← HTT.out, ← HNN.out]
              rw [HXS.out, HYS.out] at h4
              simpa [he] using h4
            · rw [HZ1.out]
              refine HCI.out.below.trans ((HXU1.out.mono ?_).trans ((HB1.out.mono (Nat.le_succ _)).trans ?_))
              · exact HRW2.out
              · exact (Chg.setCell (S := fun i => i = r') u1 ⟨r', 1, none⟩ (g2 16) rfl).below (fun i hi => Nat.le_of_eq hi.symm) (by have := HB1.out.size; have := HCW.out; omega)
          case obl24 =>
            refine ⟨fun seen z hI hc hk hs => ?_, ?_⟩
            · go_simp
              exact hI.read (k := 0) (by rfl) (by decide)
            refine ⟨fun seen z hI hc hk hs => ?_, ?_⟩
            · simp only [Act.put, List.setIfInBounds_toArray, List.set_cons_zero, List.set_cons_succ]
              go_simp
              exact hI.read (k := 1) (by rfl) (by decide)
            refine ⟨fun seen z hI hc hk hs => ?_, ?_⟩
            · simp only [Act.put, List.setIfInBounds_toArray, List.set_cons_zero, List.set_cons_succ]
              have e1 := hI.vals 1 _ rfl (hs 1 (by kernel_rfl))
              have hx := hI.pre (hI.before hk (by decide) (by decide))
              have c1 := ext_cell hx HCB.out
              have c0 := ext_cell hx HCA2.out
              go_simp
              exact hI.read (k := 2) (by rfl) (by decide)
            refine ⟨fun seen z hI hc hk hs => ?_, ?_⟩
            · simp only [Act.put, List.setIfInBounds_toArray, List.set_cons_zero, List.set_cons_succ]
              have e2 := hI.vals 2 _ rfl (hs 2 (by kernel_rfl))
              go_simp
              exact hI.read (k := 3) (by rfl) (by decide)
            refine ⟨fun seen z hI hc hk hs => ?_, ?_⟩
            · simp only [Act.put, List.setIfInBounds_toArray, List.set_cons_zero, List.set_cons_succ]
              have e3 := hI.vals 3 _ rfl (hs 3 (by kernel_rfl))
              have hx := hI.pre (hI.before hk (by decide) (by decide))
              have c1 := ext_cell hx HCB.out
              have c0 := ext_cell hx HCA2.out
              go_simp
              exact hI.read (k := 4) (by rfl) (by decide)
            refine ⟨fun seen z hI hc hk hs => ?_, ?_⟩
            · simp only [Act.put, List.setIfInBounds_toArray, List.set_cons_zero, List.set_cons_succ]
              go_simp
              exact hI.read (k := 5) (by rfl) (by decide)
            refine ⟨fun seen z hI hc hk hs => ?_, ?_⟩
            · simp only [Act.put, List.setIfInBounds_toArray, List.set_cons_zero, List.set_cons_succ]
              have e5 := hI.vals 5 _ rfl (hs 5 (by kernel_rfl))
              have hx := hI.pre (hI.before hk (by decide) (by decide))
              have t0 := ext_cell hx HU0.out
              have t1 := ext_cell hx HU1.out
              have t2 := ext_cell hx HU2.out
              go_simp
              exact hI.read (k := 6) (by rfl) (by decide)
            refine ⟨fun seen z hI hc hk hs => ?_, ?_⟩
            · simp only [Act.put, List.setIfInBounds_toArray, List.set_cons_zero, List.set_cons_succ]
              go_simp
              exact hI.read (k := 7) (by rfl) (by decide)
            refine ⟨fun seen z hI hc hk hs => ?_, ?_⟩
            · simp only [Act.put, List.setIfInBounds_toArray, List.set_cons_zero, List.set_cons_succ]
              have e7 := hI.vals 7 _ rfl (hs 7 (by kernel_rfl))
              have hx := hI.pre (hI.before hk (by decide) (by decide))
              have t0 := ext_cell hx HU0.out
              have t1 := ext_cell hx HU1.out
              have t2 := ext_cell hx HU2.out
              go_simp
              exact hI.read (k := 8) (by rfl) (by decide)
            refine ⟨fun seen z hI hc hk hs => ?_, ?_⟩
            · simp only [Act.put, List.setIfInBounds_toArray, List.set_cons_zero, List.set_cons_succ]
              go_simp
              exact hI.read (k := 9) (by rfl) (by decide)
            refine ⟨fun seen z hI hc hk hs => ?_, ?_⟩
            · simp only [Act.put, List.setIfInBounds_toArray, List.set_cons_zero, List.set_cons_succ]
              have e9 := hI.vals 9 _ rfl (hs 9 (by kernel_rfl))
              have hx := hI.pre (hI.before hk (by decide) (by decide))
              have t0 := ext_cell hx HU0.out
              have t1 := ext_cell hx HU1.out
              have t2 := ext_cell hx HU2.out
              go_simp
              exact hI.read (k := 10) (by rfl) (by decide)
            refine ⟨fun seen z hI hc hk hs => ?_, ?_⟩
            · simp only [Act.put, List.setIfInBounds_toArray, List.set_cons_zero, List.set_cons_succ]
              go_simp
              exact hI.read (k := 11) (by rfl) (by decide)
            refine ⟨fun seen z hI hc hk hs => ?_, ?_⟩
            · simp only [Act.put, List.setIfInBounds_toArray, List.set_cons_zero, List.set_cons_succ]
              have e10 := hI.vals 10 _ rfl (hs 10 (by kernel_rfl))
              have e11 := hI.vals 11 _ rfl (hs 11 (by kernel_rfl))
              have hsl := HSL.out z
              go_simp
              exact hI.read (k := 12) (by rfl) (by decide)
            refine ⟨fun seen z hI hc hk hs => ?_, ?_⟩
            · simp only [Act.put, List.setIfInBounds_toArray, List.set_cons_zero, List.set_cons_succ]
              have e8 := hI.vals 8 _ rfl (hs 8 (by kernel_rfl))
              have e12 := hI.vals 12 _ rfl (hs 12 (by kernel_rfl))
              have hap := HAP.out
              have h9 : fs.length + fl.length ≤ 1048576 := HFS.out.2
              go_simp
              rw [if_neg (by omega)]
              exact hI.read (k := 13) (by rfl) (by decide)
            refine ⟨fun seen z hI hc hk hs => ?_, ?_⟩
            · simp only [Act.put, List.setIfInBounds_toArray, List.set_cons_zero, List.set_cons_succ]
              have e6 := hI.vals 6 _ rfl (hs 6 (by kernel_rfl))
              have e13 := hI.vals 13 _ rfl (hs 13 (by kernel_rfl))
              go_simp
              exact hI.read (k := 14) (by rfl) (by decide)
            refine ⟨fun seen z hI hc hk hs => ?_, ?_⟩
            · simp only [Act.put, List.setIfInBounds_toArray, List.set_cons_zero, List.set_cons_succ]
              have e14 := hI.vals 14 _ rfl (hs 14 (by kernel_rfl))
              go_simp
              have hft := hI.fifteen hk (hI.before hk (by decide) (by decide)) rfl
              rw [show ys.toArray = #[.string ⟨fn.toArray⟩, .string ⟨(fs ++ fl.take nN).toArray⟩, .string ⟨#[]⟩] from by rw [HYS.out]; rfl] at hft
              exact hft
            refine ⟨fun seen z hI hc hk hs => ?_, ?_⟩
            · simp only [Act.put, List.setIfInBounds_toArray, List.set_cons_zero, List.set_cons_succ]
              have s15 := hs 15 (by kernel_rfl)
              have s4 := hs 4 (by kernel_rfl)
              have s3 := hc 4 _ rfl s4 3 (by kernel_rfl)
              have s2 := hc 3 _ rfl s3 2 (by kernel_rfl)
              have s1 := hc 2 _ rfl s2 1 (by kernel_rfl)
              have s14 := hc 15 _ rfl s15 14 (by kernel_rfl)
              have s6 := hc 14 _ rfl s14 6 (by kernel_rfl)
              have s13 := hc 14 _ rfl s14 13 (by kernel_rfl)
              have s5 := hc 6 _ rfl s6 5 (by kernel_rfl)
              have s8 := hc 13 _ rfl s13 8 (by kernel_rfl)
              have s12 := hc 13 _ rfl s13 12 (by kernel_rfl)
              have s7 := hc 8 _ rfl s8 7 (by kernel_rfl)
              have s10 := hc 12 _ rfl s12 10 (by kernel_rfl)
              have s11 := hc 12 _ rfl s12 11 (by kernel_rfl)
              have s9 := hc 10 _ rfl s10 9 (by kernel_rfl)
              have hall : ∀ j, 1 ≤ j → j < 16 → seen j = true := fun j h1 h2 => by
                have : j = 1 ∨ j = 2 ∨ j = 3 ∨ j = 4 ∨ j = 5 ∨ j = 6 ∨ j = 7 ∨ j = 8 ∨ j = 9 ∨ j = 10 ∨ j = 11 ∨ j = 12 ∨ j = 13 ∨ j = 14 ∨ j = 15 := by omega
                rcases this with h | h | h | h | h | h | h | h | h | h | h | h | h | h | h <;> (subst h; assumption)
              have e4 := hI.vals 4 _ rfl (hs 4 (by kernel_rfl))
              obtain ⟨g2, e15, hg⟩ := hI.r15 s15 hk
              rw [if_pos (by rfl)]
              refine gives_addfiles (.tmp 102) (.tmp 113) rfl (r' + 1) (.slice V k cv) k xs e4 (own_ext HVR.out (hI.pre hk)) (.slice (some ⟨g2, 0, none⟩) 1 1) 1 ys e15 (.inr ⟨⟨g2, 0, none⟩, 1, rfl, fun j q hj => ?_⟩) (by rw [HYS.out]; exact rcells_length _) (by rw [HYS.out]; exact one_cells _) (by have := HGL.out; have := HLT2.out; omega) (Nat.le_trans HCW.out (hI.pre hk).size) ?_
              · rw [addr_add, Nat.zero_add]; exact cell_of hg (by simpa using hj)
              intro v2 z2 hrow2 hbel
              exact hI.sixteen hk rfl v2 (hbel _ ((hI.pre hk).mono HCW.out)) hrow2 hall
            refine ⟨fun seen z hI hc hk hs => ?_, ?_⟩
            · simp only [Act.put, List.setIfInBounds_toArray, List.set_cons_zero, List.set_cons_succ]
              have e0 := hI.vals 0 _ rfl (hs 0 (by kernel_rfl))
              have c0 : z.cell? ⟨r', 0, none⟩ = some (.int .i64 (room : Int)) := cell_of (k := 0) (((hI.low (hI.ahead hk (by decide))).block r' (Nat.lt_succ_self _)).trans HRB.out) rfl
              go_simp
              exact hI.read (k := 17) (by rfl) (by decide)
            refine ⟨fun seen z hI hc hk hs => ?_, ?_⟩
            · simp only [Act.put, List.setIfInBounds_toArray, List.set_cons_zero, List.set_cons_succ]
              have e17 := hI.vals 17 _ rfl (hs 17 (by kernel_rfl))
              go_simp
              exact hI.read (k := 18) (by rfl) (by decide)
            refine ⟨fun seen z hI hc hk hs => ?_, ?_⟩
            · simp only [Act.put, List.setIfInBounds_toArray, List.set_cons_zero, List.set_cons_succ]
              have e18 := hI.vals 18 _ rfl (hs 18 (by kernel_rfl))
              have s16 := hs 16 (by kernel_rfl)
              have s18 := hs 18 (by kernel_rfl)
              have s17 := hc 18 _ rfl s18 17 (by kernel_rfl)
              have s0 := hc 17 _ rfl s17 0 (by kernel_rfl)
              obtain ⟨X, n2, c2, e16⟩ := hI.slice16 s16
              have hb := ((hI.low hk).block r' (Nat.lt_succ_self _)).trans HRB.out
              have c1 : z.cell? ⟨r', 1, none⟩ = some (.slice V k cv) := cell_of (k := 1) hb rfl
              have z3 : z.frozen? ⟨r', 1, none⟩ = false := by simp [World.frozen?, hb]
              have hfin := hI.store hk s16 s0 s17 s18 rfl undef
              rw [e16] at hfin
              clear hc hs s0 s17 s18 hb
              go_simp
              exact hfin
            trivial
        case obl =>
          refine ⟨fun u hu hd => ?_, ?_⟩
          · go_simp
            exact ⟨Ext.refl _, rfl⟩
          refine ⟨fun u hu hd => ?_, ?_⟩
          · simp only [Act.put, List.setIfInBounds_toArray, List.set_cons_zero, List.set_cons_succ]
            go_simp
            exact ⟨Ext.refl _, rfl⟩
          refine ⟨fun u hu hd => ?_, ?_⟩
          · simp only [Act.put, List.setIfInBounds_toArray, List.set_cons_zero, List.set_cons_succ]
            have e1 : f1 1 = (.pointer (some ⟨m, 0, none⟩)) := hd 1 (by kernel_rfl)
            have t0 := ext_cell (Ext.trans (Ext.drew w5) hu) HM0.out
            go_simp
            exact ⟨Ext.refl _, rfl⟩
          refine ⟨fun u hu hd => ?_, ?_⟩
          · simp only [Act.put, List.setIfInBounds_toArray, List.set_cons_zero, List.set_cons_succ]
            have e0 : f1 0 = (.slice A ks.length c) := hd 0 (by kernel_rfl)
            have e2 : f1 2 = (.string ⟨fn.toArray⟩) := hd 2 (by kernel_rfl)
            have hc := told_any (c := c) (HKE.out.ext (Ext.trans HX5.out (Ext.trans (Ext.drew w5) hu))) ⟨fn.toArray⟩
            rw [show toldK ks (⟨fn.toArray⟩ : ByteArray).data.toList = T from HTT.out.symm] at hc
            clear hd hu
            go_simp
            refine hc.mono ?_
            rintro e w9 ⟨rfl, rfl⟩
            exact ⟨_, rfl, Ext.refl _, rfl⟩
          refine ⟨fun u hu hd => ?_, ?_⟩
          · simp only [Act.put, List.setIfInBounds_toArray, List.set_cons_zero, List.set_cons_succ]
            go_simp
            exact ⟨Ext.refl _, rfl⟩
          refine ⟨fun u hu hd => ?_, ?_⟩
          · simp only [Act.put, List.setIfInBounds_toArray, List.set_cons_zero, List.set_cons_succ]
            have e4 : f1 4 = (.pointer (some ⟨m, 2, none⟩)) := hd 4 (by kernel_rfl)
            have t2 := ext_cell (Ext.trans (Ext.drew w5) hu) HM2.out
            go_simp
            exact ⟨Ext.refl _, rfl⟩
          refine ⟨fun u hu hd => ?_, ?_⟩
          · simp only [Act.put, List.setIfInBounds_toArray, List.set_cons_zero, List.set_cons_succ]
            have e5 : f1 5 = (.string ⟨fl.toArray⟩) := hd 5 (by kernel_rfl)
            go_simp
            exact ⟨Ext.refl _, rfl⟩
          refine ⟨fun u hu hd => ?_, ?_⟩
          · simp only [Act.put, List.setIfInBounds_toArray, List.set_cons_zero, List.set_cons_succ]
            have e3 : f1 3 = (.int .i64 T) := hd 3 (by kernel_rfl)
            have e6 : f1 6 = (.int .i64 (fl.length : Int)) := hd 6 (by kernel_rfl)
            have hmn := HMN.out
            go_simp
            exact ⟨Ext.refl _, rfl⟩
          refine ⟨fun u hu hd => ?_, ?_⟩
          · simp only [Act.put, List.setIfInBounds_toArray, List.set_cons_zero, List.set_cons_succ]
            have e7 : f1 7 = (.int .i64 (nN : Int)) := hd 7 (by kernel_rfl)
            go_simp
            exact ⟨Ext.refl _, rfl⟩
          trivial
    have d : decide ((k : Int) < (ks.length : Int)) = true := by simp; omega
    have d2 : decide (k < ks.length) = true := by simp; omega
    obtain ⟨b, o, rfl, hb, q0, q1⟩ := HKE.out.at_ hlt
    obtain ⟨s, hs⟩ : ∃ s, s = (ks[k]'hlt).1 := ⟨_, rfl⟩
    obtain ⟨z, hz⟩ : ∃ z, z = (ks[k]'hlt).2 := ⟨_, rfl⟩
    have HP : Hid (ks[k]? = some (s, z)) := by rw [hs, hz]; exact List.getElem?_eq_getElem hlt
    have HSS : Hid (s.size ≤ maxLen) := by rw [hs]; exact HKE.out.sz _ (List.getElem_mem hlt)
    rw [← hs] at q0
    rw [← hz] at q1
    have HQ0 := Lib.hid q0
    have HQ1 := Lib.hid q1
    have c0 := ext_cell HX.out q0
    have c1 := ext_cell HX.out q1
    obtain ⟨nz, hnz⟩ : ∃ nz, nz = missK G (ks.take k) := ⟨_, rfl⟩
    rw [← hnz]
    have HNZ := Lib.hid hnz
    have HLT := Lib.hid hlt
    have n3 : (0 : Int) ≤ (k : Int) := by omega
    have n4 : (k : Int) < (ks.length : Int) := by omega
    obtain ⟨eN, heN⟩ : ∃ eN, eN = rseekN G s.data.toList := ⟨_, rfl⟩
    have HEN := Lib.hid heN
    clear q0 q1 hs hz hb hnz hlt hkl
    go_wp2_with fail
    refine (rseekN_any (H.out.ext HX.out) s HSS.out).mono ?_
    rintro e w1 ⟨pi, rfl, rfl⟩
    rw [← heN]
    clear heN
    go_upto_region 8 with (fail)
    obtain ⟨z1, hz1⟩ : ∃ z1 : Bool, z1 = (nz || (eN == 6)) := ⟨_, rfl⟩
    have HZ1 := Lib.hid hz1
    clear hz1
    go_cut [6] from 17 to 66 (fun v wx => v = .bool z1 ∧ wx = wr)
    case first =>
      cases nz
      · go_wp2_with fail
        go_meet
        case rel => exact ⟨by rw [HZ1.out, Bool.false_or], rfl⟩
      · go_wp2_with fail
        go_meet
        case rel => exact ⟨by rw [HZ1.out, Bool.true_or], rfl⟩
    case rest =>
      obtain ⟨rfl, rfl⟩ := hcut
      by_cases hg : eN = 2
      · have e1 : (eN == 2) = true := by simp [hg]
        have HB1 : Hid (good s.data.toList = false) := rseekN_two.1 (HEN.out.symm.trans hg)
        clear hg
        go_wp2_with fail
        go_ret2
        exfalso; have h := HOKA.out
        have := (h.1 _ (List.mem_of_getElem? HP.out)).1
        rw [HB1.out] at this; cases this
      have e1 : (eN == 2) = false := by simp [hg]
      have HG2 : Hid (good s.data.toList = true) := by
        cases hq : good s.data.toList
        · exact absurd (HEN.out.trans (rseekN_two.2 hq)) hg
        · exact (rfl : true = true)
      have HG3 : Hid (rseekN G s.data.toList ≠ 2) := fun h => hg (HEN.out.trans h)
      clear hg
      by_cases hz : z < 0
      · have e2 : decide (z < 0) = true := decide_eq_true hz
        have HZN := Lib.hid hz
        clear hz
        go_wp2_with fail
        go_ret2
        exfalso; have h := HOKA.out
        have h2 := (h.1 _ (List.mem_of_getElem? HP.out)).2
        have h3 := HZN.out
        dsimp only at h2
        omega
      have e2 : decide (z < 0) = false := decide_eq_false hz
      have HZP : Hid (0 ≤ z) := by unfold Hid; omega
      have hw := HWK.out
      clear hz
      go_wp2_with fail
      clear hw
      go_loopw [10] (fun a ws => ∃ j : Nat, a = .int .i64 (j : Int) ∧ k + 1 ≤ j ∧ j ≤ ks.length ∧ Hid (∀ m q', k < m → m < j → ks[m]? = some q' → s.data.toList ≠ q'.1.data.toList) ∧ Hid (Ext w ws)) (fun a _ => ks.length - (intOf a).toNat)
      case atStart => exact ⟨k + 1, by first | rfl | rw [HWK.out], by omega, HLT.out, fun m q' h1 h2 => by omega, HX.out⟩
      case round =>
        obtain ⟨j, rfl, hkj, hjl, HJ, HX5⟩ := hrel
        have HWJ : Hid (wrap64 ((j : Int) + 1) = ((j + 1 : Nat) : Int)) := by unfold Hid wrap64; omega
        by_cases hlt : j < ks.length
        rotate_left
        · have d3 : decide ((j : Int) < (ks.length : Int)) = false := by simp; omega
          have d4 : decide (j < ks.length) = false := by simp; omega
          have HJL : Hid (j = ks.length) := by unfold Hid; omega
          clear hlt hjl hkj
          have hw := HWK.out
          go_wp2_with fail
          refine ⟨⟨k + 1, ?_, by first | rfl | rw [hw], HLT.out, ?_, HX5.out⟩, by (try rw [hw]); clear hw; have := HLT.out; simp [intOf]; omega⟩
          · rw [List.take_add_one, HP.out, Option.toList_some, missK_snoc HG3.out, ← HNZ.out, HZ1.out, HEN.out]
          · refine okK_snoc HOK.out HP.out HG2.out HZP.out fun m q' hm hq => HJ.out m q' hm ?_ hq
            have := (List.getElem?_eq_some_iff.1 hq).1
            have := HJL.out
            omega
        have d3 : decide ((j : Int) < (ks.length : Int)) = true := by simp; omega
        have d4 : decide (j < ks.length) = true := by simp; omega
        obtain ⟨s2, hs2⟩ : ∃ s2, s2 = (ks[j]'hlt).1 := ⟨_, rfl⟩
        obtain ⟨b', o', he, _, q2, _⟩ := HKE.out.at_ hlt
        injection he with he
        injection he with he5 he6
        subst he5 he6
        rw [← hs2] at q2
        have HP2 : Hid (ks[j]? = some (s2, (ks[j]'hlt).2)) := by rw [hs2]; exact List.getElem?_eq_getElem hlt
        have p2 := ext_cell HX5.out q2
        have p0 := ext_cell HX5.out HQ0.out
        have n5 : (0 : Int) ≤ (j : Int) := by omega
        have n6 : (j : Int) < (ks.length : Int) := by omega
        have HKJ := Lib.hid hkj
        have HJL := Lib.hid hlt
        by_cases hss : s2.data.toList = s.data.toList
        · have e3 : (s2.toList == s.toList) = true := by rw [ByteArray.toList_eq, ByteArray.toList_eq, beq_iff_eq]; exact hss
          have HNO : Hid (¬ okK ks) := fun h => by
            have h1 := List.pairwise_iff_getElem.1 h.2 k j HLT.out hlt (by omega)
            have h2 := (List.getElem?_eq_some_iff.1 HP.out).2
            rw [h2, ← hs2] at h1
            exact h1 hss.symm
          clear hss hs2 hkj hjl q2
          go_wp2_with fail
          go_quiet (fail)
          go_wp2_with fail
          go_ret2
          exact absurd HOKA.out HNO.out
        · have e3 : (s2.toList == s.toList) = false := by rw [ByteArray.toList_eq, ByteArray.toList_eq, beq_eq_false_iff_ne]; exact hss
          have HNS := Lib.hid hss
          clear hss hs2 hkj hjl q2
          have hw := HWJ.out
          go_wp2_with fail
          go_quiet (fail)
          go_wp2_with fail
          refine ⟨⟨j + 1, by first | rfl | rw [hw], by have := HKJ.out; omega, HJL.out, fun m q' h1 h2 h3 => ?_, below_drewN HX5.out _⟩, by (try rw [hw]); clear hw; have := HJL.out; simp [intOf]; omega⟩
          by_cases hmj : m = j
          · rw [hmj, HP2.out] at h3
            injection h3 with h3
            rw [← h3]; exact fun h => HNS.out h.symm
          · exact HJ.out m q' h1 (by omega) h3
end Go.Proofs.Ytenhfphgobalfaa

/- A disk, and beside it what none of its calls changes. -/
namespace Go.Proofs.Ytenhfphgobalfaa
open Go.RowKit Go.Maps
set_option linter.unusedVariables false

theorem Disk.tight {w : World} {S : Nat → Prop} {B d room : Nat} {F : List Fl} (h : Disk w S B d room F) : Disk w (fun k => S k ∧ k < w.heap.size) B d room F := by
  have hlt := h.isDisk.lt
  obtain ⟨⟨m, D, V, h1, h2, h3, h4, h5, h6, h7⟩, a, b, c, e, f, g, i⟩ := h
  exact ⟨⟨m, D, V, h1, h2, h3, fun x hx => by obtain ⟨⟨u, q1, q2, q3⟩, q4, q5⟩ := h4 x hx; exact ⟨⟨u, q1, q2, fun g hg => ⟨q3 g hg, (row_lt q2 g hg).2⟩⟩, q4, q5⟩, h5, ⟨h6, h2.lt⟩, h7⟩, ⟨a, hlt⟩, b, c, e, f, g, i⟩

/-- A disk's block, its room, its files. -/
abbrev Dk := Nat × Nat × List Fl
/-- Disks that share no block, in the blocks S. -/
def Multi (B : Nat) : List Dk → World → (Nat → Prop) → Prop
  | [], _, S => ∀ k, ¬ S k
  | (d, room, F) :: L, w, S => ∃ S1 S2, Disk w S1 B d room F ∧ (∀ k, S1 k → k < w.heap.size) ∧ Multi B L w S2 ∧ (∀ k, S1 k → ¬ S2 k) ∧ ∀ k, S k ↔ S1 k ∨ S2 k
theorem Multi.lt {B : Nat} : ∀ {L : List Dk} {w : World} {S : Nat → Prop}, Multi B L w S → ∀ k, S k → k < w.heap.size
  | [], _, _, h, k, hk => absurd hk (h k)
  | (d, room, F) :: L, w, S, ⟨S1, S2, _, h2, h3, _, h5⟩, k, hk => ((h5 k).1 hk).elim (h2 k) (Multi.lt h3 k)
theorem Multi.kept {B : Nat} : ∀ {L : List Dk} {w w' : World} {S T : Nat → Prop}, Multi B L w S → Chg T w w' → (∀ k, S k → ¬ T k) → Multi B L w' S
  | [], _, _, _, _, h, _, _ => h
  | (d, room, F) :: L, w, w', S, T, ⟨S1, S2, h1, h2, h3, h4, h5⟩, hc, hd =>
    ⟨S1, S2, h1.kept hc (fun k hk => hd k ((h5 k).2 (.inl hk))), fun k hk => Nat.lt_of_lt_of_le (h2 k hk) hc.size, Multi.kept h3 hc (fun k hk => hd k ((h5 k).2 (.inr hk))), h4, h5⟩

/-- These are disks; and P holds, whatever their calls do. -/
def Lives (B : Nat) (L : List Dk) (P : World → Prop) (w : World) : Prop := ∃ S, Multi B L w S ∧ ∀ w', Chg S w w' → P w'

section
variable {B : Nat} {L : List Dk} {P Q : World → Prop} {w w' : World}
theorem Lives.here (h : Lives B L P w) : P w := by
  obtain ⟨S, _, hP⟩ := h
  exact hP w (Chg.refl _ _)
theorem Lives.imp (h : Lives B L P w) (hq : ∀ w, P w → Q w) : Lives B L Q w := by
  obtain ⟨S, h1, hP⟩ := h
  exact ⟨S, h1, fun w' hc => hq w' (hP w' hc)⟩
/-- Nothing that was there has changed; of what is new, Q. -/
theorem Lives.add (h : Lives B L P w) (hx : Ext w w') (hQ : ∀ w'', (∀ k, w.heap.size ≤ k → k < w'.heap.size → w''.heap[k]? = w'.heap[k]?) → w'.heap.size ≤ w''.heap.size → Q w'') : Lives B L (fun w => P w ∧ Q w) w' := by
  obtain ⟨S, h1, hP⟩ := h
  have hlt := h1.lt
  refine ⟨S, h1.kept (Chg.of_ext (S := fun _ => False) hx) (fun _ _ h => h), fun w'' hc => ⟨hP w'' ((Chg.of_ext hx).trans_new hc (fun _ _ h => h)), hQ w'' (fun k hk hl => hc.block k hl (fun hs => by have := hlt k hs; omega)) hc.size⟩⟩
theorem Lives.ext (h : Lives B L P w) (hx : Ext w w') : Lives B L P w' :=
  (h.add (Q := fun _ => True) hx (fun _ _ _ => trivial)).imp fun _ h => h.1
theorem Lives.drop {x : Dk} (h : Lives B (x :: L) P w) : Lives B L P w := by
  obtain ⟨S, ⟨S1, S2, h1, h2, h3, h4, h5⟩, hP⟩ := h
  exact ⟨S2, h3, fun w' hc => hP w' (hc.mono fun k _ hk => (h5 k).2 (.inr hk))⟩
theorem Lives.swap {x y : Dk} (h : Lives B (x :: y :: L) P w) : Lives B (y :: x :: L) P w := by
  obtain ⟨S, ⟨S1, S2, h1, h2, ⟨S3, S4, h6, h7, h8, h9, h10⟩, h4, h5⟩, hP⟩ := h
  refine ⟨S, ⟨S3, fun k => S1 k ∨ S4 k, h6, h7, ⟨S1, S4, h1, h2, h8, fun k hk h => h4 k hk ((h10 k).2 (.inr h)), fun k => Iff.rfl⟩, fun k hk h => h.elim (fun h => h4 k h ((h10 k).2 (.inl hk))) (h9 k hk), fun k => ?_⟩, hP⟩
  rw [h5, h10]
  exact ⟨fun h => h.elim (fun h => .inr (.inl h)) (fun h => h.elim .inl (fun h => .inr (.inr h))), fun h => h.elim (fun h => .inr (.inl h)) (fun h => h.elim .inl (fun h => .inr (.inr h)))⟩
/-- No disk yet. -/
theorem Lives.none (B : Nat) {w : World} (hP : ∀ w', Ext w w' → P w') : Lives B [] P w := ⟨fun _ => False, fun _ h => h, fun w' hc => hP w' hc.nothing⟩
/-- Another disk beside these. -/
theorem Lives.other {d room : Nat} {F : List Fl} (h : Lives B L P w) (hx : Ext w w') (hd : Disk w' (Frm w.heap.size) w.heap.size d room F) (hB : B ≤ w.heap.size) : Lives B ((d, room, F) :: L) P w' := by
  obtain ⟨S, h1, hP⟩ := h
  have hlt := h1.lt
  refine ⟨fun k => (Frm w.heap.size k ∧ k < w'.heap.size) ∨ S k, ⟨_, S, (hd.low hB).tight, fun _ h => h.2, h1.kept (Chg.of_ext (S := fun _ => False) hx) (fun _ _ h => h), fun k hk hs => by have := hlt k hs; have : w.heap.size ≤ k := hk.1; omega, fun k => Iff.rfl⟩, fun w'' hc => hP w'' ?_⟩
  exact (Chg.of_ext (S := S) hx).trans_new hc (fun i hi h => h.elim (fun hf => by have : w.heap.size ≤ i := hf.1; omega) id)
/-- The first one's call. -/
theorem Lives.disk' {d room : Nat} {F : List Fl} (h : Lives B ((d, room, F) :: L) P w) :
    ∃ S, Disk w S B d room F ∧ ∀ F' x e w', Did w S B d room F' x e w' → e = .returned (.int .i64 x) ∧ Lives B ((d, room, F') :: L) P w' := by
  obtain ⟨S, ⟨S1, S2, h1, h2, h3, h4, h5⟩, hP⟩ := h
  refine ⟨S1, h1, fun F' x e w' ⟨he, S', k1, k2, k3⟩ => ⟨he, fun k => (S' k ∧ k < w'.heap.size) ∨ S2 k, ⟨_, S2, k1.tight, fun _ h => h.2, h3.kept k2 (fun k hk h => h4 k h hk), fun k hk hs => ?_, fun k => Iff.rfl⟩, fun w'' hc => hP w'' ?_⟩⟩
  · rcases k3 k hk.1 with h | h
    · exact h4 k h hs
    · have := h3.lt k hs; omega
  · exact (k2.mono (S' := S) fun k _ h => (h5 k).2 (.inl h)).trans_new hc (fun i hi h => h.elim (fun hs => (h5 i).2 (.inl ((k3 i hs.1).resolve_right (by omega)))) (fun hs => (h5 i).2 (.inr hs)))
theorem Lives.disk {d room : Nat} {F : List Fl} (h : Lives B ((d, room, F) :: L) P w) : ∃ S, Disk w S B d room F := by
  obtain ⟨S, ⟨S1, S2, h1, _⟩, _⟩ := h
  exact ⟨S1, h1⟩
theorem Lives.le {d room : Nat} {F : List Fl} (h : Lives B ((d, room, F) :: L) P w) : B ≤ w.heap.size := by
  obtain ⟨S, h1⟩ := h.disk
  exact Nat.le_trans h1.base (Nat.le_of_lt h1.isDisk.lt)
/-- What all of them and all else say of old memory. -/
theorem Lives.below {w0 : World} (h : Lives B L P w) (hP : ∀ w, P w → Below w0.heap.size w0 w) : Below w0.heap.size w0 w := hP w h.here
end

section
variable {B d room : Nat} {F : List Fl} {L : List Dk} {P : World → Prop} {w : World}
/-- A call's number, and the disk then. -/
def Then (B d room : Nat) (F : List Fl) (L : List Dk) (P : World → Prop) (x : Int) (e : Ending) (w' : World) : Prop := e = .returned (.int .i64 x) ∧ Lives B ((d, room, F) :: L) P w'

theorem append_live (h : Lives B ((d, room, F) :: L) P w) {s : ByteArray} (hs : s.size ≤ maxLen) {vb : Value} {bs : List Nat} {lo hi : Nat} (hb : Bs w lo hi vb bs) (hhi : hi ≤ w.heap.size) (hbs : ∀ b ∈ bs, b < 256) {x : Int} (hx : x = appN F room bs.length s.data.toList) {F' : List Fl} (hF : F' = match x == 0 with | true => app F s.data.toList bs | false => F) :
    Calls Try.prog 25 #[.pointer (some ⟨d, 0, none⟩), .string s, vb] w (Then B d room F' L P x) := by
  subst hF
  obtain ⟨S, h1⟩ := h.disk'
  exact (append_any h1.1 hs hb hhi hbs hx).mono fun e w' hd => h1.2 _ _ _ _ hd
theorem sync_live (h : Lives B ((d, room, F) :: L) P w) {s : ByteArray} (hs : s.size ≤ maxLen) {x : Int} (hx : x = seekN F s.data.toList) {F' : List Fl} (hF : F' = match x == 0 with | true => syn F s.data.toList | false => F) :
    Calls Try.prog 23 #[.pointer (some ⟨d, 0, none⟩), .string s] w (Then B d room F' L P x) := by
  subst hF
  obtain ⟨S, h1⟩ := h.disk'
  exact (sync_any h1.1 hs hx).mono fun e w' hd => h1.2 _ _ _ _ hd
theorem remove_live (h : Lives B ((d, room, F) :: L) P w) {s : ByteArray} (hs : s.size ≤ maxLen) {x : Int} (hx : x = seekN F s.data.toList) {F' : List Fl} (hF : F' = match x == 0 with | true => del F s.data.toList | false => F) :
    Calls Try.prog 22 #[.pointer (some ⟨d, 0, none⟩), .string s] w (Then B d room F' L P x) := by
  subst hF
  obtain ⟨S, h1⟩ := h.disk'
  exact (remove_any h1.1 hs hx).mono fun e w' hd => h1.2 _ _ _ _ hd
theorem rename_live (h : Lives B ((d, room, F) :: L) P w) {s t : ByteArray} (hs : s.size ≤ maxLen) (ht : t.size ≤ maxLen) {x : Int} (hx : x = seek2 F s.data.toList t.data.toList) {F' : List Fl} (hF : F' = match x == 0 with | true => ren F s.data.toList t.data.toList | false => F) :
    Calls Try.prog 28 #[.pointer (some ⟨d, 0, none⟩), .string s, .string t] w (Then B d room F' L P x) := by
  subst hF
  obtain ⟨S, h1⟩ := h.disk'
  exact (rename_any h1.1 hs ht hx).mono fun e w' hd => h1.2 _ _ _ _ hd
theorem lasting_live (h : Lives B ((d, room, F) :: L) P w) {s : ByteArray} (hs : s.size ≤ maxLen) {x : Int} (hx : x = seekN F s.data.toList) {n : Int} (hn : n = match x == 0 with | true => ((cur F s.data.toList).lasts : Int) | false => 0) :
    Calls Try.prog 29 #[.pointer (some ⟨d, 0, none⟩), .string s] w fun e w' => e = .returned (.tuple #[.int .i64 n, .int .i64 x]) ∧ Lives B ((d, room, F) :: L) P w' := by
  have hL := h
  obtain ⟨S, h1⟩ := h.disk
  subst hn
  exact (lasting_any h1 hs hx).mono fun e w' ⟨he, hb⟩ => ⟨he, hL.ext hb⟩
theorem used_live (h : Lives B ((d, room, F) :: L) P w) : Calls Try.prog 30 #[.pointer (some ⟨d, 0, none⟩)] w fun e w' => e = .returned (.int .i64 (tot F : Int)) ∧ Lives B ((d, room, F) :: L) P w' := by
  have hL := h
  obtain ⟨S, h1⟩ := h.disk
  exact (Used_any h1).mono fun e w' ⟨he, hb⟩ => ⟨he, hL.ext hb⟩
theorem room_live (h : Lives B ((d, room, F) :: L) P w) : Calls Try.prog 37 #[.pointer (some ⟨d, 0, none⟩)] w fun e w' => e = .returned (.int .i64 (room : Int)) ∧ w = w' := by
  obtain ⟨S, h1⟩ := h.disk
  exact room_any h1

/-- A slice of bytes that reads as bs. -/
def IsBytes (v : Value) (bs : List Nat) (w : World) : Prop := Bs w 0 w.heap.size v bs
/-- A slice of texts. -/
def IsTexts (v : Value) (xs : List (List UInt8)) (w : World) : Prop := ∃ A c, v = .slice A xs.length c ∧ Sl w 0 w.heap.size A (xs.map encStr)
theorem IsBytes.of_row {w1 w' w'' : World} {v : Value} {bs : List Nat} (h : w'.ownsRow w1.heap.size 5 1 v bs.length (bv bs)) (hk : ∀ k, w1.heap.size ≤ k → k < w'.heap.size → w''.heap[k]? = w'.heap[k]?) : IsBytes v bs w'' :=
  (Bs.of_own (row_kept h fun g hg => hk g (row_lt h g hg).1 (row_lt h g hg).2)).wide (Nat.zero_le _) (Nat.le_refl _)
theorem IsTexts.of_row {w1 w' w'' : World} {v : Value} {xs : List (List UInt8)} {n : Nat} (h : w'.ownsRow w1.heap.size 9 1 v n (xs.map encStr)) (hn : n = xs.length) (hk : ∀ k, w1.heap.size ≤ k → k < w'.heap.size → w''.heap[k]? = w'.heap[k]?) : IsTexts v xs w'' := by
  obtain ⟨A, c, rfl, _, _, _, hs⟩ := Sl.of_own (row_kept h fun g hg => hk g (row_lt h g hg).1 (row_lt h g hg).2)
  exact ⟨A, c, by rw [hn], hs.wide (Nat.zero_le _) (Nat.le_refl _)⟩

theorem read_live (h : Lives B ((d, room, F) :: L) P w) {s : ByteArray} (hs : s.size ≤ maxLen) {x : Int} (hx : x = seekN F s.data.toList) {bs : List Nat} (hbs : bs = match x == 0 with | true => (cur F s.data.toList).data | false => []) :
    Calls Try.prog 19 #[.pointer (some ⟨d, 0, none⟩), .string s] w fun e w' => ∃ v, e = .returned (.tuple #[v, .int .i64 x]) ∧ Lives B ((d, room, F) :: L) (fun w => P w ∧ IsBytes v bs w) w' := by
  have hL := h
  obtain ⟨S, h1⟩ := h.disk
  subst hbs
  exact (read_any h1 hs hx).mono fun e w' ⟨v, he, hr, hb⟩ => ⟨v, he, hL.add hb fun w'' hk _ => IsBytes.of_row hr hk⟩
theorem names_live (h : Lives B ((d, room, F) :: L) P w) : Calls Try.prog 36 #[.pointer (some ⟨d, 0, none⟩)] w fun e w' => ∃ v, e = .returned v ∧ Lives B ((d, room, F) :: L) (fun w => P w ∧ IsTexts v (snames F) w) w' := by
  have hL := h
  obtain ⟨S, h1⟩ := h.disk
  exact (names_any h1).mono fun e w' ⟨v, he, hr, hb⟩ => ⟨v, he, hL.add hb fun w'' hk _ => IsTexts.of_row hr (snames_length F).symm hk⟩
theorem copy_live (h : Lives B ((d, room, F) :: L) P w) : Calls Try.prog 33 #[.pointer (some ⟨d, 0, none⟩)] w fun e w' => ∃ d', e = .returned (.pointer (some ⟨d', 0, none⟩)) ∧ Lives B ((d', room, F) :: (d, room, F) :: L) P w' := by
  have hL := h
  obtain ⟨S, h1⟩ := h.disk
  exact (copy_any h1).mono fun e w' ⟨d', he, hd, hb⟩ => ⟨d', he, hL.other hb hd hL.le⟩
/-- What a crash answers. -/
def CrashThen (B d room : Nat) (F : List Fl) (L : List Dk) (P : World → Prop) (ks : List (ByteArray × Int)) (x : Int) (e : Ending) (w' : World) : Prop :=
  (x ≠ 0 ∧ e = .returned (.tuple #[.pointer none, .int .i64 x]) ∧ Lives B ((d, room, F) :: L) P w') ∨ (x = 0 ∧ ∃ d', e = .returned (.tuple #[.pointer (some ⟨d', 0, none⟩), .int .i64 0]) ∧ Lives B ((d', room, F.map (crashed ks)) :: (d, room, F) :: L) P w')
theorem crash_live (h : Lives B ((d, room, F) :: L) P w) {A : Option Addr} {c n : Nat} {ks : List (ByteArray × Int)} (hk : Kepts w A ks) (hn : n = ks.length) {x : Int} (hx : x = crashN F ks) :
    Calls Try.prog 18 #[.pointer (some ⟨d, 0, none⟩), .slice A n c] w (CrashThen B d room F L P ks x) := by
  have hL := h
  obtain ⟨S, h1⟩ := h.disk
  subst hn
  refine (crash_any h1 hk).mono fun e w' hc => ?_
  rcases hc with ⟨h3, h4, h5⟩ | ⟨h3, d', h4, h5, h6⟩
  · exact .inl ⟨by rw [hx]; exact h3, by rw [hx]; exact h4, hL.ext h5⟩
  · exact .inr ⟨by rw [hx]; exact h3, d', h4, hL.other h6 h5 hL.le⟩
end
end Go.Proofs.Ytenhfphgobalfaa
