/- Crash. -/
import Derived.Test.YthcepihibnmgfaaDcrash2
import Derived.Maps.AppendAt
namespace Go.Proofs.Ythcepihibnmgfaa
open Go.RowKit Go.Maps

/-- Crash's answer. -/
def crashN (F : List Fl) (ks : List (ByteArray × Int)) : Int := match (kn ks).all good with | true => wrongN F ks | false => 2
/-- A disk that a crash leaves, or none. -/
def CrashAns (w : World) (room : Nat) (F : List Fl) (ks : List (ByteArray × Int)) (e : Ending) (w' : World) : Prop :=
  (crashN F ks ≠ 0 ∧ e = .returned (.tuple #[.pointer none, .int .i64 (crashN F ks)]) ∧ Below w.heap.size w w') ∨
  (crashN F ks = 0 ∧ ∃ d', e = .returned (.tuple #[.pointer (some ⟨d', 0, none⟩), .int .i64 0]) ∧ Disk w' (Frm w.heap.size) w.heap.size d' room (F.map (crashed ks)) ∧ Below w.heap.size w w')

theorem enters_crash1 : ∀ args w, (callFunc 44 args).run Try.prog w = .ok (.enter 44 args) w := enters_of Try.func44 (by kernel_rfl) rfl
theorem crashN_ok {F : List Fl} {ks : List (ByteArray × Int)} (h : crashN F ks = 0) : anyNeg ks = false := by
  unfold crashN at h
  cases hg : (kn ks).all good <;> rw [hg] at h
  · cases h
  · unfold wrongN at h
    cases hd : dupneg ks <;> rw [hd] at h
    · unfold dupneg at hd
      simp at hd
      exact hd.2
    · cases h

theorem Disk.low {w : World} {S : Nat → Prop} {B B' d room : Nat} {F : List Fl} (h : Disk w S B d room F) (hB : B' ≤ B) : Disk w S B' d room F := by
  obtain ⟨⟨m, D, V, h1, h2, h3, h4, h5, h6, h7⟩, a, b, c, e, f, g, i⟩ := h
  exact ⟨⟨m, D, V, h1, h2, h3, fun x hx => by obtain ⟨⟨u, q1, q2, q3⟩, q4, q5⟩ := h4 x hx; exact ⟨⟨u, q1, ownsRow_base q2 hB, q3⟩, q4, q5⟩, h5, h6, Nat.le_trans hB h7⟩, a, Nat.le_trans hB b, c, e, f, g, i⟩
/-- Behind k of what is told. -/
structure CrI (w : World) (d : Nat) (A : Option Addr) (c : Nat) (ks : List (ByteArray × Int)) (k : Nat) (wr : World) : Prop where
  map : wr.ownsMap Try.prog 9 (plainElem Try.prog 3) (w.heap.size + 2) k (loosed (ks.take k))
  bmap : Boxed wr (w.heap.size + 3) 88 (.map (some (w.heap.size + 2)))
  bkeep : Boxed wr (w.heap.size + 1) 36 (.slice A ks.length c)
  bd : Boxed wr w.heap.size 25 (.pointer (some ⟨d, 0, none⟩))
  names : ∃ v, Boxed wr (w.heap.size + 4) 73 v ∧ wr.ownsRow (w.heap.size + 5) 9 1 v k ((ks.take k).map fun x => Value.string x.1)
  below : Below w.heap.size w wr

set_option maxRecDepth 100000 in
set_option maxHeartbeats 4000000 in
theorem crash_any {w : World} {S : Nat → Prop} {B d room : Nat} {F : List Fl} (h : Disk w S B d room F) {A : Option Addr} {c : Nat} {ks : List (ByteArray × Int)} (hk : Kepts w A ks) :
    Calls Try.prog 20 #[.pointer (some ⟨d, 0, none⟩), .slice A ks.length c] w (CrashAns w room F ks) := by
  obtain ⟨m, D, V, hsee, hfiles, hBm, hap⟩ := h.seen
  have H := Lib.hid h
  have HSEE := Lib.hid hsee
  have HFI := Lib.hid hfiles
  have HK := Lib.hid hk
  have hkl : (ks.length : Int) ≤ 1000000000000 := by have := hk.len; omega
  obtain ⟨i0, hi0, hz0, hz1, hz2⟩ := info_parts t9info
  have HI0 := Lib.hid hi0
  clear hsee hfiles hBm hap h hk hi0
  have hmm := @run_makeMap Try.prog
  go_enter Try.func20, Try.ntmps20
  go_wp2_with fail
  clear hmm
  obtain ⟨w1, hw1⟩ : ∃ w1, w1 = ((((w.alloc (.cells #[.pointer (some ⟨d, 0, none⟩)] 25)).alloc (.cells #[.slice A ks.length c] 36)).alloc (.map #[] 0)).alloc (.cells #[.map (some (w.heap.size + 1 + 1))] 88)).alloc (.cells #[.slice none 0 0] 73) := ⟨_, rfl⟩
  rw [← hw1]
  have HI : Hid (CrI w d A c ks 0 w1) := by
    have hx : Ext w w1 := by rw [hw1]; exact ((((ext_alloc _ _).trans (ext_alloc _ _)).trans (ext_alloc _ _)).trans (ext_alloc _ _)).trans (ext_alloc _ _)
    refine ⟨?_, ?_, ?_, ?_, ⟨.slice none 0 0, ?_, World.ownsRow_nil _ _ _ _⟩, hx⟩
    · rw [hw1]
      have h := World.ownsMap_made ((w.alloc (.cells #[.pointer (some ⟨d, 0, none⟩)] 25)).alloc (.cells #[.slice A ks.length c] 36)) Try.prog 9 (plainElem (H := Value) Try.prog 3)
      simpa [loosed] using (h.alloc (.cells #[.map (some (w.heap.size + 1 + 1))] 88)).alloc (.cells #[.slice none 0 0] 73)
    · rw [hw1]; exact ext_heap (ext_alloc _ _) (heap_at _ _ (by simp))
    · rw [hw1]; exact ext_heap (((ext_alloc _ _).trans (ext_alloc _ _)).trans (ext_alloc _ _)) (heap_at _ _ (by simp))
    · rw [hw1]; exact ext_heap ((((ext_alloc _ _).trans (ext_alloc _ _)).trans (ext_alloc _ _)).trans (ext_alloc _ _)) (heap_at _ _ rfl)
    · rw [hw1]; exact heap_at _ _ (by simp)
  clear hw1
  go_loopw [9, 15] (fun _ i wr => ∃ k : Nat, k ≤ ks.length ∧ i = .int .i64 (k : Int) ∧ Hid (CrI w d A c ks k wr)) (fun _ i _ => ks.length - (intOf i).toNat)
  case atStart => exact ⟨0, Nat.zero_le _, rfl, HI⟩
  case round =>
    obtain ⟨k, hk, rfl, HR⟩ := hrel
    by_cases hlt : k < ks.length
    · obtain ⟨b, o, rfl, hb, h1, h2⟩ := (HK.out.ext HR.out.below).at_ hlt
      have HM := Lib.hid (List.getElem_mem hlt)
      have HTK : Hid (ks.take (k + 1) = ks.take k ++ [ks[k]]) := List.take_succ_eq_append_getElem hlt
      obtain ⟨s, hs⟩ : ∃ s, s = ks[k].1 := ⟨_, rfl⟩
      obtain ⟨z, hz⟩ : ∃ z, z = ks[k].2 := ⟨_, rfl⟩
      rw [← hs] at h1
      rw [← hz] at h2
      have HSS := Lib.hid hs
      have HZZ := Lib.hid hz
      have hwi : IntKind.i64.wrap ((k : Int) * 2) = (k : Int) * 2 := IntWalk.i64_in _ (by omega)
      obtain ⟨v, hbox, hrow⟩ := HR.out.names
      obtain ⟨A0, c0, rfl, _, _, _, _⟩ := Sl.of_own hrow
      have HROW := Lib.hid hrow
      have HBOX := Lib.hid hbox
      have hsz : s.size ≤ maxLen := by rw [hs]; exact HK.out.sz _ HM.out
      have hzw : (Lit.int .i64 z).wf = true := by have := HK.out.wf _ HM.out; rw [← hz] at this; exact WalkArith.wf_i64 (by omega)
      have hkey : keyOf Try.prog 9 (.string s) = some (.string s.data.toList) := WideMaps.keyOf_string_mk Try.underlying9 hsz
      obtain ⟨u2, hrun2, hown2, hg2⟩ := (HR.out.map.alloc (.cells #[.string s, .int .i64 z] 47)).update lawS lawI (by unfold maxLen; omega) hkey (plainElem_int Try.underlying3 hzw)
      have HOWN2 := Lib.hid hown2
      have HG2 := Lib.hid hg2
      have hwr := HR.out.below.size
      have hmlt := HR.out.map.lt
      have hn4 := HBOX.out.lt
      have HC2 : Hid (Chg (fun i => i = w.heap.size + 2) wr u2) := (Chg.alloc wr _).trans (Chg.grown HG2.out (fun i e => by injection e with e; exact e.symm))
      have hq : u2.heap[wr.heap.size]? = some (.cells #[.string s, .int .i64 z] 47 (0, 0)) := (HG2.out.block _ (by simp) (fun e => by injection e with e; omega)).trans (heap_at _ _ rfl)
      have q0 := HR.out.bmap.cell
      have q1 := cell_of (k := 0) hq rfl
      have q3 := (boxed_chg HBOX.out HC2.out (by omega)).cell
      have HB4 := Lib.hid (boxed_chg HBOX.out HC2.out (by omega))
      have HROW2 := Lib.hid (row_chg HROW.out HC2.out (fun i h1 h2 => by omega))
      have HZ5 : Hid (w.heap.size + 5 ≤ wr.heap.size) := by unfold Hid; omega
      have q0a := cell_new q0 (.cells #[.string s, .int .i64 z] 47)
      clear hbox hrow hown2 hg2 hq hsz hzw hkey hmlt hn4 hwr hs hz hb
      go_wp2_with (at_builtin; refine wpList_append_own _ rfl _ _ 73 rfl (w.heap.size + 5) 9 i0 (.string ⟨#[]⟩) 1 16 Try.underlying73 HI0.out hz0 hz1 hz2 rfl (by decide) _ _ _ rfl (HROW2.out.alloc _) ⟨u2.heap.size, 0, none⟩ 1 1 [.string s] rfl rfl (cell_one_new _ _ _) (by simp [Value.oneCell']) (by unfold maxLen; omega) (by omega) (by have := HZ5.out; have := HC2.out.size; simp; omega) ?_; intro v' u3 hown' hgrow _; obtain ⟨g', cap', rfl⟩ := ownsRow_succ hown'; have HOWN3 := Lib.hid hown'; have HG3 := Lib.hid hgrow; have q4 := (HB4.out.alloc (.cells #[.string s] 9)).kept hgrow (fun e => by have := (row_lt HROW2.out _ e.symm).1; omega); have q5 := q4.cell; have q6 := q4.frozen; clear hown' hgrow)
      have hz5 := HZ5.out
      have hc3 : Chg (fun i => i = w.heap.size + 2 ∨ w.heap.size + 5 ≤ i) wr u3 := ((HC2.out.mono fun i _ e => .inl e).trans (Chg.alloc u2 _)).trans (Chg.grown HG3.out (fun i e => .inr (row_lt HROW2.out i e).1))
      have hc4 : Chg (fun i => i = w.heap.size + 2 ∨ i = w.heap.size + 4 ∨ w.heap.size + 5 ≤ i) wr (u3.setCell ⟨w.heap.size + 4, 0, none⟩ (.slice (some ⟨g', 0, none⟩) (k + 1) cap')) :=
        (hc3.mono fun i _ e => e.elim .inl (fun h => .inr (.inr h))).trans (Chg.setCell _ _ _ (.inr (.inl rfl)))
      have hm : (u3.setCell ⟨w.heap.size + 4, 0, none⟩ (.slice (some ⟨g', 0, none⟩) (k + 1) cap')).heap[w.heap.size + 2]? = u2.heap[w.heap.size + 2]? := by
        have hlt2 := HOWN2.out.lt
        refine (Below.heap_setCell _ _ _ _ (by simp)).trans ((HG3.out.block _ (by simp; omega) (fun e => by have := (row_lt HROW2.out _ e.symm).1; omega)).trans (Below.heap_alloc _ _ _ hlt2))
      go_roundw
      case rel =>
        refine ⟨k + 1, by omega, by go_num, ⟨?_, boxed_chg HR.out.bmap hc4 (by omega), boxed_chg HR.out.bkeep hc4 (by omega), boxed_chg HR.out.bd hc4 (by omega), ⟨_, q4.set _, ?_⟩, HR.out.below.trans (hc4.below (fun i hi => by omega) HR.out.below.size)⟩⟩
        · rw [HTK.out, loosed_snoc, ← HSS.out, ← HZZ.out]
          exact map_kept HOWN2.out hm
        · rw [HTK.out, List.map_append, List.map_singleton, ← HSS.out]
          exact row_kept HOWN3.out (fun g hg => Below.heap_setCell _ _ _ _ (fun e => by have e : g = w.heap.size + 4 := e; have := (row_lt HOWN3.out g hg).1; omega))
      case measure => simp [intOf]; omega
    · obtain rfl : k = ks.length := by omega
      have HRX := Lib.hid HR.out.below
      obtain ⟨v, hbox, hrow⟩ := HR.out.names
      obtain ⟨A0, c0, rfl, _, _, hl3, hsl⟩ := Sl.of_own hrow
      have hmapI := HR.out.map
      rw [List.take_length] at hrow hsl hmapI
      have HMAP := Lib.hid hmapI
      have HNM : Hid (Names wr A0 (ks.map (·.1))) := ⟨by
          have := hsl.wide (Nat.zero_le _) (Nat.le_refl _)
          rw [List.map_map]; exact this, fun s hs => by obtain ⟨x, hx, rfl⟩ := List.mem_map.1 hs; exact HK.out.sz x hx, by rw [List.length_map]; have := HK.out.len; omega⟩
      have HIS := Lib.hid (H.out.isDisk.ext HRX.out)
      have q0 := HR.out.bd.cell
      have q1 := hbox.cell
      have HB0 := Lib.hid HR.out.bmap
      have HB1 := Lib.hid HR.out.bkeep
      have HB2 := Lib.hid HR.out.bd
      have HB3 := Lib.hid hbox
      have HW := Lib.hid (wrong_is (HSEE.out.ext HRX.out) (fun f hf => (HFI.out f hf).shape) (HK.out.ext HRX.out) HNM.out HMAP.out HB0.out.cell HB1.out.cell HB3.out.cell HB2.out.cell)
      obtain ⟨x, hx⟩ : ∃ x, x = crashN F ks := ⟨_, rfl⟩
      have HX := Lib.hid hx
      have HLEN : Hid ((ks.map (·.1)).length = ks.length) := by simp [Hid]
      have HREF := Lib.hid (refused_any HIS.out (c := c0) HNM.out enters_crash1 (lb := #[.pointer (some ⟨w.heap.size + 3, 0, none⟩), .pointer (some ⟨w.heap.size + 1, 0, none⟩), .pointer (some ⟨w.heap.size + 4, 0, none⟩), .pointer (some ⟨w.heap.size, 0, none⟩)]) (Q := fun y w' => y = x ∧ Below wr.heap.size wr w')
        (by
          rintro ⟨s, hs, hb⟩
          refine ⟨?_, Below.refl _ _⟩
          have : (kn ks).all good = false := by
            rw [List.all_eq_false]
            obtain ⟨y, hy, rfl⟩ := List.mem_map.1 hs
            exact ⟨_, List.mem_map.2 ⟨y, hy, rfl⟩, by rw [hb]; simp⟩
          rw [HX.out]; unfold crashN; rw [this])
        (by
          intro hg
          refine HW.out.mono ?_
          rintro e w' ⟨rfl, hb⟩
          refine ⟨_, rfl, ?_, hb⟩
          have : (kn ks).all good = true := by
            rw [List.all_eq_true]
            intro n hn
            obtain ⟨y, hy, rfl⟩ := List.mem_map.1 hn
            exact hg y.1 (List.mem_map.2 ⟨y, hy, rfl⟩)
          rw [HX.out]; unfold crashN; rw [this]))
      rw [HLEN.out] at HREF
      clear hbox hrow hl3 hsl hmapI hx
      go_wp2_with fail
      refine Calls.mono HREF.out ?_
      rintro e w2 ⟨y, rfl, rfl, hb⟩
      have HX2 : Hid (Ext wr w2) := hb
      have HXW : Hid (Ext w w2) := Ext.trans HRX.out hb
      clear hb q0 q1
      by_cases hy : y = 0
      · subst hy
        have q0 := ext_cell HX2.out HB2.out.cell
        have HOK := Lib.hid (crashN_ok HX.out.symm)
        have HAN := Lib.hid (another_any (H.out.ext HXW.out) (crashed ks) (fun f hf => ⟨rfl, by rw [crashed_len (HFI.out f hf).lasts]; exact Nat.le_refl _, by rw [crashed_len (HFI.out f hf).lasts]; exact leftN_le (HFI.out f hf).lasts, fun b hb => (HFI.out f hf).bytes b (List.mem_of_mem_take hb)⟩)
          50 #[.pointer (some ⟨w.heap.size + 3, 0, none⟩)] enters_crash2
          (fun A' f v hf hv hb => crash2_left HK.out.sz HK.out.wf HOK.out (map_kept HMAP.out (HX2.out.block _ HMAP.out.lt)) (ext_cell HX2.out HB0.out.cell) A' f v hv (by have := H.out.names f hf; simp [good] at this; unfold maxLen; omega) (by have h1 := tot_mem hf; have h2 := H.out.tot; have h3 := H.out.hi; omega) hb))
        go_wp2_with fail
        refine Calls.mono HAN.out ?_
        rintro e w3 ⟨d', rfl, hd3, hb3⟩
        have HD3 := Lib.hid hd3
        have HX3 : Hid (Ext w2 w3) := hb3
        clear hd3 hb3
        go_wp2_with fail
        go_ret2
        exact .inr ⟨HX.out.symm, d', rfl, (HD3.out.wide (fun k hk => Nat.le_trans HXW.out.size hk)).low HXW.out.size, Ext.trans HXW.out HX3.out⟩
      · have t1 : (y != 0) = true := by simpa using hy
        have HF : Hid (CrashAns w room F ks (.returned (.tuple #[.pointer none, .int .i64 y])) w2) := .inl ⟨by rw [← HX.out]; exact hy, by rw [HX.out], HXW.out⟩
        clear hy
        go_wp2_with fail
        go_ret2
        exact HF.out
end Go.Proofs.Ythcepihibnmgfaa
