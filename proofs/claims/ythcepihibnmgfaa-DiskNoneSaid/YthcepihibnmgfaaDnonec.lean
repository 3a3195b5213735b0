/- What a crash of a disk that is none answers. -/
import Derived.Test.YthcepihibnmgfaaDcrash
namespace Go.Proofs.Ythcepihibnmgfaa
open Go.RowKit Go.Maps Go.Sort Go.Shelf

/-- Behind k of what is told. -/
structure CrJ (w : World) (o : Option Addr) (A : Option Addr) (c : Nat) (ks : List (ByteArray × Int)) (k : Nat) (wr : World) : Prop where
  map : wr.ownsMap Try.prog 9 (plainElem Try.prog 3) (w.heap.size + 2) k (loosed (ks.take k))
  bmap : Boxed wr (w.heap.size + 3) 88 (.map (some (w.heap.size + 2)))
  bkeep : Boxed wr (w.heap.size + 1) 36 (.slice A ks.length c)
  bd : Boxed wr w.heap.size 25 (.pointer o)
  names : ∃ v, Boxed wr (w.heap.size + 4) 73 v ∧ wr.ownsRow (w.heap.size + 5) 9 1 v k ((ks.take k).map fun x => Value.string x.1)
  below : Below w.heap.size w wr

set_option maxRecDepth 100000 in
set_option maxHeartbeats 4000000 in
theorem crash_nil {w : World} {o : Option Addr} (hN : NoDisk w (.pointer o)) {A : Option Addr} {c : Nat} {ks : List (ByteArray × Int)} (hk : Kepts w A ks) :
    Calls Try.prog 20 #[.pointer o, .slice A ks.length c] w fun e w' => e = .returned (.tuple #[.pointer none, .int .i64 1]) ∧ Below w.heap.size w w' := by
  have HN := Lib.hid hN
  have HK := Lib.hid hk
  have hkl : (ks.length : Int) ≤ 1000000000000 := by have := hk.len; omega
  obtain ⟨i0, hi0, hz0, hz1, hz2⟩ := info_parts t9info
  have HI0 := Lib.hid hi0
  clear hN hk hi0
  have hmm := @run_makeMap Try.prog
  go_enter Try.func20, Try.ntmps20
  go_wp2_with fail
  clear hmm
  obtain ⟨w1, hw1⟩ : ∃ w1, w1 = ((((w.alloc (.cells #[.pointer o] 25)).alloc (.cells #[.slice A ks.length c] 36)).alloc (.map #[] 0)).alloc (.cells #[.map (some (w.heap.size + 1 + 1))] 88)).alloc (.cells #[.slice none 0 0] 73) := ⟨_, rfl⟩
  rw [← hw1]
  have HI : Hid (CrJ w o A c ks 0 w1) := by
    have hx : Ext w w1 := by rw [hw1]; exact ((((ext_alloc _ _).trans (ext_alloc _ _)).trans (ext_alloc _ _)).trans (ext_alloc _ _)).trans (ext_alloc _ _)
    refine ⟨?_, ?_, ?_, ?_, ⟨.slice none 0 0, ?_, World.ownsRow_nil _ _ _ _⟩, hx⟩
    · rw [hw1]
      have h := World.ownsMap_made ((w.alloc (.cells #[.pointer o] 25)).alloc (.cells #[.slice A ks.length c] 36)) Try.prog 9 (plainElem (H := Value) Try.prog 3)
      simpa [loosed] using (h.alloc (.cells #[.map (some (w.heap.size + 1 + 1))] 88)).alloc (.cells #[.slice none 0 0] 73)
    · rw [hw1]; exact ext_heap (ext_alloc _ _) (heap_at _ _ (by simp))
    · rw [hw1]; exact ext_heap (((ext_alloc _ _).trans (ext_alloc _ _)).trans (ext_alloc _ _)) (heap_at _ _ (by simp))
    · rw [hw1]; exact ext_heap ((((ext_alloc _ _).trans (ext_alloc _ _)).trans (ext_alloc _ _)).trans (ext_alloc _ _)) (heap_at _ _ rfl)
    · rw [hw1]; exact heap_at _ _ (by simp)
  clear hw1
  go_loopw [9, 15] (fun _ i wr => ∃ k : Nat, k ≤ ks.length ∧ i = .int .i64 (k : Int) ∧ Hid (CrJ w o A c ks k wr)) (fun _ i _ => ks.length - (intOf i).toNat)
  case atStart => exact ⟨0, Nat.zero_le _, rfl, HI⟩
  case round =>
    obtain ⟨k, hk, rfl, HR⟩ := hrel
    by_cases hlt : k < ks.length
    · obtain ⟨b, o, rfl, hb, h1, h2⟩ := (HK.out.ext HR.out.below).at_ hlt
      have HM := Lib.hid (List.getElem_mem hlt)
      have HTK : Hid (ks.take (k + 1) = ks.take k ++ [ks[k]]) := List.take_succ_eq_append_getElem hlt
      obtain ⟨s, hs⟩ : ∃ s, s = ks[k].1 := ⟨_, rfl⟩
      obtain ⟨z, hz⟩ : ∃ z, z = ks[k].2 := ⟨_, rfl⟩
      rw [← hs] at h1
      rw [← hz] at h2
      have HSS := Lib.hid hs
      have HZZ := Lib.hid hz
      have hwi : IntKind.i64.wrap ((k : Int) * 2) = (k : Int) * 2 := IntWalk.i64_in _ (by omega)
      obtain ⟨v, hbox, hrow⟩ := HR.out.names
      obtain ⟨A0, c0, rfl, _, _, _, _⟩ := Sl.of_own hrow
      have HROW := Lib.hid hrow
      have HBOX := Lib.hid hbox
      have hsz : s.size ≤ maxLen := by rw [hs]; exact HK.out.sz _ HM.out
      have hzw : (Lit.int .i64 z).wf = true := by have := HK.out.wf _ HM.out; rw [← hz] at this; exact WalkArith.wf_i64 (by omega)
      have hkey : keyOf Try.prog 9 (.string s) = some (.string s.data.toList) := WideMaps.keyOf_string_mk Try.underlying9 hsz
      obtain ⟨u2, hrun2, hown2, hg2⟩ := (HR.out.map.alloc (.cells #[.string s, .int .i64 z] 47)).update lawS lawI (by unfold maxLen; omega) hkey (plainElem_int Try.underlying3 hzw)
      have HOWN2 := Lib.hid hown2
      have HG2 := Lib.hid hg2
      have hwr := HR.out.below.size
      have hmlt := HR.out.map.lt
      have hn4 := HBOX.out.lt
      have HC2 : Hid (Chg (fun i => i = w.heap.size + 2) wr u2) := (Chg.alloc wr _).trans (Chg.grown HG2.out (fun i e => by injection e with e; exact e.symm))
      have hq : u2.heap[wr.heap.size]? = some (.cells #[.string s, .int .i64 z] 47 (0, 0)) := (HG2.out.block _ (by simp) (fun e => by injection e with e; omega)).trans (heap_at _ _ rfl)
      have q0 := HR.out.bmap.cell
      have q1 := cell_of (k := 0) hq rfl
      have q3 := (boxed_chg HBOX.out HC2.out (by omega)).cell
      have HB4 := Lib.hid (boxed_chg HBOX.out HC2.out (by omega))
      have HROW2 := Lib.hid (row_chg HROW.out HC2.out (fun i h1 h2 => by omega))
      have HZ5 : Hid (w.heap.size + 5 ≤ wr.heap.size) := by unfold Hid; omega
      have q0a := cell_new q0 (.cells #[.string s, .int .i64 z] 47)
      clear hbox hrow hown2 hg2 hq hsz hzw hkey hmlt hn4 hwr hs hz hb
      go_wp2_with (at_builtin; refine wpList_append_own _ rfl _ _ 73 rfl (w.heap.size + 5) 9 i0 (.string ⟨#[]⟩) 1 16 Try.underlying73 HI0.out hz0 hz1 hz2 rfl (by decide) _ _ _ rfl (HROW2.out.alloc _) ⟨u2.heap.size, 0, none⟩ 1 1 [.string s] rfl rfl (cell_one_new _ _ _) (by simp [Value.oneCell']) (by unfold maxLen; omega) (by omega) (by have := HZ5.out; have := HC2.out.size; simp; omega) ?_; intro v' u3 hown' hgrow _; obtain ⟨g', cap', rfl⟩ := ownsRow_succ hown'; have HOWN3 := Lib.hid hown'; have HG3 := Lib.hid hgrow; have q4 := (HB4.out.alloc (.cells #[.string s] 9)).kept hgrow (fun e => by have := (row_lt HROW2.out _ e.symm).1; omega); have q5 := q4.cell; have q6 := q4.frozen; clear hown' hgrow)
      have hz5 := HZ5.out
      have hc3 : Chg (fun i => i = w.heap.size + 2 ∨ w.heap.size + 5 ≤ i) wr u3 := ((HC2.out.mono fun i _ e => .inl e).trans (Chg.alloc u2 _)).trans (Chg.grown HG3.out (fun i e => .inr (row_lt HROW2.out i e).1))
      have hc4 : Chg (fun i => i = w.heap.size + 2 ∨ i = w.heap.size + 4 ∨ w.heap.size + 5 ≤ i) wr (u3.setCell ⟨w.heap.size + 4, 0, none⟩ (.slice (some ⟨g', 0, none⟩) (k + 1) cap')) :=
        (hc3.mono fun i _ e => e.elim .inl (fun h => .inr (.inr h))).trans (Chg.setCell _ _ _ (.inr (.inl rfl)))
      have hm : (u3.setCell ⟨w.heap.size + 4, 0, none⟩ (.slice (some ⟨g', 0, none⟩) (k + 1) cap')).heap[w.heap.size + 2]? = u2.heap[w.heap.size + 2]? := by
        have hlt2 := HOWN2.out.lt
        refine (Below.heap_setCell _ _ _ _ (by simp)).trans ((HG3.out.block _ (by simp; omega) (fun e => by have := (row_lt HROW2.out _ e.symm).1; omega)).trans (Below.heap_alloc _ _ _ hlt2))
      go_roundw
      case rel =>
        refine ⟨k + 1, by omega, by go_num, ⟨?_, boxed_chg HR.out.bmap hc4 (by omega), boxed_chg HR.out.bkeep hc4 (by omega), boxed_chg HR.out.bd hc4 (by omega), ⟨_, q4.set _, ?_⟩, HR.out.below.trans (hc4.below (fun i hi => by omega) HR.out.below.size)⟩⟩
        · rw [HTK.out, loosed_snoc, ← HSS.out, ← HZZ.out]
          exact map_kept HOWN2.out hm
        · rw [HTK.out, List.map_append, List.map_singleton, ← HSS.out]
          exact row_kept HOWN3.out (fun g hg => Below.heap_setCell _ _ _ _ (fun e => by have e : g = w.heap.size + 4 := e; have := (row_lt HOWN3.out g hg).1; omega))
      case measure => simp [intOf]; omega
    · obtain rfl : k = ks.length := by omega
      have HRX := Lib.hid HR.out.below
      obtain ⟨v, hbox, hrow⟩ := HR.out.names
      obtain ⟨A0, c0, rfl, _, _, _, _⟩ := Sl.of_own hrow
      have q0 := HR.out.bd.cell
      have q1 := hbox.cell
      have HNN := Lib.hid (HN.out.ext HRX.out)
      clear hbox hrow HR hlt hk
      go_wp2_with fail
      refine (refused_nil HNN.out).mono ?_
      rintro e w9 ⟨rfl, rfl⟩
      go_wp2_with fail
      go_ret2
      exact ⟨rfl, HRX.out⟩

end Go.Proofs.Ythcepihibnmgfaa
