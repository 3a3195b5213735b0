/- A disk that is none; what is refused ahead of all else. -/
import Derived.Test.YthcepihibnmgfaaDname
import Derived.Deep.LoopGhost
import Derived.Shelf.Abstract
namespace Go.Proofs.Ythcepihibnmgfaa
open Go.RowKit

/-- No disk: nil, or a zero one. -/
def NoDisk (w : World) (v : Value) : Prop := v = .pointer none ∨ ∃ d, v = .pointer (some ⟨d, 0, none⟩) ∧ w.cell? ⟨d, 0, none⟩ = some (.int .i64 0)
/-- A disk's cell for its room. -/
def IsDisk (w : World) (d : Nat) : Prop := ∃ r : Nat, 1024 ≤ r ∧ w.cell? ⟨d, 0, none⟩ = some (.int .i64 (r : Int))

theorem Disk.isDisk {w : World} {S : Nat → Prop} {B d room : Nat} {F : List Fl} (h : Disk w S B d room F) : IsDisk w d := by
  obtain ⟨⟨m, D, V, h1, _⟩, _, _, hl, _⟩ := h
  exact ⟨room, hl, by simp [World.cell?, h1]⟩
theorem IsDisk.kept {w w' : World} {d : Nat} (h : IsDisk w d) (hk : w'.heap[d]? = w.heap[d]?) : IsDisk w' d := by
  obtain ⟨r, h1, h2⟩ := h
  exact ⟨r, h1, (World.cell?_of_block hk).trans h2⟩
theorem IsDisk.lt {w : World} {d : Nat} (h : IsDisk w d) : d < w.heap.size := by
  obtain ⟨r, _, h2⟩ := h
  exact World.block_lt_of_cell? w _ h2
theorem IsDisk.ext {w w' : World} {d : Nat} (h : IsDisk w d) (hx : Ext w w') : IsDisk w' d := h.kept (hx.block d h.lt)
theorem NoDisk.ext {w w' : World} {v : Value} (h : NoDisk w v) (hx : Ext w w') : NoDisk w' v := by
  rcases h with h | ⟨d, h, hc⟩
  · exact .inl h
  · exact .inr ⟨d, h, (hx.cell (p := ⟨d, 0, none⟩) (World.block_lt_of_cell? w _ hc)).trans hc⟩

set_option maxHeartbeats 1000000 in
theorem none_no {w : World} {d : Nat} (h : IsDisk w d) : Calls Try.prog 52 #[.pointer (some ⟨d, 0, none⟩)] w fun e w' => e = .returned (.bool false) ∧ w = w' := by
  obtain ⟨r, hr, hc⟩ := h
  have h0 : ((r : Int) == 0) = false := by simp; omega
  go_enter Try.func52, Try.ntmps52
  go_wp2
  go_ret
  exact ⟨rfl, rfl⟩
set_option maxHeartbeats 1000000 in
theorem none_yes {w : World} {v : Value} (h : NoDisk w v) : Calls Try.prog 52 #[v] w fun e w' => e = .returned (.bool true) ∧ w = w' := by
  rcases h with rfl | ⟨d, rfl, hc⟩
  · go_enter Try.func52, Try.ntmps52
    go_wp2
    go_ret
    exact ⟨rfl, rfl⟩
  · go_enter Try.func52, Try.ntmps52
    go_wp2
    go_ret
    exact ⟨rfl, rfl⟩

/-- Some names of a row. -/
structure Names (w : World) (A : Option Addr) (ns : List ByteArray) : Prop where
  sl : Sl w 0 w.heap.size A (ns.map Value.string)
  sz : ∀ s ∈ ns, s.size ≤ maxLen
  len : ns.length ≤ 1000000000000000000

/-- What answers a number. -/
def Ans (Q : Int → World → Prop) (e : Ending) (w : World) : Prop := ∃ x : Int, e = .returned (.int .i64 x) ∧ Q x w

set_option maxHeartbeats 1000000 in
theorem refused_nil {w : World} {v f l : Value} (h : NoDisk w v) : Calls Try.prog 48 #[v, f, l] w fun e w' => e = .returned (.int .i64 1) ∧ w = w' := by
  have HC := Lib.hid (none_yes h)
  clear h
  go_enter Try.func48, Try.ntmps48
  go_wp2_with fail
  refine Calls.mono HC.out ?_
  rintro e w' ⟨rfl, rfl⟩
  go_wp2_with fail
  go_ret
  exact ⟨rfl, rfl⟩

set_option maxHeartbeats 2000000 in
theorem refused_any {w : World} {d : Nat} (h : IsDisk w d) {A : Option Addr} {c : Nat} {ns : List ByteArray} (hn : Names w A ns) {g : Nat} {lb : Array Value} (eg : ∀ args w, (callFunc g args).run Try.prog w = .ok (.enter g args) w) {Q : Int → World → Prop}
    (hbad : (∃ s ∈ ns, good s.data.toList = false) → Q 2 w) (hok : (∀ s ∈ ns, good s.data.toList = true) → Calls Try.prog g lb w (Ans Q)) :
    Calls Try.prog 48 #[.pointer (some ⟨d, 0, none⟩), .func (.func g) #[] lb, .slice A ns.length c] w (Ans Q) := by
  have HC := Lib.hid (none_no h)
  have HN := Lib.hid hn
  have HB := Lib.hid hbad
  have HO := Lib.hid hok
  have hlen := hn.len
  clear h hn hbad hok
  go_enter Try.func48, Try.ntmps48
  go_wp2_with fail
  refine Calls.mono HC.out ?_
  rintro e w' ⟨rfl, rfl⟩
  go_wp2_with fail
  go_loop [8, 13] (fun _ i => ∃ k : Nat, k ≤ ns.length ∧ i = .int .i64 (k : Int) ∧ Hid (∀ s ∈ ns.take k, good s.data.toList = true)) (fun _ i => ns.length - (intOf i).toNat)
  case atStart => exact ⟨0, Nat.zero_le _, rfl, by unfold Hid; simp⟩
  case round =>
    obtain ⟨k, hk, rfl, HA⟩ := hrel
    by_cases hlt : k < ns.length
    · obtain ⟨b, o, rfl, _, _, hcell⟩ := HN.out.sl.at_ (i := k) (by simpa using hlt)
      rw [List.getElem_map] at hcell
      have HM := Lib.hid (mayBe_any ns[k] w (HN.out.sz _ (List.getElem_mem hlt)))
      cases hg : good ns[k].data.toList
      · have HQ := Lib.hid (HB.out ⟨_, List.getElem_mem hlt, hg⟩)
        rw [hg] at HM
        clear hg
        go_wp2_with fail
        refine Calls.mono HM.out ?_
        rintro e w' ⟨rfl, rfl⟩
        go_wp2_with fail
        go_ret
        exact ⟨2, rfl, HQ.out⟩
      · have HA' : Hid (∀ s ∈ ns.take (k + 1), good s.data.toList = true) := by
          intro s hs
          rw [List.take_succ_eq_append_getElem hlt] at hs
          rcases List.mem_append.1 hs with h | h
          · exact HA.out s h
          · simp at h; rw [h]; exact hg
        rw [hg] at HM
        clear hg
        go_wp2_with fail
        refine Calls.mono HM.out ?_
        rintro e w' ⟨rfl, rfl⟩
        go_wp2_with fail
        go_round
        case rel => exact ⟨k + 1, by omega, by go_num, HA'⟩
        case measure => simp [intOf]; omega
    · obtain rfl : k = ns.length := by omega
      have HF := Lib.hid (HO.out (fun s hs => HA.out s (by rw [List.take_length]; exact hs)))
      go_wp2_with fail
      refine Calls.mono HF.out ?_
      rintro e w' ⟨x, rfl, HQ⟩
      have HQ := Lib.hid HQ
      go_wp2_with fail
      go_ret
      exact ⟨x, rfl, HQ.out⟩
end Go.Proofs.Ythcepihibnmgfaa
