/- What is told of a crash: names, and how many loose bytes are kept of each. -/
import Derived.Test.YthcepihibnmgfaaDcopy
namespace Go.Proofs.Ythcepihibnmgfaa
open Go.RowKit Go.Maps
set_option linter.unusedVariables false

/-- A row of names and numbers. -/
structure Kepts (w : World) (A : Option Addr) (ks : List (ByteArray × Int)) : Prop where
  ex : ks = [] ∨ ∃ b o, A = some ⟨b, o, none⟩ ∧ b < w.heap.size ∧ ∀ i s z, ks[i]? = some (s, z) → w.cell? ⟨b, o + i * 2, none⟩ = some (.string s) ∧ w.cell? ⟨b, o + i * 2 + 1, none⟩ = some (.int .i64 z)
  sz : ∀ x ∈ ks, x.1.size ≤ maxLen
  wf : ∀ x ∈ ks, -9223372036854775808 ≤ x.2 ∧ x.2 ≤ 9223372036854775807
  len : ks.length ≤ 1000000000000

theorem Kepts.ext {w w' : World} {A : Option Addr} {ks : List (ByteArray × Int)} (h : Kepts w A ks) (hx : Ext w w') : Kepts w' A ks := by
  refine ⟨?_, h.sz, h.wf, h.len⟩
  rcases h.ex with h | ⟨b, o, e, hb, hc⟩
  · exact .inl h
  · refine .inr ⟨b, o, e, Nat.lt_of_lt_of_le hb hx.size, fun i s z hi => ?_⟩
    obtain ⟨h1, h2⟩ := hc i s z hi
    exact ⟨ext_cell hx h1, ext_cell hx h2⟩
theorem Kepts.at_ {w : World} {A : Option Addr} {ks : List (ByteArray × Int)} (h : Kepts w A ks) {i : Nat} (hi : i < ks.length) :
    ∃ b o, A = some ⟨b, o, none⟩ ∧ b < w.heap.size ∧ w.cell? ⟨b, o + i * 2, none⟩ = some (.string ks[i].1) ∧ w.cell? ⟨b, o + i * 2 + 1, none⟩ = some (.int .i64 ks[i].2) := by
  rcases h.ex with rfl | ⟨b, o, e, hb, hc⟩
  · simp at hi
  · obtain ⟨h1, h2⟩ := hc i _ _ (List.getElem?_eq_getElem hi)
    exact ⟨b, o, e, hb, h1, h2⟩

/-- Is one of the numbers below 0? -/
def anyNeg (ks : List (ByteArray × Int)) : Bool := ks.any fun x => decide (x.2 < 0)

set_option maxHeartbeats 1000000 in
theorem below0_any (s : ByteArray) (z : Int) (hz : -9223372036854775808 ≤ z ∧ z ≤ 9223372036854775807) (w : World) : Calls Try.prog 46 #[.agg #[.string s, .int .i64 z]] w fun e w' => e = .returned (.bool (decide (z < 0))) ∧ w' = w.alloc (.cells #[.string s, .int .i64 z] 47) := by
  go_enter Try.func46, Try.ntmps46
  go_wp2
  go_ret
  exact ⟨rfl, rfl⟩

/-- The place of the first number below 0, or -1. -/
def IdxAns (ks : List (ByteArray × Int)) (w : World) (e : Ending) (w' : World) : Prop := ∃ i : Int, e = .returned (.int .i64 i) ∧ (anyNeg ks = true → 0 ≤ i) ∧ (anyNeg ks = false → i = -1) ∧ i ≤ 1000000000000 ∧ Below w.heap.size w w'

theorem enters_below0 : ∀ args w, (callFunc 46 args).run Try.prog w = .ok (.enter 46 args) w := enters_of Try.func46 (by kernel_rfl) rfl

set_option maxHeartbeats 2000000 in
theorem index_any {w : World} {A : Option Addr} {c : Nat} {ks : List (ByteArray × Int)} (h : Kepts w A ks) :
    Calls Try.prog 64 #[.slice A ks.length c, .func (.func 46) #[] #[]] w (IdxAns ks w) := by
  have HK := Lib.hid h
  have hlen := h.len
  have eg := enters_below0
  clear h
  go_enter Try.func64, Try.ntmps64
  go_wp2_with fail
  go_loopw [5, 8] (fun _ i wr => ∃ k : Nat, k ≤ ks.length ∧ i = .int .i64 (k : Int) ∧ Hid (∀ x ∈ ks.take k, 0 ≤ x.2) ∧ Hid (Ext w wr)) (fun _ i _ => ks.length - (intOf i).toNat)
  case atStart => exact ⟨0, Nat.zero_le _, rfl, by unfold Hid; simp, Ext.refl _⟩
  case round =>
    obtain ⟨k, hk, rfl, HA, HX⟩ := hrel
    by_cases hlt : k < ks.length
    · obtain ⟨b, o, rfl, hb, h1, h2⟩ := (HK.out.ext HX.out).at_ hlt
      obtain ⟨s, hs⟩ : ∃ s, s = ks[k].1 := ⟨_, rfl⟩
      obtain ⟨z, hz⟩ : ∃ z, z = ks[k].2 := ⟨_, rfl⟩
      have hwf := HK.out.wf _ (List.getElem_mem hlt)
      rw [← hz] at hwf h2
      rw [← hs] at h1
      have HC := Lib.hid (below0_any s z hwf wr)
      have HZ := Lib.hid hz
      have HM := Lib.hid (List.getElem_mem hlt)
      have hwi : IntKind.i64.wrap ((k : Int) * 2) = (k : Int) * 2 := IntWalk.i64_in _ (by omega)
      by_cases hneg : z < 0
      · have HN : Hid (anyNeg ks = true) := List.any_eq_true.2 ⟨_, HM.out, by rw [← HZ.out]; simpa using hneg⟩
        rw [decide_eq_true hneg] at HC
        clear hneg hs hz hb
        go_wp2_with fail
        refine Calls.mono HC.out ?_
        rintro e w1 ⟨rfl, rfl⟩
        go_wp2_with fail
        go_ret
        exact ⟨_, rfl, fun _ => by omega, (fun h => (by rw [HN.out] at h; cases h)), by omega, Ext.trans HX.out (ext_alloc _ _)⟩
      · have HA' : Hid (∀ x ∈ ks.take (k + 1), 0 ≤ x.2) := by
          intro x hx
          rw [List.take_succ_eq_append_getElem hlt] at hx
          rcases List.mem_append.1 hx with hx | hx
          · exact HA.out x hx
          · simp at hx; rw [hx, ← HZ.out]; omega
        rw [decide_eq_false hneg] at HC
        have HX2 := Lib.hid (Ext.trans HX.out (ext_alloc wr (.cells #[.string s, .int .i64 z] 47)))
        clear hneg hs hz hb
        go_wp2_with fail
        refine Calls.mono HC.out ?_
        rintro e w1 ⟨rfl, rfl⟩
        go_wp2_with fail
        go_roundw
        case rel => exact ⟨k + 1, by omega, by go_num, HA', HX2⟩
        case measure => simp [intOf]; omega
    · obtain rfl : k = ks.length := by omega
      have HN : Hid (anyNeg ks = false) := by
        unfold Hid anyNeg
        rw [List.any_eq_false]
        intro x hx
        simpa using HA.out x (by rw [List.take_length]; exact hx)
      go_wp2_with fail
      go_ret
      exact ⟨-1, rfl, (fun h => (by rw [HN.out] at h; cases h)), fun _ => rfl, by omega, HX.out⟩

set_option maxHeartbeats 1000000 in
theorem contains_any {w : World} {A : Option Addr} {c : Nat} {ks : List (ByteArray × Int)} (h : Kepts w A ks) :
    Calls Try.prog 45 #[.slice A ks.length c, .func (.func 46) #[] #[]] w fun e w' => e = .returned (.bool (anyNeg ks)) ∧ Below w.heap.size w w' := by
  have HI := Lib.hid (index_any (c := c) h)
  clear h
  go_enter Try.func45, Try.ntmps45
  go_wp2_with fail
  refine Calls.mono HI.out ?_
  rintro e w1 ⟨i, rfl, h1, h2, h3, h4⟩
  have H4 := Lib.hid h4
  cases hn : anyNeg ks
  · obtain rfl := h2 hn
    clear h1 h2 h3 h4
    go_wp2_with fail
    go_ret
    exact ⟨by rw [hn]; rfl, H4.out⟩
  · have h0 := h1 hn
    clear h1 h2 h3 h4
    go_wp2_with fail
    go_ret
    exact ⟨by rw [hn]; rfl, H4.out⟩
end Go.Proofs.Ythcepihibnmgfaa
