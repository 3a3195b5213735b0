/- A slice of pairs that came in. -/
import Derived.Test.YtdggemdgndiafaaLtakes
import Derived.Test.YtdggemdgndiafaaWopen
import Derived.OpenShut
namespace Go.Proofs.Ytdggemdgndiafaa
open Go.ChangeShapes Go.WideShapes Go.ChangeAt Go.RowKit

def pc (t : Nat × Nat) : List Value := [Value.int .u64 (t.1 : Int), .int .u64 (t.2 : Int)]
set_option maxRecDepth 100000 in
theorem open_pairs {H : Type} {enc : TypeId × Value → H} {W : World} {v : Value} {d : DataW H} {p : List MemPlace} {b0 : Nat}
    (hv : Value.okWide Try.prog W .any b0 68 v) (h : DataW.Trod enc Try.prog W 0 (fun _ => true) true 68 v d p) :
    ∃ (A : Option Addr) (c : Nat) (ps : List (Nat × Nat)), v = .slice A ps.length c ∧ ps.length ≤ c ∧ c ≤ maxLen ∧ Sl W 0 W.heap.size A (uv2 ps) ∧ Two64 ps := by
  obtain ⟨a0, len0, cap0, rfl⟩ := okWide_slice Try.underlying68 hv
  obtain ⟨fuel, hf⟩ := h
  have hC : Try.prog.cellsOf 70 = 2 := by kernel_rfl
  rcases Go.Deep.open_slice Try.underlying68 hf with ⟨hcs, _⟩ | ⟨a, len, cap, m, n, D, Pl, hcs, _, hl, hm, hmm, _, hx⟩
  · simp [Value.cells] at hcs
    obtain ⟨rfl, rfl, rfl⟩ := hcs
    exact ⟨none, 0, [], rfl, by simp, by simp [maxLen], Sl.nil _ _ _ _, by simp [Two64]⟩
  · simp [Value.cells] at hcs
    obtain ⟨rfl, rfl, rfl⟩ := hcs
    have hmc : m = cap0 := by rw [hmm]; simp
    have hE : Try.prog.cellsOf 22 = 1 := by kernel_rfl
    have each : ∀ i : Nat, ∃ t : Nat × Nat, i < len0 → (∀ j v, j < 2 → (pc t)[j]? = some v → W.cell? ((a.add (i * 2)).add j) = some v) ∧ (U64 t.1 ∧ U64 t.2) := by
      intro i
      by_cases hi : i < len0
      · obtain ⟨cs', hc', ht'⟩ := hx i (by omega)
        rw [hC] at hc'
        obtain ⟨_, hcl, hat⟩ := World.cells?_some hc'
        obtain ⟨xs, m', _, _, _, hxl, hel⟩ := DataW.trod_array Try.underlying70 ht'
        have h0 := hel 0 (by omega)
        have h1 := hel 1 (by omega)
        rw [hE, Nat.mul_one, Go.Deep.take1_drop cs' _ undef (by omega), List.getElem?_eq_getElem (by omega)] at h0 h1
        obtain ⟨N0, e0, _, w0⟩ := DataW.trod_int Try.underlying22 h0
        obtain ⟨N1, e1, _, w1⟩ := DataW.trod_int Try.underlying22 h1
        obtain ⟨M0, rfl, b0⟩ := u64_wf w0
        obtain ⟨M1, rfl, b1⟩ := u64_wf w1
        injection e0 with e0 _
        injection e1 with e1 _
        have g0 : cs'[0]? = some (.int .u64 (M0 : Int)) := by rw [← e0]; simp [List.getD, List.getElem?_eq_getElem (show 0 < cs'.length by omega)]
        have g1 : cs'[1]? = some (.int .u64 (M1 : Int)) := by rw [← e1]; simp [List.getD, List.getElem?_eq_getElem (show 1 < cs'.length by omega)]
        refine ⟨(M0, M1), fun _ => ⟨fun j v hj hv => ?_, b0, b1⟩⟩
        rw [hat j hj]
        match j, hj with
        | 0, _ => rw [g0]; exact hv
        | 1, _ => rw [g1]; exact hv
      · exact ⟨(0, 0), fun h => absurd h hi⟩
    obtain ⟨F, hF⟩ := Classical.axiomOfChoice each
    refine ⟨some a, cap0, (List.range len0).map F, by simp, by simpa using hl, hm, ?_, ?_⟩
    · by_cases h0 : len0 = 0
      · exact .inl (by simp [h0, uv2])
      · obtain ⟨b, o, spot⟩ := a
        have hc0 := (hF 0 (by omega)).1 0 _ (by omega) rfl
        have hspot : spot = none := by
          have := World.cell?_spot hc0
          simpa [Addr.add] using this
        subst hspot
        have hblt : b < W.heap.size := by
          have := World.block_lt_of_cell? W _ hc0
          rw [addr_add, addr_add] at this
          exact this
        refine .inr ⟨b, o, rfl, Nat.zero_le _, hblt, fun q u hu => ?_⟩
        have hlen : ∀ (l : List (Nat × Nat)), (uv2 l).length = l.length * 2 := by
          intro l
          induction l with
          | nil => rfl
          | cons t l ih =>
            have h6 : (pc t).length = 2 := rfl
            show ((t :: l).flatMap pc).length = _
            rw [List.flatMap_cons, List.length_append, h6, List.length_cons]
            have : (l.flatMap pc).length = l.length * 2 := ih
            omega
        have hq : q < len0 * 2 := by
          rcases Nat.lt_or_ge q (len0 * 2) with h1 | h1
          · exact h1
          · rw [List.getElem?_eq_none (by rw [hlen]; simpa using h1)] at hu; cases hu
        have hk : q / 2 < ((List.range len0).map F).length := by simp; omega
        have he : q = q / 2 * 2 + q % 2 := by omega
        rw [he, uv2_get _ hk (by omega)] at hu
        have hu2 : (pc (F (q / 2)))[q % 2]? = some u := by rw [← hu]; simp [pc]
        have := (hF (q / 2) (by omega)).1 (q % 2) u (by omega) hu2
        rw [addr_add, addr_add, Nat.add_assoc] at this
        rw [he]
        exact this
    · intro t ht
      simp only [List.mem_map, List.mem_range] at ht
      obtain ⟨i, hi, rfl⟩ := ht
      exact (hF i hi).2

end Go.Proofs.Ytdggemdgndiafaa
