/- A slice of things that came in. -/
import Derived.Test.YtdggemdgndiafaaWkeeps
import Derived.Deep.Fields
namespace Go.Proofs.Ytdggemdgndiafaa
open Go.ChangeShapes Go.WideShapes Go.ChangeAt Go.RowKit

/-- Each one-cell field of a struct reads. -/
theorem fields_read {H : Type} {enc : TypeId × Value → H} {P : Program} {w : World} {base : Nat} {spare : Nat → Bool} {held : Bool} {e : TypeId} {fs : Array Field} {fuel : Nat} {cs : List Value} {x : DataW H × List MemPlace}
    (he : P.underlying e = some (.struct fs)) (hone : Go.Deep.oneCellFields P fs = true) (hl : cs.length = fs.size) (h : DataW.trod enc P w base spare held fuel e cs = some x) :
    ∃ n, ∀ (j : Nat) (f : Field), fs[j]? = some f → ∃ (v : Value) (y : DataW H × List MemPlace), cs[j]? = some v ∧ DataW.trod enc P w base spare held n f.type [v] = some y := by
  obtain ⟨xs, n, _, _, _, hxl, hg⟩ := DataW.trod_struct he h
  refine ⟨n, fun j f hf => ?_⟩
  obtain ⟨ho, hk⟩ := Go.Deep.hone_of hone j f hf
  have hj : j < fs.size := (Array.getElem?_eq_some_iff.1 hf).1
  have h1 := hg j f hf
  rw [ho, hk, Go.Deep.take1_drop cs j undef (by omega), List.getElem?_eq_getElem (by omega)] at h1
  exact ⟨_, _, by simp [List.getD, List.getElem?_eq_getElem (show j < cs.length by omega)], h1⟩

theorem us_cells {W : World} {x : Addr} {len cap : Nat} {zs : List Int} (hl : len ≤ cap) (hm : cap ≤ maxLen) (hz : zs.length = cap)
    (hcell : ∀ i, i < zs.length → W.cell? (x.add i) = some (.int .u64 (zs.getD i 0))) (hwz : ∀ n ∈ zs, (Lit.int .u64 n).wf = true) :
    ∃ l : List Nat, (∀ n ∈ l, U64 n) ∧ Us W 0 W.heap.size (.slice (some x) len cap) l := by
  have hlen : ((zs.take len).map Int.toNat).length = len := by simp; omega
  refine ⟨(zs.take len).map Int.toNat, fun b hb => ?_, some x, cap, by rw [hlen], by rw [hlen]; exact hl, hm, ?_⟩
  · simp only [List.mem_map] at hb
    obtain ⟨n, hn, rfl⟩ := hb
    obtain ⟨m, rfl, h⟩ := u64_wf (hwz n (List.mem_of_mem_take hn))
    simpa using h
  · by_cases h0 : len = 0
    · subst h0
      exact .inl (by simp [uv])
    · obtain ⟨b, o, spot⟩ := x
      have hc0 := hcell 0 (by omega)
      have hspot : spot = none := by simpa [Addr.add] using World.cell?_spot hc0
      subst hspot
      refine .inr ⟨b, o, rfl, Nat.zero_le _, World.block_lt_of_cell? W ((⟨b, o, none⟩ : Addr).add 0) hc0 |> fun h => by rw [addr_add] at h; exact h, fun i u hu => ?_⟩
      have hi : i < len := by
        rcases Nat.lt_or_ge i len with h | h
        · exact h
        · rw [List.getElem?_eq_none (by unfold uv; rw [List.length_map, hlen]; exact h)] at hu; cases hu
      have hz1 : i < zs.length := by omega
      obtain ⟨m, hm', _⟩ := u64_wf (hwz zs[i] (List.getElem_mem hz1))
      have h2 := hcell i hz1
      rw [addr_add] at h2
      rw [h2, ← hu]
      simp [uv, List.getD, hi, List.getElem?_eq_getElem hz1]
      omega
/-- A slice of 64-bit numbers, a field of what came in. -/
theorem us_read {H : Type} {enc : TypeId × Value → H} {W : World} {v : Value} {y : DataW H × List MemPlace} {n : Nat} (h : DataW.trod enc Try.prog W 0 (fun _ => true) true n 54 [v] = some y) :
    ∃ l : List Nat, (∀ x ∈ l, U64 x) ∧ Us W 0 W.heap.size v l := by
  rcases open_ints Try.underlying54 Try.underlying22 (by kernel_rfl) h with ⟨hcs, _⟩ | ⟨x, l, c, zs, hcs, _, hl', hm', hz, _, hcell, hwz⟩
  · injection hcs with hcs _
    rw [hcs]
    exact ⟨[], by simp, none, 0, rfl, by simp, by simp [maxLen], .inl rfl⟩
  · injection hcs with hcs _
    rw [hcs]
    exact us_cells hl' hm' (by simpa using hz) hcell hwz
theorem bs_read {H : Type} {enc : TypeId × Value → H} {W : World} {v : Value} {y : DataW H × List MemPlace} {n : Nat} (h : DataW.trod enc Try.prog W 0 (fun _ => true) true n 23 [v] = some y) :
    ∃ l : List Nat, (∀ x ∈ l, x < 256) ∧ Bs W 0 W.heap.size v l := by
  rcases open_ints Try.underlying23 Try.underlying5 (by kernel_rfl) h with ⟨hcs, _⟩ | ⟨x, l, c, zs, hcs, _, hl', hm', hz, _, hcell, hwz⟩
  · injection hcs with hcs _
    rw [hcs]
    exact ⟨[], by simp, Bs.nil _ _ _⟩
  · injection hcs with hcs _
    rw [hcs]
    obtain ⟨l', _, q2, q3⟩ := bs_cells hl' hm' (by simpa using hz) hcell hwz
    exact ⟨l', q2, q3⟩

set_option maxRecDepth 100000 in
theorem open_things {H : Type} {enc : TypeId × Value → H} {W : World} {v : Value} {d : DataW H} {p : List MemPlace} {b0 : Nat}
    (hv : Value.okWide Try.prog W .any b0 53 v) (h : DataW.Trod enc Try.prog W 0 (fun _ => true) true 53 v d p) :
    ∃ (A : Option Addr) (c : Nat) (ts : List Thg), v = .slice A ts.length c ∧ ts.length ≤ c ∧ c ≤ maxLen ∧ Things W 0 W.heap.size A ts := by
  obtain ⟨a0, len0, cap0, rfl⟩ := okWide_slice Try.underlying53 hv
  obtain ⟨fuel, hf⟩ := h
  have hC : Try.prog.cellsOf 56 = 6 := by kernel_rfl
  rcases Go.Deep.open_slice Try.underlying53 hf with ⟨hcs, _⟩ | ⟨a, len, cap, m, n, D, Pl, hcs, _, hl, hm, hmm, _, hx⟩
  · simp [Value.cells] at hcs
    obtain ⟨rfl, rfl, rfl⟩ := hcs
    exact ⟨none, 0, [], rfl, by simp, by simp [maxLen], Sl.nil _ _ _ _, by simp⟩
  · simp [Value.cells] at hcs
    obtain ⟨rfl, rfl, rfl⟩ := hcs
    have hmc : m = cap0 := by rw [hmm]; simp
    have each : ∀ i : Nat, ∃ t : Thg, i < len0 → (∀ j v, j < 6 → t.cells[j]? = some v → W.cell? ((a.add (i * 6)).add j) = some v) ∧ ThOk W 0 W.heap.size t := by
      intro i
      by_cases hi : i < len0
      · obtain ⟨cs', hc', ht'⟩ := hx i (by omega)
        rw [hC] at hc'
        obtain ⟨_, hcl, hat⟩ := World.cells?_some hc'
        obtain ⟨n', hfr⟩ := fields_read Try.underlying56 (by kernel_rfl) hcl ht'
        obtain ⟨v0, y0, g0, t0⟩ := hfr 0 _ rfl
        obtain ⟨v1, y1, g1, t1⟩ := hfr 1 _ rfl
        obtain ⟨v2, y2, g2, t2⟩ := hfr 2 _ rfl
        obtain ⟨v3, y3, g3, t3⟩ := hfr 3 _ rfl
        obtain ⟨v4, y4, g4, t4⟩ := hfr 4 _ rfl
        obtain ⟨v5, y5, g5, t5⟩ := hfr 5 _ rfl
        obtain ⟨k, e0, _, w0⟩ := DataW.trod_int Try.underlying3 t0
        obtain ⟨N, e1, _, w1⟩ := DataW.trod_int Try.underlying22 t1
        obtain ⟨S, e2, _, w2⟩ := DataW.trod_int Try.underlying2 t2
        obtain ⟨F, e3, _⟩ := DataW.trod_bool Try.underlying4 t3
        obtain ⟨lb, b1, b2⟩ := bs_read t4
        obtain ⟨ll, u1, u2⟩ := us_read t5
        injection e0 with e0 _
        injection e1 with e1 _
        injection e2 with e2 _
        injection e3 with e3 _
        subst e0 e1 e2 e3
        obtain ⟨N', rfl, hN⟩ := u64_wf w1
        refine ⟨⟨k, N', S, F, v4, lb, v5, ll⟩, fun _ => ⟨fun j v hj hv => ?_, (i64_wf w0).1, (i64_wf w0).2, hN, (i64_wf w2).1, (i64_wf w2).2, b2, b1, u2, u1⟩⟩
        rw [hat j hj]
        match j, hj with
        | 0, _ => rw [g0]; exact hv
        | 1, _ => rw [g1]; exact hv
        | 2, _ => rw [g2]; exact hv
        | 3, _ => rw [g3]; exact hv
        | 4, _ => rw [g4]; exact hv
        | 5, _ => rw [g5]; exact hv
      · exact ⟨⟨0, 0, 0, false, .slice none 0 0, [], .slice none 0 0, []⟩, fun h => absurd h hi⟩
    obtain ⟨F, hF⟩ := Classical.axiomOfChoice each
    refine ⟨some a, cap0, (List.range len0).map F, by simp, by simpa using hl, hm, ?_, ?_⟩
    · by_cases h0 : len0 = 0
      · exact .inl (by simp [h0])
      · obtain ⟨b, o, spot⟩ := a
        have hc0 := (hF 0 (by omega)).1 0 _ (by omega) rfl
        have hspot : spot = none := by
          have := World.cell?_spot hc0
          simpa [Addr.add] using this
        subst hspot
        have hblt : b < W.heap.size := by
          have := World.block_lt_of_cell? W _ hc0
          rw [addr_add, addr_add] at this
          exact this
        refine .inr ⟨b, o, rfl, Nat.zero_le _, hblt, fun q u hu => ?_⟩
        have hlen : ∀ (l : List Thg), (l.flatMap fun t => t.cells.toList).length = l.length * 6 := by
          intro l
          induction l with
          | nil => rfl
          | cons t l ih =>
            have h6 : t.cells.toList.length = 6 := rfl
            rw [List.flatMap_cons, List.length_append, ih, h6, List.length_cons]; omega
        have hq : q < len0 * 6 := by
          rcases Nat.lt_or_ge q (len0 * 6) with h1 | h1
          · exact h1
          · rw [List.getElem?_eq_none (by rw [hlen]; simpa using h1)] at hu; cases hu
        have hk : q / 6 < ((List.range len0).map F).length := by simp; omega
        have he : q = q / 6 * 6 + q % 6 := by omega
        rw [he, flat6 _ hk (by omega)] at hu
        have hu2 : (F (q / 6)).cells[q % 6]? = some u := by rw [← hu]; simp
        have := (hF (q / 6) (by omega)).1 (q % 6) u (by omega) hu2
        rw [addr_add, addr_add, Nat.add_assoc] at this
        rw [he]
        exact this
    · intro t ht
      simp only [List.mem_map, List.mem_range] at ht
      obtain ⟨i, hi, rfl⟩ := ht
      exact (hF i hi).2
end Go.Proofs.Ytdggemdgndiafaa
