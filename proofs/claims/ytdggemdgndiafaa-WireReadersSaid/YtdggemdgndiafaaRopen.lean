/- A slice of readings that came in. -/
import Derived.Test.YtdggemdgndiafaaRsame
import Derived.Test.YtdggemdgndiafaaWopen
namespace Go.Proofs.Ytdggemdgndiafaa
open Go.ChangeShapes Go.WideShapes Go.ChangeAt Go.RowKit

def opc (p : Int × Int) : List Value := [.int .i64 p.1, .int .i64 p.2]
/-- A slice of readings. -/
structure Ops (w : World) (lo hi : Nat) (A : Option Addr) (ps : List (Int × Int)) : Prop where
  cells : Sl w lo hi A (ps.flatMap opc)
  each : ∀ p ∈ ps, -9223372036854775808 ≤ p.2 ∧ p.2 ≤ 9223372036854775807
theorem flat2 : ∀ (ps : List (Int × Int)) {k j : Nat} (hk : k < ps.length), j < 2 → (ps.flatMap opc)[k * 2 + j]? = (opc ps[k])[j]?
  | [], _, _, hk, _ => by simp at hk
  | t :: ts, 0, j, _, hj => by
    have h6 : (opc t).length = 2 := rfl
    rw [List.flatMap_cons, List.getElem?_append_left (by omega), Nat.zero_mul, Nat.zero_add]
    simp
  | t :: ts, k + 1, j, hk, hj => by
    have h6 : (opc t).length = 2 := rfl
    rw [List.flatMap_cons, List.getElem?_append_right (by omega), h6, show (k + 1) * 2 + j - 2 = k * 2 + j by omega, flat2 ts (by simpa using hk) hj]
    simp
theorem Ops.at_ {w : World} {lo hi : Nat} {A : Option Addr} {ps : List (Int × Int)} (h : Ops w lo hi A ps) {k : Nat} (hk : k < ps.length) :
    ∃ b o, A = some ⟨b, o, none⟩ ∧ (-9223372036854775808 ≤ ps[k].2 ∧ ps[k].2 ≤ 9223372036854775807) ∧ ∀ w', Below hi w w' → w'.cell? ⟨b, o + k * 2, none⟩ = some (.int .i64 ps[k].1) ∧ w'.cell? ⟨b, o + k * 2 + 1, none⟩ = some (.int .i64 ps[k].2) := by
  have hlen : k * 2 + 0 < (ps.flatMap opc).length := by
    have := flat2 ps hk (j := 0) (by omega)
    rcases Nat.lt_or_ge (k * 2 + 0) (ps.flatMap opc).length with h1 | h1
    · exact h1
    · rw [List.getElem?_eq_none h1] at this; simp [opc] at this
  obtain ⟨b, o, rfl, _, hb, _⟩ := h.cells.at_ hlen
  refine ⟨b, o, rfl, h.each _ (List.getElem_mem hk), fun w' hw => ?_⟩
  rcases h.cells with h0 | ⟨b', o', e, _, _, hc⟩
  · rw [h0] at hlen; simp at hlen
  · injection e with e
    injection e with e1 e2 _
    subst e1 e2
    refine ⟨?_, ?_⟩
    · rw [hw.cell (p := ⟨b, o + k * 2, none⟩) hb]
      exact hc (k * 2) _ (by have := flat2 ps hk (j := 0) (by omega); rw [Nat.add_zero] at this; rw [this]; rfl)
    · rw [Nat.add_assoc, hw.cell (p := ⟨b, o + (k * 2 + 1), none⟩) hb]
      exact hc (k * 2 + 1) _ (by rw [flat2 ps hk (by omega)]; rfl)

set_option maxRecDepth 100000 in
theorem open_ops {H : Type} {enc : TypeId × Value → H} {W : World} {v : Value} {d : DataW H} {p : List MemPlace} {b0 : Nat}
    (hv : Value.okWide Try.prog W .any b0 44 v) (h : DataW.Trod enc Try.prog W 0 (fun _ => true) true 44 v d p) :
    ∃ (A : Option Addr) (c : Nat) (ps : List (Int × Int)), v = .slice A ps.length c ∧ ps.length ≤ c ∧ c ≤ maxLen ∧ Ops W 0 W.heap.size A ps := by
  obtain ⟨a0, len0, cap0, rfl⟩ := okWide_slice Try.underlying44 hv
  obtain ⟨fuel, hf⟩ := h
  have hC : Try.prog.cellsOf 51 = 2 := by kernel_rfl
  rcases Go.Deep.open_slice Try.underlying44 hf with ⟨hcs, _⟩ | ⟨a, len, cap, m, n, D, Pl, hcs, _, hl, hm, hmm, _, hx⟩
  · simp [Value.cells] at hcs
    obtain ⟨rfl, rfl, rfl⟩ := hcs
    exact ⟨none, 0, [], rfl, by simp, by simp [maxLen], Sl.nil _ _ _ _, by simp⟩
  · simp [Value.cells] at hcs
    obtain ⟨rfl, rfl, rfl⟩ := hcs
    have hmc : m = cap0 := by rw [hmm]; simp
    have each : ∀ i : Nat, ∃ t : Int × Int, i < len0 → (∀ j v, j < 2 → (opc t)[j]? = some v → W.cell? ((a.add (i * 2)).add j) = some v) ∧ (-9223372036854775808 ≤ t.2 ∧ t.2 ≤ 9223372036854775807) := by
      intro i
      by_cases hi : i < len0
      · obtain ⟨cs', hc', ht'⟩ := hx i (by omega)
        rw [hC] at hc'
        obtain ⟨_, hcl, hat⟩ := World.cells?_some hc'
        obtain ⟨n', hfr⟩ := fields_read Try.underlying51 (by kernel_rfl) hcl ht'
        obtain ⟨v0, y0, g0, t0⟩ := hfr 0 _ rfl
        obtain ⟨v1, y1, g1, t1⟩ := hfr 1 _ rfl
        obtain ⟨k, e0, _, w0⟩ := DataW.trod_int Try.underlying3 t0
        obtain ⟨N, e1, _, w1⟩ := DataW.trod_int Try.underlying3 t1
        injection e0 with e0 _
        injection e1 with e1 _
        subst e0 e1
        refine ⟨(k, N), fun _ => ⟨fun j v hj hv => ?_, (i64_wf w1).1, (i64_wf w1).2⟩⟩
        rw [hat j hj]
        match j, hj with
        | 0, _ => rw [g0]; exact hv
        | 1, _ => rw [g1]; exact hv
      · exact ⟨(0, 0), fun h => absurd h hi⟩
    obtain ⟨F, hF⟩ := Classical.axiomOfChoice each
    refine ⟨some a, cap0, (List.range len0).map F, by simp, by simpa using hl, hm, ?_, ?_⟩
    · by_cases h0 : len0 = 0
      · exact .inl (by simp [h0])
      · obtain ⟨b, o, spot⟩ := a
        have hc0 := (hF 0 (by omega)).1 0 _ (by omega) rfl
        have hspot : spot = none := by
          have := World.cell?_spot hc0
          simpa [Addr.add] using this
        subst hspot
        have hblt : b < W.heap.size := by
          have := World.block_lt_of_cell? W _ hc0
          rw [addr_add, addr_add] at this
          exact this
        refine .inr ⟨b, o, rfl, Nat.zero_le _, hblt, fun q u hu => ?_⟩
        have hlen : ∀ (l : List (Int × Int)), (l.flatMap opc).length = l.length * 2 := by
          intro l
          induction l with
          | nil => rfl
          | cons t l ih =>
            have h6 : (opc t).length = 2 := rfl
            rw [List.flatMap_cons, List.length_append, ih, h6, List.length_cons]; omega
        have hq : q < len0 * 2 := by
          rcases Nat.lt_or_ge q (len0 * 2) with h1 | h1
          · exact h1
          · rw [List.getElem?_eq_none (by rw [hlen]; simpa using h1)] at hu; cases hu
        have hk : q / 2 < ((List.range len0).map F).length := by simp; omega
        have he : q = q / 2 * 2 + q % 2 := by omega
        rw [he, flat2 _ hk (by omega)] at hu
        have hu2 : (opc (F (q / 2)))[q % 2]? = some u := by rw [← hu]; simp
        have := (hF (q / 2) (by omega)).1 (q % 2) u (by omega) hu2
        rw [addr_add, addr_add, Nat.add_assoc] at this
        rw [he]
        exact this
    · intro t ht
      simp only [List.mem_map, List.mem_range] at ht
      obtain ⟨i, hi, rfl⟩ := ht
      exact (hF i hi).2

/-- Both readers, behind a store into a block that is neither's. -/
theorem Both.grown {w w' : World} {r lo hi q lo2 hi2 : Nat} {l : List Nat} {ro : Option Nat} (h : Both w r lo hi q lo2 hi2 l) (hg : w.grownBy w' ro) (h1 : ∀ k, ro = some k → k < r ∧ k < q ∧ k < lo ∧ k < lo2) : Both w' r lo hi q lo2 hi2 l := by
  refine ⟨h.rd.grown hg (fun e => ?_) (fun k hk => .inl (h1 k hk).2.2.1), ?_, h.ne, h.a1, h.a2⟩
  · have := (h1 r e.symm).1; omega
  · obtain ⟨⟨v, g1, g2⟩, g3, g4, g5⟩ := h.qd
    exact ⟨⟨v, (hg.block q g1.lt (fun e => by have := (h1 q e.symm).2.1; omega)).trans g1, g2.grown hg g4 (fun k hk => .inl (h1 k hk).2.2.2)⟩, g3, Nat.le_trans g4 hg.size, g5⟩
theorem below_g2 {B r q : Nat} {w w' : World} (h : G2 r q w w') (h1 : B ≤ w.heap.size) (h2 : B ≤ r) (h3 : B ≤ q) : Below B w w' :=
  ⟨h.os, h.tape, h.output, h.size, fun k hk => h.block k (by omega) (by omega) (by omega)⟩
theorem QObj.new (w : World) (v : Value) : QObj (w.alloc (.cells #[v] 47)) w.heap.size v := heap_alloc_new w _
/-- The two readers, as they are made. -/
theorem both_new {w w2 : World} {r lo hi : Nat} {l : List Nat} {v : Value} (h : Rd w r lo hi l) (hb : Below w.heap.size w w2) (hv : w2.ownsRow w.heap.size 5 1 v l.length (bv l)) :
    Both (w2.alloc (.cells #[v] 47)) r lo hi w2.heap.size w.heap.size w2.heap.size l := by
  have hs := hb.size
  have hlt := h.lt
  have htop := h.top
  refine ⟨(h.below hb h.top h.lt).alloc _, ⟨⟨v, QObj.new _ _, (Bs.of_own hv).alloc (Nat.le_refl _) _⟩, .inr (Nat.le_refl _), by simp, h.byt⟩, by omega, .inr (by omega), .inl h.lt⟩
end Go.Proofs.Ytdggemdgndiafaa
