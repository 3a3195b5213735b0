/- Rows of bytes that came in, and how long each may be. -/
import Derived.Test.YtkaammdekalgnaaArgs
import Derived.SizedLaws
namespace Go.Proofs.Ytkaammdekalgnaa
open Go.ChangeShapes Go.WideShapes Go.ChangeAt Go.RowKit

theorem weightsAll_mem {H : Type} {P : Program} {e : TypeId} : ∀ {l : List (DataW H)} {d : DataW H}, d ∈ l → ∀ n ∈ d.weights P e, n ∈ DataW.weightsAll P e l
  | d' :: r, d, hd, n, hn => by
    simp only [DataW.weightsAll, List.mem_append]
    rcases List.mem_cons.1 hd with rfl | h
    · exact Or.inl hn
    · exact Or.inr (weightsAll_mem h n hn)
/-- How many bytes a slice within a slice takes. -/
theorem sized_inner {H : Type} {P : Program} {ts : List TypeId} {ds : List (DataW H)} (h : (DataW.weightsEach P ts ds).all (· ≤ reachBytes) = true) {j : Nat} {t e q : TypeId} {elems spare e' sp' : List (DataW H)}
    (ht : ts[j]? = some t) (hd : ds[j]? = some (.slice elems spare)) (hu : P.underlying t = some (.slice e)) (hu2 : P.underlying e = some (.slice q)) (hx : DataW.slice e' sp' ∈ elems) : (e'.length + sp'.length) * P.bytesOf q ≤ reachBytes := by
  refine of_decide_eq_true (List.all_eq_true.1 h _ (DataW.weights_mem_each ht hd _ ?_))
  simp only [DataW.weights, hu, List.mem_cons, List.mem_append]
  exact Or.inr (Or.inl (weightsAll_mem hx _ (by simp [DataW.weights, hu2])))

set_option maxRecDepth 100000 in
theorem open_rows_sized {H : Type} {enc : TypeId × Value → H} {W : World} {v : Value} {d : DataW H} {p : List MemPlace} {b0 : Nat}
    (hv : Value.okWide Try.prog W .any b0 33 v) (h : DataW.Trod enc Try.prog W 0 (fun _ => true) true 33 v d p)
    {ts : List TypeId} {ds : List (DataW H)} (hsz : (DataW.weightsEach Try.prog ts ds).all (· ≤ reachBytes) = true) {jj : Nat} (hts : ts[jj]? = some 33) (hds : ds[jj]? = some d) :
    ∃ (A : Option Addr) (c : Nat) (vs : List Value) (ls : List (List Nat)), v = .slice A ls.length c ∧ ls.length ≤ c ∧ c ≤ maxLen ∧ (∀ l ∈ ls, ∀ b ∈ l, b < 256) ∧ Rows2 W 0 W.heap.size A vs ls ∧ ∀ l ∈ ls, l.length ≤ 140737488351232 := by
  obtain ⟨a0, len0, cap0, rfl⟩ := okWide_slice Try.underlying33 hv
  obtain ⟨fuel, hf⟩ := h
  rcases Go.Deep.open_slice1 Try.underlying33 (by kernel_rfl) hf with ⟨hcs, _⟩ | ⟨a, len, cap, m, n, V, D, Pl, hcs, _, hl, hm, hmm, hdd, hx⟩
  · simp [Value.cells] at hcs
    obtain ⟨rfl, rfl, rfl⟩ := hcs
    exact ⟨none, 0, [], [], rfl, by simp, by simp [maxLen], by simp, ⟨Sl.nil _ _ _ _, rfl, fun i v l hv _ => by simp at hv⟩, by simp⟩
  · simp [Value.cells] at hcs
    obtain ⟨rfl, rfl, rfl⟩ := hcs
    have hmc : m = cap0 := by rw [hmm]; simp
    have hdd1 : d = .slice ((List.range len0).map D) ((List.range (m - len0)).map fun j => D (len0 + j)) := congrArg Prod.fst hdd
    have hreach : ∀ i, i < len0 → ∀ e' sp', D i = .slice e' sp' → e'.length + sp'.length ≤ 140737488351232 := fun i hi e' sp' he => by
      have h3 := sized_inner (P := Try.prog) hsz hts (by rw [hds, hdd1]) Try.underlying33 Try.underlying22 (e' := e') (sp' := sp') (by rw [← he]; exact List.mem_map.2 ⟨i, List.mem_range.2 hi, rfl⟩)
      have hb1 : Try.prog.bytesOf 5 = 1 := by kernel_rfl
      rw [hb1, Nat.mul_one] at h3
      exact h3
    have each : ∀ i : Nat, ∃ l : List Nat, i < len0 → (∀ b ∈ l, b < 256) ∧ Bs W 0 W.heap.size (V i) l ∧ l.length ≤ 140737488351232 := by
      intro i
      by_cases hi : i < len0
      · obtain ⟨_, h2⟩ := hx i (by omega)
        rcases open_ints Try.underlying22 Try.underlying5 (by kernel_rfl) h2 with ⟨hcs, _⟩ | ⟨x, l, c, zs, hcs, _, hl', hm', hz, hdx, hcell, hwz⟩
        · injection hcs with hcs _
          rw [hcs]
          exact ⟨[], fun _ => ⟨by simp, Bs.nil _ _ _, by simp⟩⟩
        · injection hcs with hcs _
          rw [hcs]
          obtain ⟨l', q1, q2, q3⟩ := bs_cells hl' hm' (by simpa using hz) hcell hwz
          have h4 := hreach i hi _ _ (congrArg Prod.fst hdx)
          refine ⟨l', fun _ => ⟨q2, q3, ?_⟩⟩
          have e1 : ∀ q : List Int, (lits IntKind.u8 q : List (DataW H)).length = q.length := fun q => by simp [lits]
          rw [e1, e1, List.length_take, List.length_drop] at h4
          rw [q1]
          simp at hz
          omega
      · exact ⟨[], fun h => absurd h hi⟩
    obtain ⟨F, hF⟩ := Classical.axiomOfChoice each
    refine ⟨some a, cap0, (List.range len0).map V, (List.range len0).map F, by simp, by simpa using hl, hm, ?_, ⟨?_, by simp, ?_⟩, ?_⟩
    · intro l hl' b hb
      simp only [List.mem_map, List.mem_range] at hl'
      obtain ⟨i, hi, rfl⟩ := hl'
      exact (hF i hi).1 b hb
    · by_cases h0 : len0 = 0
      · exact .inl (by simp [h0])
      · obtain ⟨b, o, spot⟩ := a
        have hc0 := (hx 0 (by omega)).1
        have hspot : spot = none := by simpa [Addr.add] using World.cell?_spot hc0
        subst hspot
        refine .inr ⟨b, o, rfl, Nat.zero_le _, World.block_lt_of_cell? W ((⟨b, o, none⟩ : Addr).add 0) hc0 |> fun h => by rw [addr_add] at h; exact h, fun i u hu => ?_⟩
        rw [List.getElem?_map] at hu
        rcases Nat.lt_or_ge i len0 with hi | hi
        · rw [List.getElem?_range hi] at hu
          have := (hx i (by omega)).1
          rw [addr_add] at this
          rw [this]
          exact hu
        · rw [List.getElem?_eq_none (by simpa using hi)] at hu
          cases hu
    · intro i v l hv hl'
      rw [List.getElem?_map] at hv hl'
      rcases Nat.lt_or_ge i len0 with hi | hi
      · rw [List.getElem?_range hi] at hv hl'
        simp at hv hl'
        subst hv hl'
        exact (hF i hi).2.1
      · rw [List.getElem?_eq_none (by simpa using hi)] at hv
        cases hv
    · intro l hl'
      simp only [List.mem_map, List.mem_range] at hl'
      obtain ⟨i, hi, rfl⟩ := hl'
      exact (hF i hi).2.2
end Go.Proofs.Ytkaammdekalgnaa
