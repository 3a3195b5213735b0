/- Arguments that came in, and rows of bytes: what every law's walk is told of them (no function of the program). -/
import Derived.Test.YtcofnbeemfhcpaaWords
import Derived.Test.YtcofnbeemfhcpaaPlain
import Derived.WalkLawsBesides
import Derived.WalkSpells
import Derived.ProofKit
import Derived.Outline
import Derived.OpenShut
import Derived.ShutString
import Derived.ChangeOld
import Derived.Deep.Slices
namespace Go.Proofs.Ytcofnbeemfhcpaa
open Go.ChangeShapes Go.WideShapes Go.ChangeAt Go.RowKit

theorem Bs.drew {w : World} {lo hi : Nat} {v : Value} {l : List Nat} (h : Bs w lo hi v l) : Bs w.drew lo hi v l := h

/-- A slice of slices of bytes: the outer cells, and what each reads as. -/
structure Rows2 (w : World) (lo hi : Nat) (A : Option Addr) (vs : List Value) (ls : List (List Nat)) : Prop where
  outer : Sl w lo hi A vs
  len : vs.length = ls.length
  each : ∀ (i : Nat) (v : Value) (l : List Nat), vs[i]? = some v → ls[i]? = some l → Bs w lo hi v l

theorem Rows2.below {w w' : World} {lo hi B : Nat} {A : Option Addr} {vs : List Value} {ls : List (List Nat)} (h : Rows2 w lo hi A vs ls) (hb : Below B w w') (hB : hi ≤ B) : Rows2 w' lo hi A vs ls :=
  ⟨h.outer.below hb hB, h.len, fun i v l hv hl => (h.each i v l hv hl).below hb hB⟩

theorem Rows2.at_ {w : World} {lo hi : Nat} {A : Option Addr} {vs : List Value} {ls : List (List Nat)} (h : Rows2 w lo hi A vs ls) {k : Nat} (hk : k < ls.length) :
    ∃ b o A' c, A = some ⟨b, o, none⟩ ∧ w.cell? ⟨b, o + k, none⟩ = some (.slice A' ls[k].length c) ∧ ls[k].length ≤ c ∧ c ≤ maxLen ∧ (A' = none → c = 0) ∧ By w lo hi A' ls[k] := by
  have hk' : k < vs.length := by rw [h.len]; exact hk
  obtain ⟨b, o, rfl, _, _, hc⟩ := h.outer.at_ hk'
  obtain ⟨A', c, hv, h1, h2, h3, h4⟩ := h.each k _ _ (List.getElem?_eq_getElem hk') (List.getElem?_eq_getElem hk)
  exact ⟨b, o, A', c, rfl, by rw [hc, hv], h1, h2, h3, h4⟩

theorem own : ownKnob Try.prog.godebug = none := by kernel_rfl
theorem laidOut : laidOutB Try.prog = true := by kernel_rfl

theorem u8_wf {n : Int} (h : (Lit.int .u8 n).wf = true) : 0 ≤ n ∧ n < 256 := by
  have : 0 ≤ n ∧ n ≤ 255 := by simpa [Lit.wf, IntKind.min, IntKind.max, IntKind.signed, IntKind.bits] using h
  omega
theorem u64_wf {n : Int} (h : (Lit.int .u64 n).wf = true) : ∃ m : Nat, n = (m : Int) ∧ U64 m := by
  have h2 : 0 ≤ n ∧ n ≤ 18446744073709551615 := by simpa [Lit.wf, IntKind.min, IntKind.max, IntKind.signed, IntKind.bits] using h
  exact ⟨n.toNat, by omega, ⟨by omega⟩⟩
theorem i64_wf {n : Int} (h : (Lit.int .i64 n).wf = true) : -9223372036854775808 ≤ n ∧ n ≤ 9223372036854775807 := by
  simpa [Lit.wf, IntKind.min, IntKind.max, IntKind.signed, IntKind.bits] using h

/-- A slice of bytes that came in. -/
theorem bs_cells {W : World} {x : Addr} {len cap : Nat} {zs : List Int} (hl : len ≤ cap) (hm : cap ≤ maxLen) (hz : zs.length = cap)
    (hcell : ∀ i, i < zs.length → W.cell? (x.add i) = some (.int .u8 (zs.getD i 0))) (hwz : ∀ n ∈ zs, (Lit.int .u8 n).wf = true) :
    ∃ l : List Nat, l.length = len ∧ (∀ b ∈ l, b < 256) ∧ Bs W 0 W.heap.size (.slice (some x) len cap) l := by
  have hlen : ((zs.take len).map Int.toNat).length = len := by simp; omega
  refine ⟨(zs.take len).map Int.toNat, hlen, fun b hb => ?_, some x, cap, by rw [hlen], by rw [hlen]; exact hl, hm, (fun h => by cases h), ?_⟩
  · simp only [List.mem_map] at hb
    obtain ⟨n, hn, rfl⟩ := hb
    have := u8_wf (hwz n (List.mem_of_mem_take hn))
    omega
  · by_cases h0 : len = 0
    · subst h0
      exact .inl (by simp [bv])
    · obtain ⟨b, o, spot⟩ := x
      have hc0 := hcell 0 (by omega)
      have hspot : spot = none := by simpa [Addr.add] using World.cell?_spot hc0
      subst hspot
      refine .inr ⟨b, o, rfl, Nat.zero_le _, World.block_lt_of_cell? W ((⟨b, o, none⟩ : Addr).add 0) hc0 |> fun h => by rw [addr_add] at h; exact h, fun i u hu => ?_⟩
      have hi : i < len := by
        rcases Nat.lt_or_ge i len with h | h
        · exact h
        · rw [List.getElem?_eq_none (by rw [bv_length, hlen]; exact h)] at hu; cases hu
      have hz1 : i < zs.length := by omega
      have hw := u8_wf (hwz zs[i] (List.getElem_mem hz1))
      have h2 := hcell i hz1
      rw [addr_add] at h2
      rw [h2, ← hu]
      simp [bv, List.getD, hi, List.getElem?_eq_getElem hz1]
      omega

set_option maxRecDepth 100000 in
theorem open_bytes {H : Type} {enc : TypeId × Value → H} {W : World} {v : Value} {d : DataW H} {p : List MemPlace} {b0 : Nat}
    (hv : Value.okWide Try.prog W .any b0 22 v) (h : DataW.Trod enc Try.prog W 0 (fun _ => true) true 22 v d p) :
    ∃ l : List Nat, (∀ b ∈ l, b < 256) ∧ Bs W 0 W.heap.size v l := by
  obtain ⟨a0, len0, cap0, rfl⟩ := okWide_slice Try.underlying22 hv
  obtain ⟨fuel, hf⟩ := h
  rcases open_ints Try.underlying22 Try.underlying5 (by kernel_rfl) hf with ⟨hcs, _⟩ | ⟨x, l, c, zs, hcs, _, hl, hm, hz, _, hcell, hwz⟩
  · simp [Value.cells] at hcs
    obtain ⟨rfl, rfl, rfl⟩ := hcs
    exact ⟨[], by simp, Bs.nil _ _ _⟩
  · simp [Value.cells] at hcs
    obtain ⟨rfl, rfl, rfl⟩ := hcs
    obtain ⟨l', h1, h2, h3⟩ := bs_cells hl hm (by simpa using hz) hcell hwz
    exact ⟨l', h2, h3⟩
/-- A row among the rows, in every later world. -/
theorem Rows2.later {w : World} {lo hi : Nat} {A : Option Addr} {vs : List Value} {ls : List (List Nat)} (h : Rows2 w lo hi A vs ls) {k : Nat} (hk : k < ls.length) :
    ∃ b o A' c, A = some ⟨b, o, none⟩ ∧ (A' = none → c = 0) ∧ ∀ B w', Below B w w' → hi ≤ B → w'.cell? ⟨b, o + k, none⟩ = some (.slice A' ls[k].length c) ∧ Bs w' lo hi (.slice A' ls[k].length c) ls[k] := by
  have hk' : k < vs.length := by rw [h.len]; exact hk
  obtain ⟨b, o, rfl, _, hb, hc⟩ := h.outer.at_ hk'
  have hx := h.each k _ _ (List.getElem?_eq_getElem hk') (List.getElem?_eq_getElem hk)
  have hx2 := hx
  obtain ⟨A', c, hv, h1, h2, h3, h4⟩ := hx
  rw [hv] at hx2
  exact ⟨b, o, A', c, rfl, h3, fun B w' hB hle => ⟨by rw [hB.cell (p := ⟨b, o + k, none⟩) (show b < B by omega), hc, hv], hx2.below hB hle⟩⟩

set_option maxRecDepth 100000 in
theorem open_rows {H : Type} {enc : TypeId × Value → H} {W : World} {v : Value} {d : DataW H} {p : List MemPlace} {b0 : Nat}
    (hv : Value.okWide Try.prog W .any b0 53 v) (h : DataW.Trod enc Try.prog W 0 (fun _ => true) true 53 v d p) :
    ∃ (A : Option Addr) (c : Nat) (vs : List Value) (ls : List (List Nat)), v = .slice A ls.length c ∧ ls.length ≤ c ∧ c ≤ maxLen ∧ (∀ l ∈ ls, ∀ b ∈ l, b < 256) ∧ Rows2 W 0 W.heap.size A vs ls := by
  obtain ⟨a0, len0, cap0, rfl⟩ := okWide_slice Try.underlying53 hv
  obtain ⟨fuel, hf⟩ := h
  rcases Go.Deep.open_slice1 Try.underlying53 (by kernel_rfl) hf with ⟨hcs, _⟩ | ⟨a, len, cap, m, n, V, D, Pl, hcs, _, hl, hm, hmm, _, hx⟩
  · simp [Value.cells] at hcs
    obtain ⟨rfl, rfl, rfl⟩ := hcs
    exact ⟨none, 0, [], [], rfl, by simp, by simp [maxLen], by simp, ⟨Sl.nil _ _ _ _, rfl, fun i v l hv _ => by simp at hv⟩⟩
  · simp [Value.cells] at hcs
    obtain ⟨rfl, rfl, rfl⟩ := hcs
    have hmc : m = cap0 := by rw [hmm]; simp
    have each : ∀ i : Nat, ∃ l : List Nat, i < len0 → (∀ b ∈ l, b < 256) ∧ Bs W 0 W.heap.size (V i) l := by
      intro i
      by_cases hi : i < len0
      · obtain ⟨_, h2⟩ := hx i (by omega)
        rcases open_ints Try.underlying22 Try.underlying5 (by kernel_rfl) h2 with ⟨hcs, _⟩ | ⟨x, l, c, zs, hcs, _, hl', hm', hz, _, hcell, hwz⟩
        · injection hcs with hcs _
          rw [hcs]
          exact ⟨[], fun _ => ⟨by simp, Bs.nil _ _ _⟩⟩
        · injection hcs with hcs _
          rw [hcs]
          obtain ⟨l', _, q2, q3⟩ := bs_cells hl' hm' (by simpa using hz) hcell hwz
          exact ⟨l', fun _ => ⟨q2, q3⟩⟩
      · exact ⟨[], fun h => absurd h hi⟩
    obtain ⟨F, hF⟩ := Classical.axiomOfChoice each
    refine ⟨some a, cap0, (List.range len0).map V, (List.range len0).map F, by simp, by simpa using hl, hm, ?_, ?_, by simp, ?_⟩
    · intro l hl' b hb
      simp only [List.mem_map, List.mem_range] at hl'
      obtain ⟨i, hi, rfl⟩ := hl'
      exact (hF i hi).1 b hb
    · by_cases h0 : len0 = 0
      · exact .inl (by simp [h0])
      · obtain ⟨b, o, spot⟩ := a
        have hc0 := (hx 0 (by omega)).1
        have hspot : spot = none := by simpa [Addr.add] using World.cell?_spot hc0
        subst hspot
        refine .inr ⟨b, o, rfl, Nat.zero_le _, World.block_lt_of_cell? W ((⟨b, o, none⟩ : Addr).add 0) hc0 |> fun h => by rw [addr_add] at h; exact h, fun i u hu => ?_⟩
        rw [List.getElem?_map] at hu
        rcases Nat.lt_or_ge i len0 with hi | hi
        · rw [List.getElem?_range hi] at hu
          have := (hx i (by omega)).1
          rw [addr_add] at this
          rw [this]
          exact hu
        · rw [List.getElem?_eq_none (by simpa using hi)] at hu
          cases hu
    · intro i v l hv hl'
      rw [List.getElem?_map] at hv hl'
      rcases Nat.lt_or_ge i len0 with hi | hi
      · rw [List.getElem?_range hi] at hv hl'
        simp at hv hl'
        subst hv hl'
        exact (hF i hi).2
      · rw [List.getElem?_eq_none (by simpa using hi)] at hv
        cases hv

/-- A part of a slice of bytes. -/
theorem mid_run (A : Option Addr) (n c k j : Nat) (hkj : k ≤ j) (hjn : j ≤ n) (hc : n ≤ c) : ∃ A2, (∀ l : List Nat, l.length = n → ∀ (W : World) (lo hi : Nat), By W lo hi A l → By W lo hi A2 ((l.drop k).take (j - k))) ∧ (A2 = none → A = none) ∧
    ∀ w, (Instr.slice 22 (.slice A n c) (some (.int .i64 (k : Int))) (some (.int .i64 (j : Int))) none).run Try.prog w = .ok (.slice A2 (j - k) (c - k)) w := by
  obtain ⟨i0, hi, _, hz1, _⟩ := info_parts t5info
  refine ⟨if c = k then A else A.map (·.add k), fun l hl W lo hi' h => ?_, ?_, fun w => ?_⟩
  · have h2 := By.drop (k := k) (cap := c) h (by omega) (by omega)
    unfold By
    rw [bv_take]
    exact Sl.take h2 _
  · split
    · exact id
    · cases A <;> simp
  · have he : Try.prog.underlying 22 = some (.slice (Try.prog.elem 22)) := by kernel_rfl
    have hs : (sizeOf (Try.prog.elem 22)).run Try.prog w = .ok 1 w := by
      have e : Try.prog.elem 22 = 5 := by kernel_rfl
      rw [e]
      simp [Go.sizeOf, typeInfo, hi, hz1]
    rw [run_slice_lh w 22 A n c he .i64 .i64 (k : Int) (j : Int) (by omega) (by omega) (by omega), hs]
    simp [Result.andThen, sliced]


/-- A row of the call's own stays when only newer memory changes. -/
theorem own_below {w w' : World} {B base : Nat} {e : TypeId} {v : Value} {n : Nat} {xs : List Value} (h : w.ownsRow base e 1 v n xs) (hb : Below B w w') (hB : w.heap.size ≤ B) : w'.ownsRow base e 1 v n xs := by
  obtain ⟨h1, h2⟩ := h
  refine ⟨h1, ?_⟩
  rcases h2 with h2 | ⟨g, cap, cur, hv, hg, hh, r⟩
  · exact Or.inl h2
  · have hlt : g < w.heap.size := by
      rcases Nat.lt_or_ge g w.heap.size with h | h
      · exact h
      · rw [Array.getElem?_eq_none h] at hh; cases hh
    exact Or.inr ⟨g, cap, cur, hv, hg, by rw [hb.block g (by omega)]; exact hh, r⟩
end Go.Proofs.Ytcofnbeemfhcpaa
