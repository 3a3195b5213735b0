/- Rows of bytes that came in; a part of a slice; a row of the call's own that is written over. -/
import Derived.Test.YtdggemdgndiafaaWas
import Derived.Test.YtdggemdgndiafaaRmore
import Derived.Deep.Slices
namespace Go.Proofs.Ytdggemdgndiafaa
open Go.ChangeShapes Go.WideShapes Go.ChangeAt Go.RowKit

set_option maxRecDepth 100000 in
theorem open_rows {H : Type} {enc : TypeId × Value → H} {W : World} {v : Value} {d : DataW H} {p : List MemPlace} {b0 : Nat}
    (hv : Value.okWide Try.prog W .any b0 40 v) (h : DataW.Trod enc Try.prog W 0 (fun _ => true) true 40 v d p) :
    ∃ (A : Option Addr) (c : Nat) (vs : List Value) (ls : List (List Nat)), v = .slice A ls.length c ∧ ls.length ≤ c ∧ c ≤ maxLen ∧ (∀ l ∈ ls, ∀ b ∈ l, b < 256) ∧ Rows2 W 0 W.heap.size A vs ls := by
  obtain ⟨a0, len0, cap0, rfl⟩ := okWide_slice Try.underlying40 hv
  obtain ⟨fuel, hf⟩ := h
  rcases Go.Deep.open_slice1 Try.underlying40 (by kernel_rfl) hf with ⟨hcs, _⟩ | ⟨a, len, cap, m, n, V, D, Pl, hcs, _, hl, hm, hmm, _, hx⟩
  · simp [Value.cells] at hcs
    obtain ⟨rfl, rfl, rfl⟩ := hcs
    exact ⟨none, 0, [], [], rfl, by simp, by simp [maxLen], by simp, ⟨Sl.nil _ _ _ _, rfl, fun i v l hv _ => by simp at hv⟩⟩
  · simp [Value.cells] at hcs
    obtain ⟨rfl, rfl, rfl⟩ := hcs
    have hmc : m = cap0 := by rw [hmm]; simp
    have each : ∀ i : Nat, ∃ l : List Nat, i < len0 → (∀ b ∈ l, b < 256) ∧ Bs W 0 W.heap.size (V i) l := by
      intro i
      by_cases hi : i < len0
      · obtain ⟨_, h2⟩ := hx i (by omega)
        rcases open_ints Try.underlying23 Try.underlying5 (by kernel_rfl) h2 with ⟨hcs, _⟩ | ⟨x, l, c, zs, hcs, _, hl', hm', hz, _, hcell, hwz⟩
        · injection hcs with hcs _
          rw [hcs]
          exact ⟨[], fun _ => ⟨by simp, Bs.nil _ _ _⟩⟩
        · injection hcs with hcs _
          rw [hcs]
          obtain ⟨l', _, q2, q3⟩ := bs_cells hl' hm' (by simpa using hz) hcell hwz
          exact ⟨l', fun _ => ⟨q2, q3⟩⟩
      · exact ⟨[], fun h => absurd h hi⟩
    obtain ⟨F, hF⟩ := Classical.axiomOfChoice each
    refine ⟨some a, cap0, (List.range len0).map V, (List.range len0).map F, by simp, by simpa using hl, hm, ?_, ?_, by simp, ?_⟩
    · intro l hl' b hb
      simp only [List.mem_map, List.mem_range] at hl'
      obtain ⟨i, hi, rfl⟩ := hl'
      exact (hF i hi).1 b hb
    · by_cases h0 : len0 = 0
      · exact .inl (by simp [h0])
      · obtain ⟨b, o, spot⟩ := a
        have hc0 := (hx 0 (by omega)).1
        have hspot : spot = none := by simpa [Addr.add] using World.cell?_spot hc0
        subst hspot
        refine .inr ⟨b, o, rfl, Nat.zero_le _, World.block_lt_of_cell? W ((⟨b, o, none⟩ : Addr).add 0) hc0 |> fun h => by rw [addr_add] at h; exact h, fun i u hu => ?_⟩
        rw [List.getElem?_map] at hu
        rcases Nat.lt_or_ge i len0 with hi | hi
        · rw [List.getElem?_range hi] at hu
          have := (hx i (by omega)).1
          rw [addr_add] at this
          rw [this]
          exact hu
        · rw [List.getElem?_eq_none (by simpa using hi)] at hu
          cases hu
    · intro i v l hv hl'
      rw [List.getElem?_map] at hv hl'
      rcases Nat.lt_or_ge i len0 with hi | hi
      · rw [List.getElem?_range hi] at hv hl'
        simp at hv hl'
        subst hv hl'
        exact (hF i hi).2
      · rw [List.getElem?_eq_none (by simpa using hi)] at hv
        cases hv

/-- A part of a slice of bytes. -/
theorem mid_run (A : Option Addr) (n c k j : Nat) (hkj : k ≤ j) (hjn : j ≤ n) (hc : n ≤ c) : ∃ A2, (∀ l : List Nat, l.length = n → ∀ (W : World) (lo hi : Nat), By W lo hi A l → By W lo hi A2 ((l.drop k).take (j - k))) ∧ (A2 = none → A = none) ∧
    ∀ w, (Instr.slice 23 (.slice A n c) (some (.int .i64 (k : Int))) (some (.int .i64 (j : Int))) none).run Try.prog w = .ok (.slice A2 (j - k) (c - k)) w := by
  obtain ⟨i0, hi, _, hz1, _⟩ := info_parts t5info
  refine ⟨if c = k then A else A.map (·.add k), fun l hl W lo hi' h => ?_, ?_, fun w => ?_⟩
  · have h2 := By.drop (k := k) (cap := c) h (by omega) (by omega)
    unfold By
    rw [bv_take]
    exact Sl.take h2 _
  · split
    · exact id
    · cases A <;> simp
  · have he : Try.prog.underlying 23 = some (.slice (Try.prog.elem 23)) := by kernel_rfl
    have hs : (sizeOf (Try.prog.elem 23)).run Try.prog w = .ok 1 w := by
      have e : Try.prog.elem 23 = 5 := by kernel_rfl
      rw [e]
      simp [Go.sizeOf, typeInfo, hi, hz1]
    rw [run_slice_lh w 23 A n c he .i64 .i64 (k : Int) (j : Int) (by omega) (by omega) (by omega), hs]
    simp [Result.andThen, sliced]

/-- A row whose bytes nobody asks for any more: it may be written over. -/
def Row (w : World) (ro : Option Nat) (A : Option Addr) (n : Nat) : Prop := ∀ j, j < n → ∃ g, ro = some g ∧ A = some ⟨g, 0, none⟩ ∧ (∃ x : Nat, x < 256 ∧ w.cell? ⟨g, j, none⟩ = some (.int .u8 (x : Int))) ∧ w.frozen? ⟨g, j, none⟩ = false

theorem Row.of_own {w : World} {B : Nat} {A : Option Addr} {n c : Nat} {l : List Nat} (h : w.ownsRow B 5 1 (.slice A n c) l.length (bv l)) (hl : ∀ b ∈ l, b < 256) : n = l.length ∧ Row w (Value.slice A n c).ownBlock A n := by
  rcases h.2 with ⟨h', h0⟩ | ⟨g, cap, cur, h', _⟩
  · injection h' with e1 e2 e3
    exact ⟨by omega, fun j hj => by omega⟩
  · injection h' with e1 e2 e3
    subst e1 e2 e3
    refine ⟨rfl, fun j hj => ⟨g, rfl, rfl, ⟨l[j], hl _ (List.getElem_mem hj), ?_⟩, h.frozenAt j⟩⟩
    rw [h.cellAt j (by omega)]
    simp [bv, List.getElem?_eq_getElem hj]

theorem Row.set {w : World} {ro : Option Nat} {A : Option Addr} {n g j x : Nat} (h : Row w ro A n) (hx : x < 256) : Row (w.setCell ⟨g, j, none⟩ (.int .u8 (x : Int))) ro A n := by
  intro i hi
  obtain ⟨g', e1, e2, ⟨y, hy, hc⟩, hf⟩ := h i hi
  refine ⟨g', e1, e2, ?_, by simpa using hf⟩
  by_cases he : (⟨g, j, none⟩ : Addr) = ⟨g', i, none⟩
  · injection he with q1 q2
    subst q1 q2
    exact ⟨x, hx, World.cell?_setCell_same _ _ _ hc⟩
  · exact ⟨y, hy, by rw [World.cell?_setCell_other _ _ _ _ he]; exact hc⟩

/-! A region that draws its order, its operations taken in an order that the proof names. -/
section
variable {P : Program} {ops : Array Oper} {Q : Exit → Act → World → Prop}

theorem at_start {id : Nat} {a : Act} {w : World} (hm : P.follows .mixedOrders = true) {n : Nat} (hn : ops.size = n) (h : Later P ops Q n (Array.replicate n false) a w.drew) : (Code.region id ops true).wp P Q a w := by
  subst hn
  exact wp_region_any hm (Later.any _ _ _ _ h)

theorem at_read (i : Nat) {n : Nat} {seen : Array Bool} {o : Oper} {v : Value} {a : Act} {w : World} (hl : ops.toList[i]? = some o) (hsel : Region.noSelect ops = true) (hf : Region.free .any ops seen i = true) (hr : (Region.ready .any ops seen).contains i = true)
    (hQ : ∀ c a w, Q (.panic c) (a.put o.dst v) w → Q (.panic c) a w) (hy : YieldsIf P ops (Ext w) o v a) (h : Later P ops Q n (seen.setIfInBounds i true) (a.put o.dst v) w) : Later P ops Q (n + 1) seen a w :=
  have ho : ops[i]? = some o := by rw [← Array.getElem?_toList]; exact hl
  Later.first ho hsel hQ n seen a w hf (by simpa using hr) hy (Region.free_spec ho hf) h

theorem at_make (i : Nat) {n : Nat} {seen : Array Bool} {o : Oper} {a : Act} {w : World} (hl : ops.toList[i]? = some o) (hr : Region.ready .any ops seen = [i])
    (h : ∀ K : Act → World → Prop, (∀ b u, Ext w u → Later P ops Q n (seen.setIfInBounds i true) b u → K b u) → if Region.wanted o (yielded ops a.tmps) = true then Oper.wp P o a w K Q else K (a.put o.dst undef) w) : Later P ops Q (n + 1) seen a w := by
  have ho : ops[i]? = some o := by rw [← Array.getElem?_toList]; exact hl
  refine ⟨fun h0 => (by rw [hr] at h0; cases h0), fun j hj => ?_⟩
  rw [hr] at hj
  simp at hj
  subst hj
  have h1 := h (fun b u => Ext w u ∧ Later P ops Q n (seen.setIfInBounds j true) b u) (fun b u hu hb => ⟨hu, hb⟩)
  unfold wpOp
  simp only [ho]
  split
  · rename_i hw; rw [if_pos hw] at h1; exact .inl h1
  · rename_i hw; rw [if_neg hw] at h1; exact h1

theorem at_done {seen : Array Bool} {a : Act} {w : World} (hr : Region.ready .any ops seen = []) (h : Q .normal a w) : Later P ops Q 0 seen a w := ⟨hr, h⟩
end
end Go.Proofs.Ytdggemdgndiafaa
