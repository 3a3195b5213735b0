/- Facts for regions that draw their order: rows of slices of bytes; parts of a slice of bytes. -/
import Derived.Test.YtcofnbeemfhcpaaArgs
import Derived.Test.YtcofnbeemfhcpaaFlow
namespace Go.Proofs.Ytcofnbeemfhcpaa
open Go.ChangeShapes Go.WideShapes Go.ChangeAt Go.RowKit

theorem below_new (w : World) (o : Obj) : Below w.heap.size w (w.alloc o) := (Below.refl _ _).alloc (Nat.le_refl _) o
/-- A literal of slices of bytes. -/
theorem rows_lit (w : World) (vs : List Value) (ls : List (List Nat)) (hlen : vs.length = ls.length) (h : ∀ (i : Nat) (v : Value) (l : List Nat), vs[i]? = some v → ls[i]? = some l → ∃ lo hi, Bs w lo hi v l ∧ hi ≤ w.heap.size) :
    Rows2 (w.alloc (.cells vs.toArray 22)) 0 (w.heap.size + 1) (some ⟨w.heap.size, 0, none⟩) vs ls := by
  refine ⟨.inr ⟨w.heap.size, 0, rfl, Nat.zero_le _, by omega, fun i u hu => ?_⟩, hlen, fun i u r hu hr => ?_⟩
  · rw [World.cell?_alloc_at _ _ _ _ rfl, Nat.zero_add]
    simpa using hu
  · obtain ⟨lo, hi, hb, hh⟩ := h i u r hu hr
    exact (hb.alloc hh _).wide (Nat.zero_le _) (by omega)
/-- A row of n slices of bytes, wherever it was laid. -/
def Rws (n : Nat) (ls : List (List Nat)) (v : Value) (u : World) : Prop := ls.length = n ∧ ∃ g h, v = .slice (some ⟨g, 0, none⟩) n n ∧ h ≤ u.heap.size ∧ ∃ vs, Rows2 u 0 h (some ⟨g, 0, none⟩) vs ls
theorem Mono.rws (n : Nat) (ls : List (List Nat)) : Mono (Rws n ls) := fun _ _ _ ⟨hn, g, h, e, hh, x, hr⟩ hu => ⟨hn, g, h, e, Nat.le_trans hh hu.size, x, hr.below hu hh⟩
theorem rws_lit (w : World) (vs : List Value) (ls : List (List Nat)) (n : Nat) (hn : ls.length = n) (hlen : vs.length = ls.length) (h : ∀ (i : Nat) (v : Value) (l : List Nat), vs[i]? = some v → ls[i]? = some l → ∃ lo hi, Bs w lo hi v l ∧ hi ≤ w.heap.size) :
    Rws n ls (.slice (some ⟨w.heap.size, 0, none⟩) n n) (w.alloc (.cells vs.toArray 22)) := ⟨hn, w.heap.size, w.heap.size + 1, rfl, by simp, vs, rows_lit w vs ls hlen h⟩

theorem Bs.len {w : World} {lo hi : Nat} {A : Option Addr} {n c : Nat} {l : List Nat} (h : Bs w lo hi (.slice A n c) l) : l.length = n ∧ n ≤ c ∧ c ≤ maxLen := by
  obtain ⟨A', c', he, a1, a2, _, _⟩ := h
  injection he with x1 x2 x3
  subst x2 x3
  exact ⟨rfl, a1, a2⟩
/-- b[:k]. -/
theorem Bs.head {w : World} {lo hi : Nat} {A : Option Addr} {n c : Nat} {l : List Nat} (h : Bs w lo hi (.slice A n c) l) {k : Nat} (hk : k ≤ n) : Bs w lo hi (.slice A k c) (l.take k) := by
  obtain ⟨A', c', he, a1, a2, a3, a4⟩ := h
  injection he with x1 x2 x3
  subst x1 x2 x3
  refine ⟨A, c, by rw [List.length_take, Nat.min_eq_left hk], by rw [List.length_take]; omega, a2, a3, ?_⟩
  unfold By
  rw [bv_take]
  exact Sl.take a4 k
/-- b[k:j]: the same value in every world. -/
theorem cut_run (A : Option Addr) (n c k j : Nat) (hkj : k ≤ j) (hjn : j ≤ n) (hc : n ≤ c) : ∃ A2, (∀ (W : World) (lo hi : Nat) (l : List Nat), Bs W lo hi (.slice A n c) l → Bs W lo hi (.slice A2 (j - k) (c - k)) ((l.drop k).take (j - k))) ∧
    (∀ w, (Instr.slice 22 (.slice A n c) (some (.int .i64 (k : Int))) (some (.int .i64 (j : Int))) none).run Try.prog w = .ok (.slice A2 (j - k) (c - k)) w) ∧
    (j = n → ∀ w, (Instr.slice 22 (.slice A n c) (some (.int .i64 (k : Int))) none none).run Try.prog w = .ok (.slice A2 (j - k) (c - k)) w) := by
  obtain ⟨i0, hi, _, hz1, _⟩ := info_parts t5info
  have he : Try.prog.underlying 22 = some (.slice (Try.prog.elem 22)) := by kernel_rfl
  have hs : ∀ w, (sizeOf (Try.prog.elem 22)).run Try.prog w = .ok 1 w := fun w => by
    have e : Try.prog.elem 22 = 5 := by kernel_rfl
    rw [e]
    simp [Go.sizeOf, typeInfo, hi, hz1]
  refine ⟨if c = k then A else A.map (·.add k), fun W lo hi' l h => ?_, fun w => ?_, fun hj w => ?_⟩
  · obtain ⟨A', c', he, a1, a2, a3, a4⟩ := h
    injection he with x1 x2 x3
    subst x1 x2 x3
    have h2 := By.drop (k := k) (cap := c) a4 (by omega) (by omega)
    have hl : ((l.drop k).take (j - k)).length = j - k := by simp; omega
    refine ⟨(if c = k then A else A.map (·.add k)), c - k, by rw [hl], by rw [hl]; omega, by omega, fun hn => ?_, ?_⟩
    · split at hn
      · have := a3 hn; omega
      · cases A with
        | none => have := a3 rfl; omega
        | some a => simp at hn
    · unfold By
      rw [bv_take]
      exact Sl.take h2 _
  · rw [run_slice_lh w 22 A n c he .i64 .i64 (k : Int) (j : Int) (by omega) (by omega) (by omega), hs]
    simp [Result.andThen, sliced]
  · subst hj
    rw [run_slice_l w 22 A j c he .i64 (k : Int) (by omega) (by omega), hs]
    simp [Result.andThen, sliced]
end Go.Proofs.Ytcofnbeemfhcpaa
