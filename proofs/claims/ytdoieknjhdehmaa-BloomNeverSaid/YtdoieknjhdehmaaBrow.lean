/- Rows of slices of bytes that grow. -/
import Derived.Test.YtdoieknjhdehmaaBmuch
import Derived.Maps.AppendAt
namespace Go.Proofs.Ytdoieknjhdehmaa
open Go.ChangeShapes Go.WideShapes Go.ChangeAt Go.RowKit

/-- Rows of unlike things lie in unlike blocks. -/
theorem own_apart {w : World} {B B' s s' n n' : Nat} {e e' : TypeId} {v v' : Value} {xs xs' : List Value} (h : w.ownsRow B e s v n xs) (k : w.ownsRow B' e' s' v' n' xs') (hne : e ≠ e') : ∀ g, v.ownBlock = some g → some g ≠ v'.ownBlock := by
  intro g hg he
  rcases h.2 with ⟨rfl, _⟩ | ⟨g1, cap1, cur1, rfl, _, h1, _⟩
  · cases hg
  · rcases k.2 with ⟨rfl, _⟩ | ⟨g2, cap2, cur2, rfl, _, h2, _⟩
    · cases he
    · injection hg with hg
      injection he with he
      subst hg
      subst he
      rw [h1] at h2
      injection h2 with h2
      injection h2 with _ h2
      exact hne h2
/-- A row stays while a row of unlike things grows. -/
theorem own_while {w w' : World} {B B' s' n n' : Nat} {e e' : TypeId} {v v' : Value} {xs xs' : List Value} {o : Obj} (h : w.ownsRow B e 1 v n xs) (k : w.ownsRow B' e' s' v' n' xs') (hne : e ≠ e') (hg : (w.alloc o).grownBy w' v'.ownBlock) : w'.ownsRow B e 1 v n xs := by
  refine row_kept h fun g hv => ?_
  have hlt := (row_lt h g hv).2
  rw [hg.block g (by simp; omega) (own_apart h k hne g hv)]
  exact Below.heap_alloc _ _ _ hlt
theorem tbytesinfo : (Try.prog.info? 25).map (fun i => (i.zero, i.size, i.bytes)) = some (some (.slice none 0 0), 1, 24) := by kernel_rfl

/-- 'out = append(out, u)' onto a row of the call's own: all else stays. -/
theorem wpList_pushrow {P : Program} {ops : Array Oper} {rest : List Oper} {o : Oper} {a : Act} {Q : Exit → Act → World → Prop} {wr : World} (hgd : o.guard = none) (s x : Operand) (t : TypeId)
    (ho : o.op = .call { callee := .builtin .append, args := #[s, x], argTypes := #[t, t] })
    (B : Nat) (e : TypeId) (i : TypeInfo) (z : Value) (bytes : Nat) (ht : P.underlying t = some (.slice e)) (hi : P.info? e = some i) (hz : i.zero = some z)
    (hsize : i.size = 1) (hby : i.bytes = bytes) (hzs : z.cells.size = 1)
    (v : Value) (n : Nat) (xs : List Value) (hs : a.eval s = v) (hown : wr.ownsRow B e 1 v n xs) (u : Value) (hu : u.oneCell' = true) (g : Nat) (hg : g = wr.heap.size)
    (hx : a.eval x = .slice (some ⟨g, 0, none⟩) 1 1) (h63 : n + 1 ≤ maxLen) (hbytes : (n + 1) * bytes ≤ 140737488355328) (hB : B ≤ wr.heap.size)
    (h : ∀ A' c' w', w'.ownsRow B e 1 (.slice A' (n + 1) c') (n + 1) (xs ++ [u]) → (wr.alloc (.cells #[u] e)).grownBy w' v.ownBlock → wpList P ops Q rest (a.put o.dst (.slice A' (n + 1) c')) w') :
    wpList P ops Q (o :: rest) a (wr.alloc (.cells #[u] e)) := by
  subst hg
  refine wpList_append_own _ hgd s x t ho B e i z 1 bytes ht hi hz hsize hby hzs (by omega) v n xs hs (hown.alloc _) ⟨wr.heap.size, 0, none⟩ 1 1 [u] hx rfl (fun j q hj => ?_) (fun q hq => ?_) h63 hbytes
    (Nat.le_trans hB (by simp)) (fun v' w' h2 h3 _ => ?_)
  · rcases j with _ | j
    · simp at hj
      subst hj
      rw [addr_add, World.cell?_alloc_at _ _ _ _ rfl]
      rfl
    · simp at hj
  · rw [List.mem_singleton] at hq
    subst hq
    exact hu
  · have h2' := h2
    obtain ⟨A', c', rfl, _, _, _, _⟩ := Sl.of_own h2'
    exact h A' c' w' h2 h3
theorem grown_below {w w' : World} {B : Nat} {r : Option Nat} {o : Obj} (hg : (w.alloc o).grownBy w' r) (hr : ∀ g, r = some g → B ≤ g) (hB : B ≤ w.heap.size) : Below B w w' :=
  ((Below.refl B w).alloc hB o).grown hg (Nat.le_trans hB (by simp)) hr

/-- A row of the call's own, as rows of bytes. -/
theorem rows_of_own {w : World} {B n c : Nat} {A : Option Addr} {xs : List Value} {ls : List (List Nat)} (h : w.ownsRow B 25 1 (.slice A n c) n xs) (hlen : xs.length = ls.length)
    (he : ∀ (i : Nat) (v : Value) (l : List Nat), xs[i]? = some v → ls[i]? = some l → Bs w 0 w.heap.size v l) : Rows2 w 0 w.heap.size A xs ls ∧ n ≤ c ∧ c ≤ maxLen ∧ ls.length = n := by
  obtain ⟨A', c', e, h1, h2, h3, h4⟩ := Sl.of_own h
  injection e with e1 _ e3
  subst e1 e3
  exact ⟨⟨h4.wide (Nat.zero_le _) (Nat.le_refl _), hlen, he⟩, h1, h2, hlen.symm.trans h3⟩
end Go.Proofs.Ytdoieknjhdehmaa
