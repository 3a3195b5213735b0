/- Bytes put behind a row of the call's own: where the row lies then. -/
import Derived.Test.YthcepihibnmgfaaDfull
import Derived.Deep.AppendLies
namespace Go.Proofs.Ythcepihibnmgfaa
open Go.RowKit Go.Maps

set_option maxRecDepth 100000 in
theorem wpList_grow {ops : Array Oper} {rest : List Oper} {o : Oper} {a : Act} {Q : Exit → Act → World → Prop} {wr : World} (hgd : o.guard = none) (s x : Operand)
    (ho : o.op = .call { callee := .builtin .append, args := #[s, x], argTypes := #[35, 35] })
    (B : Nat) (v : Value) (xs : List Nat) (hs : a.eval s = v) (hown : wr.ownsRow B 5 1 v xs.length (bv xs)) (u : Value) (ys : List Nat) (hx : a.eval x = u) (lo hi : Nat) (hu : Bs wr lo hi u ys)
    (hl : xs.length + ys.length ≤ 140737488355328) (hB : B ≤ wr.heap.size)
    (h : ∀ A' c' w', w'.ownsRow B 5 1 (.slice A' (xs.length + ys.length) c') (xs.length + ys.length) (bv (xs ++ ys)) → wr.grownBy w' v.ownBlock → ((Value.slice A' (xs.length + ys.length) c').ownBlock = v.ownBlock ∨ (Value.slice A' (xs.length + ys.length) c').ownBlock = some wr.heap.size) →
      wpList Try.prog ops Q rest (a.put o.dst (.slice A' (xs.length + ys.length) c')) w') :
    wpList Try.prog ops Q (o :: rest) a wr := by
  obtain ⟨i0, hi0, hz0, hz1, hz2⟩ := info_parts t5info
  obtain ⟨A, c, rfl, h1, h2, h3, h4⟩ := hu
  have fin : ∀ v' w', w'.ownsRow B 5 1 v' (xs.length + ys.length) (bv xs ++ bv ys) → wr.grownBy w' v.ownBlock → (v'.ownBlock = v.ownBlock ∨ v'.ownBlock = some wr.heap.size) → wpList Try.prog ops Q rest (a.put o.dst v') w' := by
    intro v' w' k1 k2 k3
    rw [← bv_append] at k1
    obtain ⟨A', c', rfl, _⟩ := Sl.of_own k1
    exact h A' c' w' k1 k2 k3
  rcases A with _ | ad
  · have hn : ys = [] := by
      rcases h4 with h | ⟨b, o, he, _⟩
      · simpa [bv] using h
      · cases he
    subst hn
    obtain rfl := h3 rfl
    exact wpList_append_own_none hgd s x 35 ho B 5 i0 1 Try.underlying35 hi0 v xs.length (bv xs) hs hown hx (fin v wr (by simpa [bv] using hown) (World.grownBy.refl _ _) (.inl rfl))
  · refine wpList_plain hgd fun K hK => ?_
    obtain ⟨v', w', hr, k1, k2, _, k3⟩ := run_append_own_at (P := Try.prog) wr B 35 o.type 5 i0 (.int .u8 0) 1 1 Try.underlying35 hi0 hz0 hz1 hz2 rfl (by omega) v xs.length (bv xs) hown ad ys.length c (bv ys) (by simp [bv]) (fun j q hj => by
      rcases h4 with h | ⟨b, o, he, _, _, hc⟩
      · rw [h] at hj; simp at hj
      · injection he with he
        subst he
        rw [addr_add]
        exact hc j q hj) (bv_one _) (by unfold maxLen; omega) (by omega) hB
    unfold Oper.wp execOp
    simp only [ho, resolve, invoke, builtin, Sem.run_bind, Sem.run_pure, Result.andThen_ok, List.map_toArray, List.map_cons, List.map_nil, hs, hx, hr]
    refine hK _ _ (fin v' w' k1 k2 ?_)
    rcases k3 with k3 | k3
    · exact .inl (by rw [k3])
    · exact .inr (by simpa using k3)
end Go.Proofs.Ythcepihibnmgfaa
