/- Gparts, joined. -/
import Derived.Test.YtlnihaeeoolkhaaMa9
import Derived.Maps.AppendAt

/- Parts of an order, run together; rows that grow side by side (merge). -/
namespace Go.Proofs.Ytlnihaeeoolkhaa
open Go.ChangeShapes Go.WideShapes Go.ChangeAt Go.RowKit

theorem pickE_sub {f : Nat → Ent → Bool} {P : List (Ent × Hd)} : ∀ i, (pickE f P i).Sublist (P.take i)
  | 0 => by simp [pickE]
  | i + 1 => by
    rw [List.take_add_one]
    unfold pickE
    refine List.Sublist.append (pickE_sub i) ?_
    cases P[i]? with
    | none => exact List.Sublist.refl _
    | some p =>
      dsimp only
      split
      · exact List.Sublist.refl _
      · exact List.nil_sublist _
theorem pickE_has {f : Nat → Ent → Bool} {P : List (Ent × Hd)} {j : Nat} {p : Ent × Hd} (hp : P[j]? = some p) (hf : f j p.1 = true) : ∀ n, j < n → p ∈ pickE f P n
  | 0, h => by omega
  | n + 1, h => by
    by_cases hj : j = n
    · subst hj
      rw [pickE_yes hp hf]; simp
    · have hjn : j < n := by omega
      unfold pickE
      exact List.mem_append_left _ (pickE_has hp hf n hjn)
theorem pickE_two {f g : Nat → Ent → Bool} {P : List (Ent × Hd)} (hg : ∀ i e, g i e = !f i e) : ∀ n, n ≤ P.length → (pickE f P n).length + (pickE g P n).length = n
  | 0, _ => by simp [pickE]
  | n + 1, h => by
    have ih := pickE_two (P := P) hg n (by omega)
    obtain ⟨p, hp⟩ : ∃ p, P[n]? = some p := ⟨_, List.getElem?_eq_getElem (by omega)⟩
    cases hf : f n p.1 with
    | true => rw [pickE_yes hp hf, pickE_no hp (by rw [hg, hf]; rfl), List.length_append]; simp; omega
    | false => rw [pickE_no hp hf, pickE_yes hp (by rw [hg, hf]; rfl), List.length_append]; simp; omega
theorem join_pick {f g : Nat → Ent → Bool} {P : List (Ent × Hd)} (hr : Rise (P.map Prod.fst)) (hg : ∀ i e, g i e = !f i e) :
    joinF (totL [(pickE f P P.length).map Prod.fst, (pickE g P P.length).map Prod.fst]) [(pickE f P P.length).map Prod.fst, (pickE g P P.length).map Prod.fst] = P.map Prod.fst := by
  have hs : ∀ f, ((pickE f P P.length).map Prod.fst).Sublist (P.map Prod.fst) := fun f => by
    have := (pickE_sub (f := f) (P := P) P.length).map Prod.fst
    rwa [List.take_of_length_le (Nat.le_refl _)] at this
  refine join_cover hr (fun x hx => ?_) (fun e he => ?_) ?_
  · simp only [List.mem_cons, List.not_mem_nil, or_false] at hx
    rcases hx with rfl | rfl
    · exact hs f
    · exact hs g
  · obtain ⟨p, hp, rfl⟩ := List.mem_map.1 he
    obtain ⟨j, hj⟩ := List.getElem?_of_mem hp
    have hjl := (List.getElem?_eq_some_iff.1 hj).1
    cases hf : f j p.1 with
    | true => exact ⟨_, by simp, List.mem_map.2 ⟨p, pickE_has hj hf _ hjl, rfl⟩⟩
    | false => exact ⟨(pickE g P P.length).map Prod.fst, by simp, List.mem_map.2 ⟨p, pickE_has (f := g) hj (by rw [hg, hf]; rfl) _ hjl, rfl⟩⟩
  · have := pickE_two (P := P) hg P.length (Nat.le_refl _)
    simp only [totL, List.map_cons, List.map_nil, List.sum_cons, List.sum_nil, List.length_map]
    omega
theorem join_cut {L : List Ent} (hr : Rise L) (k : Nat) : joinF (totL [L.take k, L.drop k]) [L.take k, L.drop k] = L := by
  refine join_cover hr (fun x hx => ?_) (fun e he => ?_) ?_
  · simp only [List.mem_cons, List.not_mem_nil, or_false] at hx
    rcases hx with rfl | rfl
    · exact List.take_sublist _ _
    · exact List.drop_sublist _ _
  · have h9 := he
    rw [← List.take_append_drop k L] at h9
    rcases List.mem_append.1 h9 with h9 | h9
    · exact ⟨_, by simp, h9⟩
    · exact ⟨L.drop k, by simp, h9⟩
  · simp only [totL, List.map_cons, List.map_nil, List.sum_cons, List.sum_nil, List.length_take, List.length_drop]
    omega

set_option maxRecDepth 100000 in
/-- 'append(l, t)'; where the row then lies. -/
theorem wpList_pushe2 {ops : Array Oper} {rest : List Oper} {o : Oper} {a : Act} {Q : Exit → Act → World → Prop} {u : World} (hgd : o.guard = none) (s x : Operand)
    (ho : o.op = .call { callee := .builtin .append, args := #[s, x], argTypes := #[22, 22] }) (B : Nat) (v : Value) (R : List (Ent × Hd)) (hs : a.eval s = v) (hown : OwnE B R v u)
    (p : Ent × Hd) (gb : Nat) (hx : a.eval x = .slice (some ⟨gb, 0, none⟩) 1 1) (hblk : u.heap[gb]? = some (.cells (ecells p).toArray 46 (0, 0))) (hlen : R.length ≤ 1000000000000) (hB : B ≤ u.heap.size)
    (h : ∀ A' c' w', OwnE B (R ++ [p]) (.slice A' (R.length + 1) c') w' → u.grownBy w' v.ownBlock → (∀ g, (Value.slice A' (R.length + 1) c').ownBlock = some g → v.ownBlock = some g ∨ g = u.heap.size) → wpList Try.prog ops Q rest (a.put o.dst (.slice A' (R.length + 1) c')) w') :
    wpList Try.prog ops Q (o :: rest) a u := by
  obtain ⟨i0, hi0, ix0, ix1, ix2⟩ := info_parts einfo
  refine wpList_append_own_at _ hgd s x 22 ho B 46 i0 _ 4 64 Try.underlying22 hi0 ix0 ix1 ix2 rfl (by decide) v R.length (erow R) hs hown ⟨gb, 0, none⟩ 1 1 (ecells p) hx rfl (fun j q hj => ?n1) (fun q hq => ?n2) ?n3 ?n4 hB (fun v' w5 ho hgr _ hat => ?rest)
  case n1 => rw [addr_add, Nat.zero_add]; exact cell_of hblk (by simpa using hj)
  case n2 => exact erow_one [p] q (by simpa [erow] using hq)
  case n3 => unfold maxLen; omega
  case n4 => omega
  case rest =>
    have ho' : OwnE B (R ++ [p]) v' w5 := by
      unfold OwnE
      rw [List.length_append, erow_append]
      simpa [erow] using ho
    obtain ⟨A', c', rfl, _⟩ := ho'.sl
    have hl1 : (R ++ [p]).length = R.length + 1 := by simp
    rw [hl1] at ho' hat ⊢
    exact h A' c' w5 ho' hgr (fun g hg => by
      rcases hat with e | e
      · exact .inl (e ▸ hg)
      · rw [e] at hg; injection hg with hg; exact .inr hg.symm)
/-- Two rows of one's own, apart. -/
structure TwoE (B : Nat) (w : World) (R S : List (Ent × Hd)) (v x : Value) (u : World) : Prop where
  r : OwnE B R v u
  s : OwnE B S x u
  ne : ∀ g, v.ownBlock = some g → x.ownBlock ≠ some g
  low : Below B w u
theorem TwoE.turn {B : Nat} {w u : World} {R S : List (Ent × Hd)} {v x : Value} (h : TwoE B w R S v x u) : TwoE B w S R x v u := ⟨h.s, h.r, fun g h1 h2 => h.ne g h2 h1, h.low⟩
theorem TwoE.push {B : Nat} {w u w5 : World} {R S : List (Ent × Hd)} {v x v5 : Value} {p : Ent × Hd} {o : Obj} (h : TwoE B w R S v x u) (hB : B ≤ u.heap.size) (h5 : OwnE B (R ++ [p]) v5 w5) (hg : (u.alloc o).grownBy w5 v.ownBlock) (hat : ∀ g, v5.ownBlock = some g → v.ownBlock = some g ∨ g = (u.alloc o).heap.size) :
    TwoE B w (R ++ [p]) S v5 x w5 := by
  have hs : ∀ g, x.ownBlock = some g → w5.heap[g]? = u.heap[g]? := fun g hx => by
    have hlt := (ownE_lt h.s g hx).2.1
    exact (hg.block g (by simp; omega) (fun e => h.ne g e.symm hx)).trans (Below.heap_alloc _ _ _ hlt)
  refine ⟨h5, h.s.keep hs, fun g h1 h2 => ?_, h.low.trans ?_⟩
  · rcases hat g h1 with h3 | h3
    · exact h.ne g h3 h2
    · have := (ownE_lt h.s g h2).2.1
      rw [h3] at this; simp at this; omega
  · exact ((Below.refl B u).alloc hB o).grown hg (by simp; omega) (fun k hk => (ownE_lt h.r k hk).1)
end Go.Proofs.Ytlnihaeeoolkhaa
