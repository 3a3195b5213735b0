/- Bytes in a row of the call's own. -/
import Derived.Test.YtdoieknjhdehmaaCflow
import Derived.Test.YtdoieknjhdehmaaIter
import Derived.RegionTactic
import Derived.Deep.DeepCutAuto
namespace Go.Proofs.Ytdoieknjhdehmaa
open Go.ChangeShapes Go.WideShapes Go.ChangeAt Go.RowKit

theorem cv {w : World} {lo hi : Nat} {A : Option Addr} {n c : Nat} {l : List Nat} (h : Bs w lo hi (.slice A n c) l) : (convert 25 9 (.slice A n c)).run Try.prog w = .ok (.string (tx l)) w := by
  obtain ⟨A', c', he, _, _, _, h4⟩ := h
  have h5 : A = A' ∧ n = l.length ∧ c = c' := by injection he with a b c; exact ⟨a, b, c⟩
  obtain ⟨rfl, rfl, rfl⟩ := h5
  exact run_text (P := Try.prog) w 25 5 Try.underlying25 Try.underlying5 h4 l.length c rfl 9 Try.underlying9
theorem tx_same {a b : List Nat} (ha : ∀ x ∈ a, x < 256) (hb : ∀ x ∈ b, x < 256) : ((tx a).toList == (tx b).toList) = decide (a = b) := by
  by_cases h : a = b
  · subst h; simp
  · rw [decide_eq_false h]
    have hne : tx a ≠ tx b := fun he => h (tx_inj ha hb he)
    rw [Bool.eq_false_iff]
    intro he
    rw [beq_iff_eq, ByteArray.toList_eq, ByteArray.toList_eq] at he
    exact hne (by
      have h1 : (tx a).data = (tx b).data := Array.ext' he
      cases h2 : tx a; cases h3 : tx b
      rw [h2, h3] at h1
      simp at h1; rw [h1])
/-- Bytes in a row of the call's own, from block B on. -/
def Own (B : Nat) (l : List Nat) (v : Value) (u : World) : Prop := u.ownsRow B 5 1 v l.length (bv l)
theorem Mono.own (B : Nat) (l : List Nat) : Mono (Own B l) := fun _ _ _ h hu => own_below h hu (Nat.le_refl _)
theorem Own.below {B : Nat} {l : List Nat} {v : Value} {u u' : World} (h : Own B l v u) (hu : Ext u u') : Own B l v u' := own_below h hu (Nat.le_refl _)
theorem Own.bs {B : Nat} {l : List Nat} {v : Value} {u : World} (h : Own B l v u) : Bs u 0 u.heap.size v l := (Bs.of_own h).wide (Nat.zero_le _) (Nat.le_refl _)
theorem Own.slice {B : Nat} {l : List Nat} {v : Value} {u : World} (h : Own B l v u) : ∃ A c, v = .slice A l.length c := by
  obtain ⟨A, c, e, _⟩ := h.bs
  exact ⟨A, c, e⟩
theorem Own.base {B B' : Nat} {l : List Nat} {v : Value} {u : World} (h : Own B l v u) (hB : B' ≤ B) : Own B' l v u := ownsRow_base h hB

/-- 'append(s, x...)': bytes to bytes. -/
theorem wpList_addbytes {ops : Array Oper} {rest : List Oper} {o : Oper} {a : Act} {Q : Exit → Act → World → Prop} {wr : World} (hgd : o.guard = none) (s x : Operand)
    (ho : o.op = .call { callee := .builtin .append, args := #[s, x], argTypes := #[25, 25] }) (B : Nat) (v : Value) (l : List Nat) (hs : a.eval s = v) (hown : Own B l v wr)
    (lo hi : Nat) (u : Value) (r : List Nat) (hx : a.eval x = u) (hu : Bs wr lo hi u r) (hlen : l.length + r.length ≤ 1099511627776) (hB : B ≤ wr.heap.size)
    (h : ∀ A' c' w', Own B (l ++ r) (.slice A' (l ++ r).length c') w' → (∀ w0, Below B w0 wr → Below B w0 w') → wpList Try.prog ops Q rest (a.put o.dst (.slice A' (l ++ r).length c')) w') :
    wpList Try.prog ops Q (o :: rest) a wr := by
  obtain ⟨i0, hi0, ix0, ix1, ix2⟩ := info_parts t5info
  obtain ⟨A, c, rfl, h1, h2, hnil, hby⟩ := hu
  refine wpList_addall hgd s x 25 ho B 5 i0 (.int .u8 0) 1 Try.underlying25 hi0 ix0 ix1 ix2 rfl v l.length (bv l) hs hown lo hi A r.length c (bv r) hx hnil (by rw [bv_length]) hby (bv_one r) (by unfold maxLen; omega) (by omega) hB (fun v' w' ho' hb => ?_)
  have hown' : Own B (l ++ r) v' w' := by unfold Own; rw [List.length_append, bv_append]; exact ho'
  obtain ⟨A', c', rfl⟩ := hown'.slice
  exact h A' c' w' hown' hb
/-- 'append(s, x...)', by how many they are then. -/
theorem wpList_addn {ops : Array Oper} {rest : List Oper} {o : Oper} {a : Act} {Q : Exit → Act → World → Prop} {wr : World} (hgd : o.guard = none) (s x : Operand)
    (ho : o.op = .call { callee := .builtin .append, args := #[s, x], argTypes := #[25, 25] }) (B : Nat) (v : Value) (l : List Nat) (hs : a.eval s = v) (hown : Own B l v wr)
    (lo hi : Nat) (u : Value) (r : List Nat) (hx : a.eval x = u) (hu : Bs wr lo hi u r) (L : List Nat) (N : Nat) (hL : l ++ r = L) (hN : L.length = N) (hlen : N ≤ 1099511627776) (hB : B ≤ wr.heap.size)
    (h : ∀ A' c' w', Own B L (.slice A' N c') w' → (∀ w0, Below B w0 wr → Below B w0 w') → wpList Try.prog ops Q rest (a.put o.dst (.slice A' N c')) w') :
    wpList Try.prog ops Q (o :: rest) a wr := by
  subst hL hN
  rw [List.length_append] at hlen
  exact wpList_addbytes hgd s x ho B v l hs hown lo hi u r hx hu hlen hB h
/-- Its block, when it has bytes. -/
theorem Own.block {B : Nat} {l : List Nat} {v : Value} {u : World} (h : Own B l v u) (h0 : 0 < l.length) : ∃ g c, v = .slice (some ⟨g, 0, none⟩) l.length c ∧ B ≤ g ∧ g < u.heap.size ∧ l.length ≤ c := by
  have h2 := h.2
  rcases h2 with ⟨hn, _⟩ | ⟨g, c, cur, hv, hb, hh, hn, _⟩
  · omega
  · refine ⟨g, c, hv, hb, ?_, hn⟩
    rcases Nat.lt_or_ge g u.heap.size with h | h
    · exact h
    · rw [Array.getElem?_eq_none h] at hh; cases hh
theorem Own.cell {B : Nat} {l : List Nat} {g n c : Nat} {u : World} (h : Own B l (.slice (some ⟨g, 0, none⟩) n c) u) {i : Nat} (hi : i < l.length) : u.cell? ⟨g, i, none⟩ = some (.int .u8 (l[i] : Int)) := by
  obtain ⟨A', c', e, _⟩ := h.bs
  injection e with _ e2 _
  subst e2
  have h' : u.ownsRow B 5 1 (.slice (some ⟨g, 0, none⟩) l.length c) l.length (bv l) := h
  rw [h'.cellAt i (by omega)]
  simp [bv, List.getElem?_eq_getElem hi]
theorem Own.free {B : Nat} {l : List Nat} {g n c : Nat} {u : World} (h : Own B l (.slice (some ⟨g, 0, none⟩) n c) u) (i : Nat) : u.frozen? ⟨g, i, none⟩ = false := by
  obtain ⟨A', c', e, _⟩ := h.bs
  injection e with _ e2 _
  subst e2
  have h' : u.ownsRow B 5 1 (.slice (some ⟨g, 0, none⟩) l.length c) l.length (bv l) := h
  exact h'.frozenAt i
theorem Own.set {B : Nat} {l : List Nat} {g n c : Nat} {u : World} (h : Own B l (.slice (some ⟨g, 0, none⟩) n c) u) (i x : Nat) : Own B (l.set i x) (.slice (some ⟨g, 0, none⟩) n c) (u.setCell ⟨g, i, none⟩ (.int .u8 (x : Int))) := by
  obtain ⟨A', c', e, _⟩ := h.bs
  injection e with _ e2 _
  subst e2
  have h' : u.ownsRow B 5 1 (.slice (some ⟨g, 0, none⟩) l.length c) l.length (bv l) := h
  have h1 := (h'.stored i (.int .u8 (x : Int))).1
  have e : (bv l).set i (.int .u8 (x : Int)) = bv (l.set i x) := by simp [bv, List.map_set]
  rw [e] at h1
  unfold Own
  rw [List.length_set]
  exact h1
theorem Own.nil (B : Nat) (u : World) : Own B [] (.slice none 0 0) u := World.ownsRow_nil _ _ _ _
theorem hown_lt {B : Nat} {l : List Nat} {g n c : Nat} {u : World} (h : Own B l (.slice (some ⟨g, 0, none⟩) n c) u) (h0 : 0 < l.length) : g < u.heap.size := by
  obtain ⟨g', c', e, _, h2, _⟩ := h.block h0
  injection e with e _ _
  injection e with e
  injection e with e
  omega
end Go.Proofs.Ytdoieknjhdehmaa
