/- Words for memory that this seat's proofs share: a slice that reads as a row of cells in blocks of a known interval, and what keeps it. -/
import Derived.Test.YtcofnbeemfhcpaaRows
import Derived.WalkKit
import Derived.Below
import Derived.Laws.OwnMore
import Derived.Deep.Draws
import Derived.Laws.BytesArg
import Derived.Lib.Hide
import Derived.OwnWalk
import Derived.Laws.AppendOwnNone
import Derived.Lib.AppendZerosOnto
import Derived.Lib.AppendZeros
namespace Go.Proofs.Ytcofnbeemfhcpaa
open Go.RowKit

/-- The slice value that begins at 'A' reads as 'xs'; its cells lie in one block 'b' with 'lo ≤ b < hi'. Of no cells nothing is said. -/
def Sl (w : World) (lo hi : Nat) (A : Option Addr) (xs : List Value) : Prop :=
  xs = [] ∨ ∃ b o, A = some ⟨b, o, none⟩ ∧ lo ≤ b ∧ b < hi ∧ ∀ i u, xs[i]? = some u → w.cell? ⟨b, o + i, none⟩ = some u

theorem addr_add (b o i : Nat) : (⟨b, o, none⟩ : Addr).add i = ⟨b, o + i, none⟩ := by unfold Addr.add; split <;> simp_all

section
variable {w w' : World} {lo hi : Nat} {A : Option Addr} {xs : List Value}

theorem Sl.nil (w : World) (lo hi : Nat) (A : Option Addr) : Sl w lo hi A [] := .inl rfl

theorem Sl.at_ (h : Sl w lo hi A xs) {i : Nat} (hi' : i < xs.length) :
    ∃ b o, A = some ⟨b, o, none⟩ ∧ lo ≤ b ∧ b < hi ∧ w.cell? ⟨b, o + i, none⟩ = some xs[i] := by
  rcases h with rfl | ⟨b, o, e, h1, h2, hc⟩
  · simp at hi'
  · exact ⟨b, o, e, h1, h2, hc i _ (List.getElem?_eq_getElem hi')⟩

theorem Sl.keep (h : Sl w lo hi A xs) (hk : ∀ p : Addr, lo ≤ p.block → p.block < hi → w'.cell? p = w.cell? p) : Sl w' lo hi A xs := by
  rcases h with rfl | ⟨b, o, e, h1, h2, hc⟩
  · exact .inl rfl
  · exact .inr ⟨b, o, e, h1, h2, fun i u hu => (hk ⟨b, o + i, none⟩ h1 h2).trans (hc i u hu)⟩

theorem Sl.wide (h : Sl w lo hi A xs) {lo' hi' : Nat} (h1 : lo' ≤ lo) (h2 : hi ≤ hi') : Sl w lo' hi' A xs := by
  rcases h with rfl | ⟨b, o, e, h3, h4, hc⟩
  · exact .inl rfl
  · exact .inr ⟨b, o, e, by omega, by omega, hc⟩

theorem Sl.below {B : Nat} (h : Sl w lo hi A xs) (hb : Below B w w') (hB : hi ≤ B) : Sl w' lo hi A xs :=
  h.keep fun p _ hp => hb.cell (by omega)

theorem Sl.grown {row : Option Nat} (h : Sl w lo hi A xs) (hg : w.grownBy w' row) (hB : hi ≤ w.heap.size) (hr : ∀ k, row = some k → k < lo ∨ hi ≤ k) : Sl w' lo hi A xs :=
  h.keep fun p h1 h2 => World.cell?_of_block (hg.block p.block (by omega) (fun e => by have := hr _ e.symm; omega))

theorem Sl.alloc (h : Sl w lo hi A xs) (hB : hi ≤ w.heap.size) (o : Obj) : Sl (w.alloc o) lo hi A xs :=
  h.keep fun p _ hp => World.cell?_alloc_lt w o p (by omega)

theorem Sl.setCell (h : Sl w lo hi A xs) {p : Addr} (hp : p.block < lo ∨ hi ≤ p.block) (u : Value) : Sl (w.setCell p u) lo hi A xs :=
  h.keep fun q h1 h2 => World.cell?_setCell_other w p q u (fun e => by subst e; omega)

theorem Sl.drew (h : Sl w lo hi A xs) : Sl w.drew lo hi A xs := h
theorem Sl.drewN (h : Sl w lo hi A xs) (n : Nat) : Sl (w.drewN n) lo hi A xs := h

theorem Sl.drop (h : Sl w lo hi A xs) {k cap : Nat} (hk : k ≤ xs.length) (hc : xs.length ≤ cap) :
    Sl w lo hi (if cap = k then A else A.map (·.add k)) (xs.drop k) := by
  rcases h with rfl | ⟨b, o, rfl, h1, h2, hcell⟩
  · exact .inl (by simp)
  · by_cases hx : k = xs.length
    · exact .inl (by simp [hx])
    · rw [if_neg (by omega)]
      refine .inr ⟨b, o + k, by simp [addr_add], h1, h2, fun i u hu => ?_⟩
      rw [Nat.add_assoc]
      exact hcell _ _ (by rw [← hu, List.getElem?_drop])

theorem Sl.take (h : Sl w lo hi A xs) (k : Nat) : Sl w lo hi A (xs.take k) := by
  rcases h with rfl | ⟨b, o, e, h1, h2, hc⟩
  · exact .inl (by simp)
  · refine .inr ⟨b, o, e, h1, h2, fun i u hu => hc i u ?_⟩
    rw [List.getElem?_take] at hu
    split at hu
    · exact hu
    · cases hu

theorem Sl.of_own {base : Nat} {e : TypeId} {v : Value} {n : Nat} (h : w.ownsRow base e 1 v n xs) :
    ∃ A c, v = .slice A n c ∧ n ≤ c ∧ c ≤ maxLen ∧ xs.length = n ∧ Sl w base w.heap.size A xs := by
  rcases h with ⟨hl, ⟨rfl, rfl⟩ | ⟨g, cap, cur, rfl, hb, hh, hn, hm, hcs, rfl⟩⟩
  · exact ⟨none, 0, rfl, Nat.le_refl _, by simp [maxLen], by simpa using hl, .inl (List.eq_nil_of_length_eq_zero (by simpa using hl))⟩
  · refine ⟨some ⟨g, 0, none⟩, cap, rfl, hn, hm, by simpa using hl, .inr ⟨g, 0, rfl, hb, ?_, fun i u hu => ?_⟩⟩
    · rcases Nat.lt_or_ge g w.heap.size with h | h
      · exact h
      · rw [Array.getElem?_eq_none h] at hh; cases hh
    · rw [Nat.zero_add, cell_of_row w g i cur e (0, 0) hh]
      rw [List.getElem?_take] at hu
      split at hu
      · rw [← Array.getElem?_toList]; exact hu
      · cases hu
end

/-- Bytes as cells. -/
def bv (l : List Nat) : List Value := l.map fun n : Nat => Value.int .u8 (n : Int)
theorem bv_length (l : List Nat) : (bv l).length = l.length := by simp [bv]
theorem bv_append (l r : List Nat) : bv (l ++ r) = bv l ++ bv r := by simp [bv]
theorem bv_drop (l : List Nat) (k : Nat) : bv (l.drop k) = (bv l).drop k := by simp [bv]
theorem bv_take (l : List Nat) (k : Nat) : bv (l.take k) = (bv l).take k := by simp [bv]
theorem bv_one (l : List Nat) : ∀ u ∈ bv l, u.oneCell' = true := by
  intro u hu
  simp only [bv, List.mem_map] at hu
  obtain ⟨n, _, rfl⟩ := hu
  rfl
theorem bv_get (l : List Nat) (i : Nat) (h : i < l.length) : (bv l)[i]'(by rw [bv_length]; exact h) = .int .u8 (l[i] : Int) := by simp [bv]

/-- A slice of bytes that reads as 'l'. -/
def By (w : World) (lo hi : Nat) (A : Option Addr) (l : List Nat) : Prop := Sl w lo hi A (bv l)

theorem By.at_ {w : World} {lo hi : Nat} {A : Option Addr} {l : List Nat} (h : By w lo hi A l) {i : Nat} (hi' : i < l.length) :
    ∃ b o, A = some ⟨b, o, none⟩ ∧ lo ≤ b ∧ b < hi ∧ w.cell? ⟨b, o + i, none⟩ = some (.int .u8 (l[i] : Int)) := by
  obtain ⟨b, o, e, h1, h2, hc⟩ := Sl.at_ h (i := i) (by rw [bv_length]; exact hi')
  exact ⟨b, o, e, h1, h2, by rw [hc, bv_get l i hi']⟩

theorem By.drop {w : World} {lo hi : Nat} {A : Option Addr} {l : List Nat} (h : By w lo hi A l) {k cap : Nat} (hk : k ≤ l.length) (hc : l.length ≤ cap) :
    By w lo hi (if cap = k then A else A.map (·.add k)) (l.drop k) := by
  unfold By
  rw [bv_drop]
  exact Sl.drop h (by rw [bv_length]; exact hk) (by rw [bv_length]; exact hc)

/-- The text that bytes make. -/
def tx (l : List Nat) : ByteArray := strOfNums (l.map fun n : Nat => (n : Int))
theorem tx_inj {l r : List Nat} (hl : ∀ n ∈ l, n < 256) (hr : ∀ n ∈ r, n < 256) (h : tx l = tx r) : l = r := by
  have h1 : (tx l).data.toList = (tx r).data.toList := by rw [h]
  unfold tx at h1
  rw [strOfNums_data, strOfNums_data, List.map_map, List.map_map] at h1
  have h2 : ∀ l : List Nat, (∀ n ∈ l, n < 256) → (l.map ((fun n : Int => UInt8.ofNat n.toNat) ∘ fun n : Nat => (n : Int))).map UInt8.toNat = l := by
    intro l
    induction l with
    | nil => simp
    | cons a l ih =>
      intro hb
      have ha : a < 256 := hb a (by simp)
      have := ih (fun n hn => hb n (by simp [hn]))
      simp only [List.map_cons, List.cons.injEq]
      exact ⟨by simp [Nat.mod_eq_of_lt ha], this⟩
  rw [← h2 l hl, ← h2 r hr, h1]

section
variable {P : Program}
theorem run_text (w : World) {lo hi : Nat} {A : Option Addr} {l : List Nat} (src e : TypeId) (hs : P.underlying src = some (.slice e)) (he : P.underlying e = some (.int .u8))
    (h : By w lo hi A l) (n c : Nat) (hn : l.length = n) (dst : TypeId) (hd : P.underlying dst = some .string) :
    (convert src dst (.slice A n c)).run P w = .ok (.string (tx l)) w := by
  subst hn
  rcases h with h | ⟨b, o, rfl, _, _, hc⟩
  · have hl : l = [] := by simpa [bv] using h
    subst hl
    rw [run_convert_bytes_string w src dst e A _ c hs he hd]
    rcases A with _ | a
    · simp [Conv.bytesToString]; rfl
    · have hld : (loadCells a 0).run P w = .ok (([] : List Int).map (Value.int .u8)).toArray w := by
        simpa using run_loadCells_list (P := P) w a [] (fun j v hj => by simp at hj)
      rw [show ([] : List Nat).length = 0 from rfl, run_bytesToString w a 0 c [] hld]
      rfl
  · refine run_convert_bytes_arg w src e hs he b o l.length c (l.map fun n : Nat => (n : Int)) (by simp) (fun i hi => ?_) dst hd
    rw [hc i (.int .u8 (l[i] : Int)) (by simp [bv, List.getElem?_eq_getElem hi])]
    simp [List.getElem?_eq_getElem hi]
end

/-- 'out = append(out, u)' onto a row of the call's own: one value more at its end. -/
theorem wpList_push {P : Program} {ops : Array Oper} {rest : List Oper} {o : Oper} {a : Act} {Q : Exit → Act → World → Prop} {wr : World} (hgd : o.guard = none) (s x : Operand) (t : TypeId)
    (ho : o.op = .call { callee := .builtin .append, args := #[s, x], argTypes := #[t, t] })
    (B : Nat) (e : TypeId) (i : TypeInfo) (z : Value) (bytes : Nat) (ht : P.underlying t = some (.slice e)) (hi : P.info? e = some i) (hz : i.zero = some z)
    (hsize : i.size = 1) (hby : i.bytes = bytes) (hzs : z.cells.size = 1)
    (v : Value) (n : Nat) (xs : List Value) (hs : a.eval s = v) (hown : wr.ownsRow B e 1 v n xs) (u : Value) (hu : u.oneCell' = true)
    (hx : a.eval x = .slice (some ⟨wr.heap.size, 0, none⟩) 1 1) (h63 : n + 1 ≤ maxLen) (hbytes : (n + 1) * bytes ≤ 140737488355328) (hB : B ≤ wr.heap.size)
    (h : ∀ v' w', w'.ownsRow B e 1 v' (n + 1) (xs ++ [u]) → (∀ w0, Below B w0 wr → Below B w0 w') → wpList P ops Q rest (a.put o.dst v') w') :
    wpList P ops Q (o :: rest) a (wr.alloc (.cells #[u] e)) := by
  refine wpList_append_own _ hgd s x t ho B e i z 1 bytes ht hi hz hsize hby hzs (by omega) v n xs hs (hown.alloc _) ⟨wr.heap.size, 0, none⟩ 1 1 [u] hx rfl (fun j q hj => ?_) (fun q hq => ?_) h63 hbytes
    (Nat.le_trans hB (by simp)) (fun v' w' h2 h3 _ => h v' w' h2 fun w0 hb => ?_)
  · rcases j with _ | j
    · simp at hj
      subst hj
      rw [addr_add, World.cell?_alloc_at _ _ _ _ rfl]
      rfl
    · simp at hj
  · rw [List.mem_singleton] at hq
    subst hq
    exact hu
  · exact (hb.alloc hB _).grown h3 (Nat.le_trans hB (by simp)) (fun k hk => (hown.lt k hk).1)

/-- A slice value of bytes that reads as 'l' in blocks of the interval. -/
def Bs (w : World) (lo hi : Nat) (v : Value) (l : List Nat) : Prop :=
  ∃ A c, v = .slice A l.length c ∧ l.length ≤ c ∧ c ≤ maxLen ∧ (A = none → c = 0) ∧ By w lo hi A l
section
variable {w w' : World} {lo hi : Nat} {v : Value} {l : List Nat}
theorem Bs.nil (w : World) (lo hi : Nat) : Bs w lo hi (.slice none 0 0) [] := ⟨none, 0, rfl, Nat.le_refl _, by simp [maxLen], fun _ => rfl, Sl.nil _ _ _ _⟩
theorem Bs.of (f : ∀ A, By w lo hi A l → By w' lo hi A l) (h : Bs w lo hi v l) : Bs w' lo hi v l := by
  obtain ⟨A, c, e, h1, h2, h3, h4⟩ := h
  exact ⟨A, c, e, h1, h2, h3, f A h4⟩
theorem Bs.below {B : Nat} (h : Bs w lo hi v l) (hb : Below B w w') (hB : hi ≤ B) : Bs w' lo hi v l := h.of fun _ h => Sl.below h hb hB
theorem Bs.grown {row : Option Nat} (h : Bs w lo hi v l) (hg : w.grownBy w' row) (hB : hi ≤ w.heap.size) (hr : ∀ k, row = some k → k < lo ∨ hi ≤ k) : Bs w' lo hi v l := h.of fun _ h => Sl.grown h hg hB hr
theorem Bs.alloc (h : Bs w lo hi v l) (hB : hi ≤ w.heap.size) (o : Obj) : Bs (w.alloc o) lo hi v l := h.of fun _ h => Sl.alloc h hB o
theorem Bs.setCell (h : Bs w lo hi v l) {p : Addr} (hp : p.block < lo ∨ hi ≤ p.block) (u : Value) : Bs (w.setCell p u) lo hi v l := h.of fun _ h => Sl.setCell h hp u
theorem Bs.wide (h : Bs w lo hi v l) {lo' hi' : Nat} (h1 : lo' ≤ lo) (h2 : hi ≤ hi') : Bs w lo' hi' v l := by
  obtain ⟨A, c, e, h3, h4, h5, h6⟩ := h
  exact ⟨A, c, e, h3, h4, h5, Sl.wide h6 h1 h2⟩
theorem Bs.of_own {base e n : Nat} (h : w.ownsRow base e 1 v n (bv l)) : Bs w base w.heap.size v l := by
  have h0 := h
  obtain ⟨A, c, rfl, h1, h2, h3, h4⟩ := Sl.of_own h
  rw [bv_length] at h3
  subst h3
  refine ⟨A, c, rfl, h1, h2, ?_, h4⟩
  rintro rfl
  rcases h0.2 with ⟨he, _⟩ | ⟨g, cap, cur, he, _⟩
  · injection he
  · cases he
end

/-- The call's own new bytes: what a function answers that makes them. -/
def NewBy (w : World) (l : List Nat) (e : Ending) (w' : World) : Prop := ∃ v, e = .returned v ∧ w'.ownsRow w.heap.size 5 1 v l.length (bv l) ∧ Below w.heap.size w w'

theorem t5info : (Try.prog.info? 5).map (fun i => (i.zero, i.size, i.bytes)) = some (some (.int .u8 0), 1, 1) := by kernel_rfl

/-- 'out = append(out, src...)' onto a row of the call's own, the source nil, empty or not. -/
theorem wpList_addall {P : Program} {ops : Array Oper} {rest : List Oper} {o : Oper} {a : Act} {Q : Exit → Act → World → Prop} {wr : World} (hgd : o.guard = none) (s x : Operand) (t : TypeId)
    (ho : o.op = .call { callee := .builtin .append, args := #[s, x], argTypes := #[t, t] })
    (B : Nat) (e : TypeId) (i : TypeInfo) (z : Value) (bytes : Nat) (ht : P.underlying t = some (.slice e)) (hi : P.info? e = some i) (hz : i.zero = some z)
    (hsize : i.size = 1) (hby : i.bytes = bytes) (hzs : z.cells.size = 1)
    (v : Value) (n : Nat) (xs : List Value) (hs : a.eval s = v) (hown : wr.ownsRow B e 1 v n xs)
    (lo hi' : Nat) (A : Option Addr) (m c : Nat) (news : List Value) (hx : a.eval x = .slice A m c) (hnil : A = none → c = 0) (hm : news.length = m) (hsl : Sl wr lo hi' A news)
    (h1 : ∀ u ∈ news, u.oneCell' = true) (h63 : n + m ≤ maxLen) (hbytes : (n + m) * bytes ≤ 140737488355328) (hB : B ≤ wr.heap.size)
    (h : ∀ v' w', w'.ownsRow B e 1 v' (n + m) (xs ++ news) → (∀ w0, Below B w0 wr → Below B w0 w') → wpList P ops Q rest (a.put o.dst v') w') :
    wpList P ops Q (o :: rest) a wr := by
  subst hm
  rcases A with _ | ad
  · have hn : news = [] := by
      rcases hsl with h | ⟨b, o, he, _⟩
      · exact h
      · cases he
    subst hn
    obtain rfl := hnil rfl
    exact wpList_append_own_none hgd s x t ho B e i 1 ht hi v n xs hs hown hx (h v wr (by simpa using hown) fun _ hb => hb)
  · refine wpList_append_own _ hgd s x t ho B e i z 1 bytes ht hi hz hsize hby hzs (by omega) v n xs hs hown ad news.length c news hx (by simp) (fun j q hj => ?_) h1 h63 hbytes hB
      (fun v' w' h2 h3 _ => h v' w' h2 fun w0 hb => hb.grown h3 hB (fun k hk => (hown.lt k hk).1))
    rcases hsl with rfl | ⟨b, o, he, _, _, hc⟩
    · simp at hj
    · injection he with he
      subst he
      rw [addr_add]
      exact hc j q hj
end Go.Proofs.Ytcofnbeemfhcpaa
