/- Words Ord Dmap Dname Drefn Shelf Dlay Dloop Dref Dlacks, joined. -/
import Derived.Test.YtenhfphgobalfaaRows
import Derived.WalkKit
import Derived.Below
import Derived.Laws.OwnMore
import Derived.Deep.Draws
import Derived.Laws.BytesArg
import Derived.Lib.Hide
import Derived.OwnWalk
import Derived.Laws.AppendOwnNone
import Derived.Lib.AppendZerosOnto
import Derived.Lib.AppendZeros
import Derived.OrdersHeld
import Derived.Tactics
import Derived.Maps.OwnSet
import Derived.Maps.RangeWalk
import Derived.Maps.Ext
import Derived.Sort.KeysCollected
import Derived.WalkLawsBesides
import Derived.WalkSpells
import Derived.LoopTactic
import Derived.Outline
import Derived.Shelf.Bytes.SlSearch0
import Derived.Shelf.Bytes.SlEqualAll
import Derived.Shelf.Bytes.Small
import Derived.Shelf.SlIter.Nil
import Derived.Shelf.SortM.Plain
import Derived.Shelf.SortM.SortNone
import Derived.Shelf.SlMaps.Clone
import Derived.Ground.GgzProg
import Derived.Ground.SlgmProg
import Derived.Ground.SlmcProg
import Derived.Test.YtenhfphgobalfaaProg
import Derived.RangeFuncNested
import Derived.RangeFuncBound
import Derived.RangeFuncCalls
import Derived.RangeFuncLeaves
import Derived.Shelf.Abstract
import Derived.Shelf.RegionOpen
import Derived.OwnWalkIn
import Derived.TacticsInMore
import Derived.LoopNIn
import Derived.LoopIn
import Derived.Deep.LoopGhost
import Derived.RegionTactic
import Derived.ChangeAlike

/- Words for memory that this seat's proofs share: a slice that reads as a row of cells in blocks of a known interval, and what keeps it. -/
namespace Go.Proofs.Ytenhfphgobalfaa
open Go.RowKit

/-- The slice value that begins at 'A' reads as 'xs'; its cells lie in one block 'b' with 'lo ≤ b < hi'. Of no cells nothing is said. -/
def Sl (w : World) (lo hi : Nat) (A : Option Addr) (xs : List Value) : Prop :=
  xs = [] ∨ ∃ b o, A = some ⟨b, o, none⟩ ∧ lo ≤ b ∧ b < hi ∧ ∀ i u, xs[i]? = some u → w.cell? ⟨b, o + i, none⟩ = some u

theorem addr_add (b o i : Nat) : (⟨b, o, none⟩ : Addr).add i = ⟨b, o + i, none⟩ := by unfold Addr.add; split <;> simp_all

section
variable {w w' : World} {lo hi : Nat} {A : Option Addr} {xs : List Value}

theorem Sl.nil (w : World) (lo hi : Nat) (A : Option Addr) : Sl w lo hi A [] := .inl rfl

theorem Sl.at_ (h : Sl w lo hi A xs) {i : Nat} (hi' : i < xs.length) :
    ∃ b o, A = some ⟨b, o, none⟩ ∧ lo ≤ b ∧ b < hi ∧ w.cell? ⟨b, o + i, none⟩ = some xs[i] := by
  rcases h with rfl | ⟨b, o, e, h1, h2, hc⟩
  · simp at hi'
  · exact ⟨b, o, e, h1, h2, hc i _ (List.getElem?_eq_getElem hi')⟩

theorem Sl.keep (h : Sl w lo hi A xs) (hk : ∀ p : Addr, lo ≤ p.block → p.block < hi → w'.cell? p = w.cell? p) : Sl w' lo hi A xs := by
  rcases h with rfl | ⟨b, o, e, h1, h2, hc⟩
  · exact .inl rfl
  · exact .inr ⟨b, o, e, h1, h2, fun i u hu => (hk ⟨b, o + i, none⟩ h1 h2).trans (hc i u hu)⟩

theorem Sl.wide (h : Sl w lo hi A xs) {lo' hi' : Nat} (h1 : lo' ≤ lo) (h2 : hi ≤ hi') : Sl w lo' hi' A xs := by
  rcases h with rfl | ⟨b, o, e, h3, h4, hc⟩
  · exact .inl rfl
  · exact .inr ⟨b, o, e, by omega, by omega, hc⟩

theorem Sl.below {B : Nat} (h : Sl w lo hi A xs) (hb : Below B w w') (hB : hi ≤ B) : Sl w' lo hi A xs :=
  h.keep fun p _ hp => hb.cell (by omega)

theorem Sl.grown {row : Option Nat} (h : Sl w lo hi A xs) (hg : w.grownBy w' row) (hB : hi ≤ w.heap.size) (hr : ∀ k, row = some k → k < lo ∨ hi ≤ k) : Sl w' lo hi A xs :=
  h.keep fun p h1 h2 => World.cell?_of_block (hg.block p.block (by omega) (fun e => by have := hr _ e.symm; omega))

theorem Sl.alloc (h : Sl w lo hi A xs) (hB : hi ≤ w.heap.size) (o : Obj) : Sl (w.alloc o) lo hi A xs :=
  h.keep fun p _ hp => World.cell?_alloc_lt w o p (by omega)

theorem Sl.setCell (h : Sl w lo hi A xs) {p : Addr} (hp : p.block < lo ∨ hi ≤ p.block) (u : Value) : Sl (w.setCell p u) lo hi A xs :=
  h.keep fun q h1 h2 => World.cell?_setCell_other w p q u (fun e => by subst e; omega)

theorem Sl.drew (h : Sl w lo hi A xs) : Sl w.drew lo hi A xs := h
theorem Sl.drewN (h : Sl w lo hi A xs) (n : Nat) : Sl (w.drewN n) lo hi A xs := h

theorem Sl.drop (h : Sl w lo hi A xs) {k cap : Nat} (hk : k ≤ xs.length) (hc : xs.length ≤ cap) :
    Sl w lo hi (if cap = k then A else A.map (·.add k)) (xs.drop k) := by
  rcases h with rfl | ⟨b, o, rfl, h1, h2, hcell⟩
  · exact .inl (by simp)
  · by_cases hx : k = xs.length
    · exact .inl (by simp [hx])
    · rw [if_neg (by omega)]
      refine .inr ⟨b, o + k, by simp [addr_add], h1, h2, fun i u hu => ?_⟩
      rw [Nat.add_assoc]
      exact hcell _ _ (by rw [← hu, List.getElem?_drop])

theorem Sl.take (h : Sl w lo hi A xs) (k : Nat) : Sl w lo hi A (xs.take k) := by
  rcases h with rfl | ⟨b, o, e, h1, h2, hc⟩
  · exact .inl (by simp)
  · refine .inr ⟨b, o, e, h1, h2, fun i u hu => hc i u ?_⟩
    rw [List.getElem?_take] at hu
    split at hu
    · exact hu
    · cases hu

theorem Sl.of_own {base : Nat} {e : TypeId} {v : Value} {n : Nat} (h : w.ownsRow base e 1 v n xs) :
    ∃ A c, v = .slice A n c ∧ n ≤ c ∧ c ≤ maxLen ∧ xs.length = n ∧ Sl w base w.heap.size A xs := by
  rcases h with ⟨hl, ⟨rfl, rfl⟩ | ⟨g, cap, cur, rfl, hb, hh, hn, hm, hcs, rfl⟩⟩
  · exact ⟨none, 0, rfl, Nat.le_refl _, by simp [maxLen], by simpa using hl, .inl (List.eq_nil_of_length_eq_zero (by simpa using hl))⟩
  · refine ⟨some ⟨g, 0, none⟩, cap, rfl, hn, hm, by simpa using hl, .inr ⟨g, 0, rfl, hb, ?_, fun i u hu => ?_⟩⟩
    · rcases Nat.lt_or_ge g w.heap.size with h | h
      · exact h
      · rw [Array.getElem?_eq_none h] at hh; cases hh
    · rw [Nat.zero_add, cell_of_row w g i cur e (0, 0) hh]
      rw [List.getElem?_take] at hu
      split at hu
      · rw [← Array.getElem?_toList]; exact hu
      · cases hu
end

/-- Bytes as cells. -/
def bv (l : List Nat) : List Value := l.map fun n : Nat => Value.int .u8 (n : Int)
theorem bv_length (l : List Nat) : (bv l).length = l.length := by simp [bv]
theorem bv_append (l r : List Nat) : bv (l ++ r) = bv l ++ bv r := by simp [bv]
theorem bv_drop (l : List Nat) (k : Nat) : bv (l.drop k) = (bv l).drop k := by simp [bv]
theorem bv_take (l : List Nat) (k : Nat) : bv (l.take k) = (bv l).take k := by simp [bv]
theorem bv_one (l : List Nat) : ∀ u ∈ bv l, u.oneCell' = true := by
  intro u hu
  simp only [bv, List.mem_map] at hu
  obtain ⟨n, _, rfl⟩ := hu
  rfl
theorem bv_get (l : List Nat) (i : Nat) (h : i < l.length) : (bv l)[i]'(by rw [bv_length]; exact h) = .int .u8 (l[i] : Int) := by simp [bv]

/-- A slice of bytes that reads as 'l'. -/
def By (w : World) (lo hi : Nat) (A : Option Addr) (l : List Nat) : Prop := Sl w lo hi A (bv l)

theorem By.at_ {w : World} {lo hi : Nat} {A : Option Addr} {l : List Nat} (h : By w lo hi A l) {i : Nat} (hi' : i < l.length) :
    ∃ b o, A = some ⟨b, o, none⟩ ∧ lo ≤ b ∧ b < hi ∧ w.cell? ⟨b, o + i, none⟩ = some (.int .u8 (l[i] : Int)) := by
  obtain ⟨b, o, e, h1, h2, hc⟩ := Sl.at_ h (i := i) (by rw [bv_length]; exact hi')
  exact ⟨b, o, e, h1, h2, by rw [hc, bv_get l i hi']⟩

theorem By.drop {w : World} {lo hi : Nat} {A : Option Addr} {l : List Nat} (h : By w lo hi A l) {k cap : Nat} (hk : k ≤ l.length) (hc : l.length ≤ cap) :
    By w lo hi (if cap = k then A else A.map (·.add k)) (l.drop k) := by
  unfold By
  rw [bv_drop]
  exact Sl.drop h (by rw [bv_length]; exact hk) (by rw [bv_length]; exact hc)

/-- The text that bytes make. -/
def tx (l : List Nat) : ByteArray := strOfNums (l.map fun n : Nat => (n : Int))
theorem tx_inj {l r : List Nat} (hl : ∀ n ∈ l, n < 256) (hr : ∀ n ∈ r, n < 256) (h : tx l = tx r) : l = r := by
  have h1 : (tx l).data.toList = (tx r).data.toList := by rw [h]
  unfold tx at h1
  rw [strOfNums_data, strOfNums_data, List.map_map, List.map_map] at h1
  have h2 : ∀ l : List Nat, (∀ n ∈ l, n < 256) → (l.map ((fun n : Int => UInt8.ofNat n.toNat) ∘ fun n : Nat => (n : Int))).map UInt8.toNat = l := by
    intro l
    induction l with
    | nil => simp
    | cons a l ih =>
      intro hb
      have ha : a < 256 := hb a (by simp)
      have := ih (fun n hn => hb n (by simp [hn]))
      simp only [List.map_cons, List.cons.injEq]
      exact ⟨by simp [Nat.mod_eq_of_lt ha], this⟩
  rw [← h2 l hl, ← h2 r hr, h1]

section
variable {P : Program}
theorem run_text (w : World) {lo hi : Nat} {A : Option Addr} {l : List Nat} (src e : TypeId) (hs : P.underlying src = some (.slice e)) (he : P.underlying e = some (.int .u8))
    (h : By w lo hi A l) (n c : Nat) (hn : l.length = n) (dst : TypeId) (hd : P.underlying dst = some .string) :
    (convert src dst (.slice A n c)).run P w = .ok (.string (tx l)) w := by
  subst hn
  rcases h with h | ⟨b, o, rfl, _, _, hc⟩
  · have hl : l = [] := by simpa [bv] using h
    subst hl
    rw [run_convert_bytes_string w src dst e A _ c hs he hd]
    rcases A with _ | a
    · simp [Conv.bytesToString]; rfl
    · have hld : (loadCells a 0).run P w = .ok (([] : List Int).map (Value.int .u8)).toArray w := by
        simpa using run_loadCells_list (P := P) w a [] (fun j v hj => by simp at hj)
      rw [show ([] : List Nat).length = 0 from rfl, run_bytesToString w a 0 c [] hld]
      rfl
  · refine run_convert_bytes_arg w src e hs he b o l.length c (l.map fun n : Nat => (n : Int)) (by simp) (fun i hi => ?_) dst hd
    rw [hc i (.int .u8 (l[i] : Int)) (by simp [bv, List.getElem?_eq_getElem hi])]
    simp [List.getElem?_eq_getElem hi]
end

/-- 'out = append(out, u)' onto a row of the call's own: one value more at its end. -/
theorem wpList_push {P : Program} {ops : Array Oper} {rest : List Oper} {o : Oper} {a : Act} {Q : Exit → Act → World → Prop} {wr : World} (hgd : o.guard = none) (s x : Operand) (t : TypeId)
    (ho : o.op = .call { callee := .builtin .append, args := #[s, x], argTypes := #[t, t] })
    (B : Nat) (e : TypeId) (i : TypeInfo) (z : Value) (bytes : Nat) (ht : P.underlying t = some (.slice e)) (hi : P.info? e = some i) (hz : i.zero = some z)
    (hsize : i.size = 1) (hby : i.bytes = bytes) (hzs : z.cells.size = 1)
    (v : Value) (n : Nat) (xs : List Value) (hs : a.eval s = v) (hown : wr.ownsRow B e 1 v n xs) (u : Value) (hu : u.oneCell' = true)
    (hx : a.eval x = .slice (some ⟨wr.heap.size, 0, none⟩) 1 1) (h63 : n + 1 ≤ maxLen) (hbytes : (n + 1) * bytes ≤ 140737488355328) (hB : B ≤ wr.heap.size)
    (h : ∀ v' w', w'.ownsRow B e 1 v' (n + 1) (xs ++ [u]) → (∀ w0, Below B w0 wr → Below B w0 w') → wpList P ops Q rest (a.put o.dst v') w') :
    wpList P ops Q (o :: rest) a (wr.alloc (.cells #[u] e)) := by
  refine wpList_append_own _ hgd s x t ho B e i z 1 bytes ht hi hz hsize hby hzs (by omega) v n xs hs (hown.alloc _) ⟨wr.heap.size, 0, none⟩ 1 1 [u] hx rfl (fun j q hj => ?_) (fun q hq => ?_) h63 hbytes
    (Nat.le_trans hB (by simp)) (fun v' w' h2 h3 _ => h v' w' h2 fun w0 hb => ?_)
  · rcases j with _ | j
    · simp at hj
      subst hj
      rw [addr_add, World.cell?_alloc_at _ _ _ _ rfl]
      rfl
    · simp at hj
  · rw [List.mem_singleton] at hq
    subst hq
    exact hu
  · exact (hb.alloc hB _).grown h3 (Nat.le_trans hB (by simp)) (fun k hk => (hown.lt k hk).1)

/-- A slice value of bytes that reads as 'l' in blocks of the interval. -/
def Bs (w : World) (lo hi : Nat) (v : Value) (l : List Nat) : Prop :=
  ∃ A c, v = .slice A l.length c ∧ l.length ≤ c ∧ c ≤ maxLen ∧ (A = none → c = 0) ∧ By w lo hi A l
section
variable {w w' : World} {lo hi : Nat} {v : Value} {l : List Nat}
theorem Bs.nil (w : World) (lo hi : Nat) : Bs w lo hi (.slice none 0 0) [] := ⟨none, 0, rfl, Nat.le_refl _, by simp [maxLen], fun _ => rfl, Sl.nil _ _ _ _⟩
theorem Bs.of (f : ∀ A, By w lo hi A l → By w' lo hi A l) (h : Bs w lo hi v l) : Bs w' lo hi v l := by
  obtain ⟨A, c, e, h1, h2, h3, h4⟩ := h
  exact ⟨A, c, e, h1, h2, h3, f A h4⟩
theorem Bs.below {B : Nat} (h : Bs w lo hi v l) (hb : Below B w w') (hB : hi ≤ B) : Bs w' lo hi v l := h.of fun _ h => Sl.below h hb hB
theorem Bs.grown {row : Option Nat} (h : Bs w lo hi v l) (hg : w.grownBy w' row) (hB : hi ≤ w.heap.size) (hr : ∀ k, row = some k → k < lo ∨ hi ≤ k) : Bs w' lo hi v l := h.of fun _ h => Sl.grown h hg hB hr
theorem Bs.alloc (h : Bs w lo hi v l) (hB : hi ≤ w.heap.size) (o : Obj) : Bs (w.alloc o) lo hi v l := h.of fun _ h => Sl.alloc h hB o
theorem Bs.setCell (h : Bs w lo hi v l) {p : Addr} (hp : p.block < lo ∨ hi ≤ p.block) (u : Value) : Bs (w.setCell p u) lo hi v l := h.of fun _ h => Sl.setCell h hp u
theorem Bs.wide (h : Bs w lo hi v l) {lo' hi' : Nat} (h1 : lo' ≤ lo) (h2 : hi ≤ hi') : Bs w lo' hi' v l := by
  obtain ⟨A, c, e, h3, h4, h5, h6⟩ := h
  exact ⟨A, c, e, h3, h4, h5, Sl.wide h6 h1 h2⟩
theorem Bs.of_own {base e n : Nat} (h : w.ownsRow base e 1 v n (bv l)) : Bs w base w.heap.size v l := by
  have h0 := h
  obtain ⟨A, c, rfl, h1, h2, h3, h4⟩ := Sl.of_own h
  rw [bv_length] at h3
  subst h3
  refine ⟨A, c, rfl, h1, h2, ?_, h4⟩
  rintro rfl
  rcases h0.2 with ⟨he, _⟩ | ⟨g, cap, cur, he, _⟩
  · injection he
  · cases he
end

/-- The call's own new bytes: what a function answers that makes them. -/
def NewBy (w : World) (l : List Nat) (e : Ending) (w' : World) : Prop := ∃ v, e = .returned v ∧ w'.ownsRow w.heap.size 5 1 v l.length (bv l) ∧ Below w.heap.size w w'

theorem t5info : (Try.prog.info? 5).map (fun i => (i.zero, i.size, i.bytes)) = some (some (.int .u8 0), 1, 1) := by kernel_rfl

/-- 'out = append(out, src...)' onto a row of the call's own, the source nil, empty or not. -/
theorem wpList_addall {P : Program} {ops : Array Oper} {rest : List Oper} {o : Oper} {a : Act} {Q : Exit → Act → World → Prop} {wr : World} (hgd : o.guard = none) (s x : Operand) (t : TypeId)
    (ho : o.op = .call { callee := .builtin .append, args := #[s, x], argTypes := #[t, t] })
    (B : Nat) (e : TypeId) (i : TypeInfo) (z : Value) (bytes : Nat) (ht : P.underlying t = some (.slice e)) (hi : P.info? e = some i) (hz : i.zero = some z)
    (hsize : i.size = 1) (hby : i.bytes = bytes) (hzs : z.cells.size = 1)
    (v : Value) (n : Nat) (xs : List Value) (hs : a.eval s = v) (hown : wr.ownsRow B e 1 v n xs)
    (lo hi' : Nat) (A : Option Addr) (m c : Nat) (news : List Value) (hx : a.eval x = .slice A m c) (hnil : A = none → c = 0) (hm : news.length = m) (hsl : Sl wr lo hi' A news)
    (h1 : ∀ u ∈ news, u.oneCell' = true) (h63 : n + m ≤ maxLen) (hbytes : (n + m) * bytes ≤ 140737488355328) (hB : B ≤ wr.heap.size)
    (h : ∀ v' w', w'.ownsRow B e 1 v' (n + m) (xs ++ news) → (∀ w0, Below B w0 wr → Below B w0 w') → wpList P ops Q rest (a.put o.dst v') w') :
    wpList P ops Q (o :: rest) a wr := by
  subst hm
  rcases A with _ | ad
  · have hn : news = [] := by
      rcases hsl with h | ⟨b, o, he, _⟩
      · exact h
      · cases he
    subst hn
    obtain rfl := hnil rfl
    exact wpList_append_own_none hgd s x t ho B e i 1 ht hi v n xs hs hown hx (h v wr (by simpa using hown) fun _ hb => hb)
  · refine wpList_append_own _ hgd s x t ho B e i z 1 bytes ht hi hz hsize hby hzs (by omega) v n xs hs hown ad news.length c news hx (by simp) (fun j q hj => ?_) h1 h63 hbytes hB
      (fun v' w' h2 h3 _ => h v' w' h2 fun w0 hb => hb.grown h3 hB (fun k hk => (hown.lt k hk).1))
    rcases hsl with rfl | ⟨b, o, he, _, _, hc⟩
    · simp at hj
    · injection he with he
      subst he
      rw [addr_add]
      exact hc j q hj
end Go.Proofs.Ytenhfphgobalfaa

/- A region that draws its order, walked in the order of its text: an operation that reads may come whenever it likes, for what it reads stays as it is in every later world; what makes memory comes up alone. -/
namespace Go.Proofs.Ytenhfphgobalfaa
open Go.RowKit

/-- A later world: what was there is as it was. -/
def Ext (w w' : World) : Prop := Below w.heap.size w w'
theorem Ext.refl (w : World) : Ext w w := Below.refl _ _
theorem Ext.trans {a b c : World} (h : Ext a b) (k : Ext b c) : Ext a c := Below.trans h (Below.mono k h.size)
theorem Ext.drew (w : World) : Ext w w.drew := (Below.refl _ _).drew

section
variable {P : Program} {ops : Array Oper} {Q : Exit → Act → World → Prop}

/-- Whatever comes up next, the world behind it is a later one, and so on. -/
def Later (P : Program) (ops : Array Oper) (Q : Exit → Act → World → Prop) : Nat → Array Bool → Act → World → Prop
  | 0, seen, a, w => Region.ready .any ops seen = [] ∧ Q .normal a w
  | n + 1, seen, a, w => (Region.ready .any ops seen = [] → Q .normal a w) ∧
      ∀ i ∈ Region.ready .any ops seen, wpOp P ops Q i (fun b u => Ext w u ∧ Later P ops Q n (seen.setIfInBounds i true) b u) a w

theorem Later.any : ∀ (n : Nat) (seen : Array Bool) (a : Act) (w : World), Later P ops Q n seen a w → wpAny P .any ops Q n seen a w := by
  intro n
  induction n with
  | zero => intro seen a w h; exact h
  | succ n ih => intro seen a w h; exact ⟨h.1, fun i hi => wpOp_mono (fun b u hb => ih _ b u hb.2) (h.2 i hi)⟩

theorem yields_later {o : Oper} {v : Value} {a : Act} {w u : World} (h : YieldsIf P ops (Ext w) o v a) (hu : Ext w u) : YieldsIf P ops (Ext u) o v a := by
  rcases h with ⟨h1, h2⟩ | h
  · exact .inl ⟨h1, fun x hx => h2 x (hu.trans hx)⟩
  · exact .inr h

/-- A reading may be done first. -/
theorem Later.first {i : Nat} {oi : Oper} {v : Value} (hi : ops[i]? = some oi) (hsel : Region.noSelect ops = true) (hQ : ∀ c a w, Q (.panic c) (a.put oi.dst v) w → Q (.panic c) a w) :
    ∀ (n : Nat) (seen : Array Bool) (a : Act) (w : World), Region.free .any ops seen i = true → i ∈ Region.ready .any ops seen → YieldsIf P ops (Ext w) oi v a →
      (∀ j oj, ops[j]? = some oj → j ≠ i → seen.getD j true = false → (∀ e ∈ oj.after, Region.binds .any e = true → e.on ≠ i) → oi.apart ops oj = true) →
      Later P ops Q n (seen.setIfInBounds i true) (a.put oi.dst v) w → Later P ops Q (n + 1) seen a w := by
  intro n
  induction n with
  | zero =>
    intro seen a w _ hr hy _ H
    refine ⟨fun h => absurd hr (by rw [h]; simp), fun j hj => ?_⟩
    rcases Decidable.em (j = i) with e | e
    · subst e
      exact YieldsIf.wpOp hi hy (Ext.refl w) ⟨Ext.refl w, H⟩
    · have h1 := ready_mono hj e
      rw [H.1] at h1
      cases h1
  | succ n ih =>
    intro seen a w hf hr hy hap H
    refine ⟨fun h => absurd hr (by rw [h]; simp), fun j hj => ?_⟩
    rcases Decidable.em (j = i) with e | e
    · subst e
      exact YieldsIf.wpOp hi hy (Ext.refl w) ⟨Ext.refl w, H⟩
    · obtain ⟨hun, oj, hoj, hall⟩ := mem_ready.1 hj
      have hun' : seen.getD i false = false := by
        have h0 := (mem_ready.1 hr).1
        rcases Nat.lt_or_ge i seen.size with hlt | hge
        · simp [hlt] at h0 ⊢; exact h0
        · simp [Array.getElem?_eq_none hge]
      have hno : ∀ e ∈ oj.after, Region.binds .any e = true → e.on ≠ i := fun x hx hb heq => by
        have := hall x hx hb
        rw [heq, hun'] at this
        cases this
      have h2 := wpOp_putIf hoj (hap j oj hoj e hun hno) (fun cs b => Region.noSelect_spec hsel i oi cs b hi) (fun cs b => Region.noSelect_spec hsel j oj cs b hoj) hQ hy (H.2 j (ready_mono hj e))
      have hap' : ∀ k ok, ops[k]? = some ok → k ≠ i → (seen.setIfInBounds j true).getD k true = false → (∀ e ∈ ok.after, Region.binds .any e = true → e.on ≠ i) → oi.apart ops ok = true := by
        intro k ok hk hki hku hkn
        rcases Decidable.em (j = k) with ejk | ejk
        · subst ejk; exact hap j ok hk hki hun hkn
        · rw [getD_set_ne true ejk] at hku; exact hap k ok hk hki hku hkn
      have hr' := ready_mono hr (Ne.symm e)
      have hf' : Region.free .any ops (seen.setIfInBounds j true) i = true := by
        simp only [Region.free, hi, List.all_eq_true, List.mem_range] at hf ⊢
        intro k hk
        rcases Decidable.em (j = k) with ejk | ejk
        · subst ejk
          have : (seen.setIfInBounds j true).getD j true = true := by
            rcases Nat.lt_or_ge j seen.size with hlt | hge
            · simp [hlt]
            · simp [hge]
          simp [this]
        · rw [getD_set_ne true ejk]; exact hf k hk
      refine wpOp_mono (fun b u h3 => ⟨h3.2.1, ih _ b u hf' hr' (yields_later h3.1 h3.2.1) hap' ?_⟩) h2
      rw [Array.setIfInBounds_comm _ _ e]
      exact h3.2.2

/-- The first k have come up. -/
def Done (n k : Nat) : Array Bool := (Array.range n).map fun i => decide (i < k)
theorem Done.zero (n : Nat) : Done n 0 = Array.replicate n false := by
  apply Array.ext
  · simp [Done]
  · intro i h1 h2; simp [Done]
theorem Done.succ {n k : Nat} (_hk : k < n) : (Done n k).setIfInBounds k true = Done n (k + 1) := by
  apply Array.ext
  · simp [Done]
  · intro i h1 h2
    rw [Array.getElem_setIfInBounds]
    · simp [Done]
      rw [Bool.eq_iff_iff]
      simp
      omega
    · simpa [Done] using h1

/-- From the k-th operation on, in the order of the text. -/
def From (P : Program) (ops : Array Oper) (Q : Exit → Act → World → Prop) (k : Nat) (rest : List Oper) (a : Act) (w : World) : Prop :=
  ops.toList.drop k = rest → Later P ops Q (ops.size - k) (Done ops.size k) a w

theorem From.here {k : Nat} {o : Oper} {rest : List Oper} (h : ops.toList.drop k = o :: rest) : k < ops.size ∧ ops[k]? = some o ∧ ops.toList.drop (k + 1) = rest := by
  have hk : k < ops.toList.length := by
    rcases Nat.lt_or_ge k ops.toList.length with hlt | hge
    · exact hlt
    · rw [List.drop_of_length_le hge] at h; cases h
  rw [List.drop_eq_getElem_cons hk] at h
  injection h with h1 h2
  refine ⟨by simpa using hk, ?_, h2⟩
  rw [← Array.getElem?_toList, List.getElem?_eq_getElem hk, h1]

theorem From.read {k : Nat} {o : Oper} {rest : List Oper} {v : Value} {a : Act} {w : World} (hsel : Region.noSelect ops = true) (hf : Region.free .any ops (Done ops.size k) k = true) (hr : (Region.ready .any ops (Done ops.size k)).contains k = true)
    (hQ : ∀ c a w, Q (.panic c) (a.put o.dst v) w → Q (.panic c) a w) (hy : YieldsIf P ops (Ext w) o v a) (h : From P ops Q (k + 1) rest (a.put o.dst v) w) : From P ops Q k (o :: rest) a w := by
  intro hd
  obtain ⟨hk, ho, hrest⟩ := From.here hd
  have h1 := h hrest
  rw [← Done.succ hk] at h1
  have e : ops.size - k = (ops.size - (k + 1)) + 1 := by omega
  rw [e]
  exact Later.first ho hsel hQ _ _ a w hf (by simpa using hr) hy (Region.free_spec ho hf) h1

theorem From.make {k : Nat} {o : Oper} {rest : List Oper} {a : Act} {w : World} (hr : Region.ready .any ops (Done ops.size k) = [k])
    (h : ∀ K : Act → World → Prop, (∀ b u, Ext w u → From P ops Q (k + 1) rest b u → K b u) → if Region.wanted o (yielded ops a.tmps) = true then Oper.wp P o a w K Q else K (a.put o.dst undef) w) : From P ops Q k (o :: rest) a w := by
  intro hd
  obtain ⟨hk, ho, hrest⟩ := From.here hd
  have e : ops.size - k = (ops.size - (k + 1)) + 1 := by omega
  rw [e]
  refine ⟨fun h0 => (by rw [hr] at h0; cases h0), fun j hj => ?_⟩
  rw [hr] at hj
  simp at hj
  subst hj
  have h1 := h (fun b u => Ext w u ∧ Later P ops Q (ops.size - (j + 1)) ((Done ops.size j).setIfInBounds j true) b u) (fun b u hu hb => ⟨hu, by rw [Done.succ hk]; exact hb hrest⟩)
  unfold wpOp
  simp only [ho]
  split
  · rename_i hw; rw [if_pos hw] at h1; exact .inl h1
  · rename_i hw; rw [if_neg hw] at h1; exact h1

theorem From.done {k : Nat} {a : Act} {w : World} (hr : Region.ready .any ops (Done ops.size k) = []) (h : Q .normal a w) : From P ops Q k [] a w := by
  intro _
  cases ops.size - k with
  | zero => exact ⟨hr, h⟩
  | succ n => exact ⟨fun _ => h, fun i hi => by rw [hr] at hi; cases hi⟩

theorem From.start {id : Nat} {a : Act} {w : World} (hm : P.follows .mixedOrders = true) (h : From P ops Q 0 ops.toList a w.drew) : (Code.region id ops true).wp P Q a w := by
  refine wp_region_any hm (Later.any _ _ _ _ ?_)
  have h1 := h rfl
  rw [Done.zero] at h1
  exact h1
end
end Go.Proofs.Ytenhfphgobalfaa

/- What a disk's memory is: a cell for its room, a map of files, and for each file a row of bytes of its own; and what keeps it. -/
namespace Go.Proofs.Ytenhfphgobalfaa
open Go.RowKit Go.Maps

/-- A file, by its words: its name, its bytes, how many of them last. -/
structure Fl where
  name : List UInt8
  data : List Nat
  lasts : Nat

/-- A world in which no block but those of S, and new ones, is another. -/
structure Chg (S : Nat → Prop) (w w' : World) : Prop where
  os : w'.os = w.os
  tape : w'.tape = w.tape
  output : w'.output = w.output
  size : w.heap.size ≤ w'.heap.size
  block : ∀ k, k < w.heap.size → ¬ S k → w'.heap[k]? = w.heap[k]?

section
variable {S S' : Nat → Prop} {w w' w'' : World}
theorem Chg.refl (S : Nat → Prop) (w : World) : Chg S w w := ⟨rfl, rfl, rfl, Nat.le_refl _, fun _ _ _ => rfl⟩
theorem Chg.trans (h : Chg S w w') (k : Chg S w' w'') : Chg S w w'' :=
  ⟨k.os.trans h.os, k.tape.trans h.tape, k.output.trans h.output, Nat.le_trans h.size k.size, fun i hi hs => (k.block i (Nat.lt_of_lt_of_le hi h.size) hs).trans (h.block i hi hs)⟩
theorem Chg.mono (h : Chg S w w') (hS : ∀ k, k < w.heap.size → S k → S' k) : Chg S' w w' := ⟨h.os, h.tape, h.output, h.size, fun i hi hs => h.block i hi (fun x => hs (hS i hi x))⟩
/-- A step that touches what is new since, too. -/
theorem Chg.trans_new (h : Chg S w w') (k : Chg S' w' w'') (hS : ∀ i, i < w.heap.size → S' i → S i) : Chg S w w'' :=
  ⟨k.os.trans h.os, k.tape.trans h.tape, k.output.trans h.output, Nat.le_trans h.size k.size, fun i hi hs => (k.block i (Nat.lt_of_lt_of_le hi h.size) (fun x => hs (hS i hi x))).trans (h.block i hi hs)⟩
theorem Chg.of_below (h : Below w.heap.size w w') : Chg S w w' := ⟨h.os, h.tape, h.output, h.size, fun i hi _ => h.block i hi⟩
theorem Chg.of_ext (h : Ext w w') : Chg S w w' := Chg.of_below h
theorem Chg.below {B : Nat} (h : Chg S w w') (hS : ∀ k, S k → B ≤ k) (hB : B ≤ w.heap.size) : Below B w w' := ⟨h.os, h.tape, h.output, h.size, fun i hi => h.block i (by omega) (fun x => by have := hS i x; omega)⟩
theorem Chg.grown {row : Option Nat} (hg : w.grownBy w' row) (hr : ∀ k, row = some k → S k) : Chg S w w' := ⟨hg.os, hg.tape, hg.output, hg.size, fun i hi hs => hg.block i hi (fun e => hs (hr i e.symm))⟩
theorem Chg.setCell (w : World) (p : Addr) (u : Value) (hp : S p.block) : Chg S w (w.setCell p u) := ⟨rfl, rfl, rfl, by simp [World.setCell], fun i _ hs => Below.heap_setCell _ _ _ _ (fun e => hs (e ▸ hp))⟩
theorem Chg.alloc (w : World) (o : Obj) : Chg S w (w.alloc o) := Chg.of_below ((Below.refl _ _).alloc (Nat.le_refl _) _)
theorem Chg.drew (w : World) : Chg S w w.drew := Chg.of_below (Below.refl _ _).drew
theorem Chg.nothing (h : Chg (fun _ => False) w w') : Below w.heap.size w w' := ⟨h.os, h.tape, h.output, h.size, fun i hi => h.block i hi id⟩
end

/-- A row of the call's own stays where its block stays. -/
theorem row_kept {w w' : World} {base : Nat} {e : TypeId} {n : Nat} {v : Value} {xs : List Value} (h : w.ownsRow base e 1 v n xs) (hk : ∀ g, v.ownBlock = some g → w'.heap[g]? = w.heap[g]?) : w'.ownsRow base e 1 v n xs := by
  obtain ⟨h1, h2⟩ := h
  refine ⟨h1, ?_⟩
  rcases h2 with h2 | ⟨g, cap, cur, hv, hg, hh, r⟩
  · exact Or.inl h2
  · exact Or.inr ⟨g, cap, cur, hv, hg, (hk g (by rw [hv]; rfl)).trans hh, r⟩
theorem row_lt {w : World} {base : Nat} {e : TypeId} {n : Nat} {v : Value} {xs : List Value} (h : w.ownsRow base e 1 v n xs) : ∀ g, v.ownBlock = some g → base ≤ g ∧ g < w.heap.size := by
  intro g hg
  rcases h.2 with ⟨rfl, _⟩ | ⟨g', cap, cur, hv, hb, hh, r⟩
  · cases hg
  · rw [hv] at hg
    injection hg with hg
    subst hg
    exact ⟨hb, (Array.getElem?_eq_some_iff.1 hh).1⟩

/-- A file's value. -/
def fv (A : Option Addr) (n c : Nat) (x : Int) : Value := .agg #[.slice A n c, .int .i64 x]
/-- Is this one? -/
def isF : Value → Bool
  | .agg a => a.size == 2 && (match a.getD 0 undef with | .slice _ _ _ => true | _ => false) && (match a.getD 1 undef with | .int k _ => k == .i64 | _ => false)
  | _ => false
/-- How a file in the map reads: as itself. -/
def rdf (v : Value) : Option (DataW Value × List MemPlace) := if isF v then some (.held v, []) else none
theorem rdf_mk (A : Option Addr) (n c : Nat) (x : Int) : rdf (fv A n c x) = some (.held (fv A n c x), []) := if_pos rfl
theorem rdf_inv {v : Value} {y : DataW Value × List MemPlace} (h : rdf v = some y) : ∃ A n c x, v = fv A n c x ∧ y = (.held v, []) := by
  unfold rdf at h
  split at h
  · rename_i hf
    injection h with h
    cases v <;> simp only [isF, Bool.false_eq_true] at hf
    rename_i a
    rw [Bool.and_eq_true, Bool.and_eq_true, beq_iff_eq] at hf
    obtain ⟨⟨h2, h0⟩, h1⟩ := hf
    obtain ⟨x, y', rfl⟩ : ∃ x y', a = #[x, y'] := by
      obtain ⟨l⟩ := a
      match l, h2 with
      | [x, y'], _ => exact ⟨x, y', rfl⟩
    cases x <;> simp at h0
    cases y' <;> simp at h1
    subst h1
    exact ⟨_, _, _, _, rfl, h.symm⟩
  · cases h

theorem lawS : Keyed Try.prog 9 := string_keyed Try.underlying9
theorem zeroF (w : World) : (zeroValue 92).run Try.prog w = .ok (fv none 0 0 0) w := by kernel_rfl

/-- The map says just these files, under the values V. -/
structure Con (D : DataW Value) (F : List Fl) (V : List UInt8 → Value) : Prop where
  tidy : Tidy D
  size : size D = F.length
  has : ∀ n, has D (.string n) = true ↔ ∃ f ∈ F, f.name = n
  at_ : ∀ f ∈ F, ∀ z, D.atKey (.string f.name) z = .held (V f.name)
  nodup : (F.map Fl.name).Nodup

/-- A file's bytes lie in a row of its own, of the blocks S. -/
structure FileAt (w : World) (S : Nat → Prop) (B : Nat) (f : Fl) (v : Value) : Prop where
  ex : ∃ u, v = .agg #[u, .int .i64 (f.lasts : Int)] ∧ w.ownsRow B 5 1 u f.data.length (bv f.data) ∧ ∀ g, u.ownBlock = some g → S g
  lasts : f.lasts ≤ f.data.length
  bytes : ∀ b ∈ f.data, b < 256

/-- The block of a file's bytes. -/
def blk : Value → Option Nat
  | .agg a => match a[0]? with | some u => u.ownBlock | none => none
  | _ => none
theorem blk_mk (u x : Value) : blk (.agg #[u, x]) = u.ownBlock := rfl

/-- How many bytes files have. -/
def tot (F : List Fl) : Nat := (F.map fun f => f.data.length).sum
/-- A name that may be. -/
def good (n : List UInt8) : Bool := decide (1 ≤ n.length) && decide (n.length ≤ 32) && n.all fun c => decide (33 ≤ c.toNat) && decide (c.toNat ≤ 126)

/-- Block d is a disk, in the blocks S from B on. -/
structure Disk (w : World) (S : Nat → Prop) (B d room : Nat) (F : List Fl) : Prop where
  ex : ∃ m D V, w.heap[d]? = some (.cells #[.int .i64 (room : Int), .map (some m)] 79 (0, 0)) ∧ w.ownsMap Try.prog 9 rdf m F.length D ∧ Con D F V ∧ (∀ f ∈ F, FileAt w S B f (V f.name)) ∧
    (∀ f ∈ F, ∀ g ∈ F, f.name ≠ g.name → ∀ b, blk (V f.name) = some b → blk (V g.name) ≠ some b) ∧ S m ∧ B ≤ m
  mine : S d
  base : B ≤ d
  lo : 1024 ≤ room
  hi : room ≤ 1048576
  tot : tot F ≤ room
  cnt : F.length ≤ 128
  names : ∀ f ∈ F, good f.name = true

theorem Con.perm {D : DataW Value} {F F' : List Fl} {V : List UInt8 → Value} (h : Con D F V) (p : F.Perm F') : Con D F' V :=
  ⟨h.tidy, by rw [h.size, p.length_eq], fun n => by rw [h.has]; simp [p.mem_iff], fun f hf => h.at_ f (p.mem_iff.2 hf), (p.map _).nodup_iff.1 h.nodup⟩
theorem tot_perm {F F' : List Fl} (p : F.Perm F') : tot F = tot F' := (p.map _).sum_nat
theorem Disk.perm {w : World} {S : Nat → Prop} {B d room : Nat} {F F' : List Fl} (h : Disk w S B d room F) (p : F.Perm F') : Disk w S B d room F' := by
  obtain ⟨⟨m, D, V, h1, h2, h3, h4, h5, h6, h7⟩, a, b, c, e, f, g, i⟩ := h
  exact ⟨⟨m, D, V, h1, by rw [← p.length_eq]; exact h2, h3.perm p, fun x hx => h4 x (p.mem_iff.2 hx), fun x hx y hy => h5 x (p.mem_iff.2 hx) y (p.mem_iff.2 hy), h6, h7⟩, a, b, c, e, by rw [← tot_perm p]; exact f, by rw [← p.length_eq]; exact g, fun x hx => i x (p.mem_iff.2 hx)⟩

theorem FileAt.kept {w w' : World} {S : Nat → Prop} {B : Nat} {f : Fl} {v : Value} (h : FileAt w S B f v) (hk : ∀ g, S g → g < w.heap.size → w'.heap[g]? = w.heap[g]?) : FileAt w' S B f v := by
  obtain ⟨⟨u, e, hr, hs⟩, a, b⟩ := h
  exact ⟨⟨u, e, row_kept hr (fun g hg => hk g (hs g hg) (row_lt hr g hg).2), hs⟩, a, b⟩
theorem map_kept {w w' : World} {R : Value → Option (DataW Value × List MemPlace)} {k : TypeId} {m n : Nat} {D : DataW Value} (h : w.ownsMap Try.prog k R m n D) (hk : w'.heap[m]? = w.heap[m]?) : w'.ownsMap Try.prog k R m n D := by
  obtain ⟨es, clock, hb, r⟩ := h
  exact ⟨es, clock, hk.trans hb, r⟩
/-- A disk stays while none of its blocks is written. -/
theorem Disk.kept {w w' : World} {S T : Nat → Prop} {B d room : Nat} {F : List Fl} (h : Disk w S B d room F) (hc : Chg T w w') (hd : ∀ k, S k → ¬ T k) : Disk w' S B d room F := by
  obtain ⟨⟨m, D, V, h1, h2, h3, h4, h5, h6, h7⟩, a, b, c, e, f, g, i⟩ := h
  have hk : ∀ k, S k → k < w.heap.size → w'.heap[k]? = w.heap[k]? := fun k hk hl => hc.block k hl (hd k hk)
  exact ⟨⟨m, D, V, (hk d a (Array.getElem?_eq_some_iff.1 h1).1).trans h1, map_kept h2 (hk m h6 h2.lt), h3, fun x hx => (h4 x hx).kept hk, h5, h6, h7⟩, a, b, c, e, f, g, i⟩
theorem Disk.ext {w w' : World} {S : Nat → Prop} {B d room : Nat} {F : List Fl} (h : Disk w S B d room F) (hc : Ext w w') : Disk w' S B d room F := h.kept (Chg.of_below (S := fun _ => False) hc) (fun _ _ x => x)
theorem Disk.wide {w : World} {S S' : Nat → Prop} {B d room : Nat} {F : List Fl} (h : Disk w S B d room F) (hS : ∀ k, S k → S' k) : Disk w S' B d room F := by
  obtain ⟨⟨m, D, V, h1, h2, h3, h4, h5, h6, h7⟩, a, b, c, e, f, g, i⟩ := h
  exact ⟨⟨m, D, V, h1, h2, h3, fun x hx => by obtain ⟨⟨u, q1, q2, q3⟩, q4, q5⟩ := h4 x hx; exact ⟨⟨u, q1, q2, fun g hg => hS g (q3 g hg)⟩, q4, q5⟩, h5, hS m h6, h7⟩, hS d a, b, c, e, f, g, i⟩

/-- Two files of one name are one. -/
theorem same_file {F : List Fl} (h : (F.map Fl.name).Nodup) {f g : Fl} (hf : f ∈ F) (hg : g ∈ F) (e : f.name = g.name) : f = g := by
  induction F with
  | nil => cases hf
  | cons x F ih =>
    rw [List.map_cons, List.nodup_cons] at h
    rcases List.mem_cons.1 hf with rfl | hf' <;> rcases List.mem_cons.1 hg with rfl | hg'
    · rfl
    · exact absurd (List.mem_map.2 ⟨g, hg', e.symm⟩) h.1
    · exact absurd (List.mem_map.2 ⟨f, hf', e⟩) h.1
    · exact ih h.2 hf' hg'

/-- The files without one. -/
def del (F : List Fl) (n : List UInt8) : List Fl := F.filter fun g => g.name != n
/-- The files with one more, or another one in its place. -/
def upd (F : List Fl) (f : Fl) : List Fl := f :: del F f.name
theorem mem_del {F : List Fl} {n : List UInt8} {f : Fl} : f ∈ del F n ↔ f ∈ F ∧ f.name ≠ n := by simp [del]
theorem del_none {F : List Fl} {n : List UInt8} (h : ¬ ∃ f ∈ F, f.name = n) : del F n = F := List.filter_eq_self.2 fun g hg => by simp; exact fun e => h ⟨g, hg, e⟩
theorem del_nodup {F : List Fl} {n : List UInt8} (h : (F.map Fl.name).Nodup) : ((del F n).map Fl.name).Nodup := (List.filter_sublist.map Fl.name).nodup h
theorem del_perm {F : List Fl} (h : (F.map Fl.name).Nodup) {f : Fl} (hf : f ∈ F) : F.Perm (f :: del F f.name) := by
  induction F with
  | nil => cases hf
  | cons x F ih =>
    rw [List.map_cons, List.nodup_cons] at h
    rcases List.mem_cons.1 hf with rfl | hf'
    · have : del (f :: F) f.name = F := by
        unfold del
        rw [List.filter_cons_of_neg (by simp)]
        exact List.filter_eq_self.2 fun g hg => by simp; exact fun e => h.1 (List.mem_map.2 ⟨g, hg, e⟩)
      rw [this]
    · have hne : x.name ≠ f.name := fun e => h.1 (List.mem_map.2 ⟨f, hf', e.symm⟩)
      have : del (x :: F) f.name = x :: del F f.name := by unfold del; rw [List.filter_cons_of_pos (by simpa using hne)]
      rw [this]
      exact ((ih h.2 hf').cons x).trans (List.Perm.swap _ _ _)

/-- The values with another one. -/
def vset (V : List UInt8 → Value) (n : List UInt8) (v : Value) : List UInt8 → Value := fun k => if k = n then v else V k

theorem lit_ne {a b : List UInt8} (h : a ≠ b) : Lit.string a ≠ Lit.string b := fun e => h (by injection e)
theorem keyLit {s : ByteArray} (hs : s.size ≤ maxLen) : WideAt.IsKeyLit (.string s.data.toList) := lawS.key (WideMaps.keyOf_string_mk (s := s) Try.underlying9 hs)

theorem Con.put {D : DataW Value} {F : List Fl} {V : List UInt8 → Value} (h : Con D F V) (f : Fl) (v : Value) (hk : WideAt.IsKeyLit (.string f.name)) : Con (D.put (.string f.name) (.held v)) (upd F f) (vset V f.name v) := by
  have hs := size_put h.tidy (k := .string f.name) (.held v)
  refine ⟨h.tidy.put hk _, ?_, fun n => ?_, fun g hg z => ?_, ?_⟩
  · rw [hs]
    by_cases hh : Maps.has D (.string f.name) = true
    · rw [if_pos hh]
      obtain ⟨g, hg, e⟩ := (h.has _).1 hh
      have := (del_perm h.nodup hg).length_eq
      rw [e] at this
      rw [h.size, this]; simp [upd]
    · rw [if_neg hh]
      have : del F f.name = F := del_none fun hx => hh ((h.has _).2 hx)
      simp [upd, this, h.size]
  · by_cases e : n = f.name
    · subst e
      rw [has_put_same h.tidy.isMap hk]
      simp [upd]
    · rw [has_put_other (lit_ne e), h.has]
      constructor
      · rintro ⟨g, hg, rfl⟩; exact ⟨g, List.mem_cons_of_mem _ (mem_del.2 ⟨hg, e⟩), rfl⟩
      · rintro ⟨g, hg, rfl⟩
        rcases List.mem_cons.1 hg with rfl | hg'
        · exact absurd rfl e
        · exact ⟨g, (mem_del.1 hg').1, rfl⟩
  · rcases List.mem_cons.1 hg with rfl | hg'
    · rw [atKey_put_same h.tidy.isMap hk]; simp [vset]
    · have hne := (mem_del.1 hg').2
      rw [atKey_put_other (lit_ne hne), h.at_ g (mem_del.1 hg').1]
      simp [vset, hne]
  · unfold upd
    rw [List.map_cons, List.nodup_cons]
    refine ⟨fun hm => ?_, del_nodup h.nodup⟩
    obtain ⟨g, hg, e⟩ := List.mem_map.1 hm
    exact (mem_del.1 hg).2 e

theorem Con.drop {D : DataW Value} {F : List Fl} {V : List UInt8 → Value} (h : Con D F V) (n : List UInt8) : Con (D.del (.string n)) (del F n) V := by
  have hs := size_del h.tidy (k := .string n)
  refine ⟨h.tidy.del _, ?_, fun k => ?_, fun g hg z => ?_, del_nodup h.nodup⟩
  · by_cases hh : Maps.has D (.string n) = true
    · obtain ⟨g, hg, rfl⟩ := (h.has _).1 hh
      have := (del_perm h.nodup hg).length_eq
      rw [if_pos hh, h.size, this] at hs
      simp at hs
      exact hs
    · rw [if_neg hh, h.size] at hs
      rw [del_none fun hx => hh ((h.has _).2 hx)]
      exact hs
  · by_cases e : k = n
    · subst e
      rw [has_del_same]
      constructor
      · intro h; cases h
      · rintro ⟨g, hg, e⟩; exact absurd e (mem_del.1 hg).2
    · rw [has_del_other (lit_ne e), h.has]
      constructor
      · rintro ⟨g, hg, rfl⟩; exact ⟨g, mem_del.2 ⟨hg, e⟩, rfl⟩
      · rintro ⟨g, hg, rfl⟩; exact ⟨g, (mem_del.1 hg).1, rfl⟩
  · have := mem_del.1 hg
    rw [atKey_del_other (lit_ne this.2), h.at_ g this.1]

/-- As many entries as the datum says. -/
theorem own_exact {w : World} {k : TypeId} {R : Value → Option (DataW Value × List MemPlace)} {m n : Nat} {D : DataW Value} (h : w.ownsMap Try.prog k R m n D) : w.ownsMap Try.prog k R m (size D) D := by
  obtain ⟨es, clock, hb, F, hs, rfl⟩ := h
  exact ⟨es, clock, hb, F, by simp [Maps.size, length_sorted], rfl⟩

/-! Looking a name up. -/
theorem look_yes {w : World} {m n : Nat} {D : DataW Value} {F : List Fl} {V : List UInt8 → Value} (ho : w.ownsMap Try.prog 9 rdf m n D) (hC : Con D F V) {f : Fl} (hf : f ∈ F) {s : ByteArray} (hs : s.size ≤ maxLen) (he : f.name = s.data.toList) :
    (Instr.lookup 77 (.map (some m)) (.string s) false).run Try.prog w = .ok (V f.name) w ∧ (Instr.lookup 77 (.map (some m)) (.string s) true).run Try.prog w = .ok (.tuple #[V f.name, .bool true]) w := by
  have hk : keyOf Try.prog 9 (.string s) = some (.string s.data.toList) := WideMaps.keyOf_string_mk Try.underlying9 hs
  obtain ⟨v, ps, hrun, hv⟩ := ho.lookup lawS Try.underlying77 (zeroF w) (rdf_mk none 0 0 0) hk
  obtain ⟨v', ps', hrun', hv'⟩ := ho.look_ok lawS Try.underlying77 (zeroF w) (rdf_mk none 0 0 0) hk
  rw [← he, hC.at_ f hf] at hv hv'
  obtain ⟨_, _, _, _, _, e⟩ := rdf_inv hv
  obtain ⟨_, _, _, _, _, e'⟩ := rdf_inv hv'
  have e1 : V f.name = v := DataW.held.inj (congrArg Prod.fst e)
  have e2 : V f.name = v' := DataW.held.inj (congrArg Prod.fst e')
  have hh : Maps.has D (.string s.data.toList) = true := (hC.has _).2 ⟨f, hf, he⟩
  rw [hh] at hrun'
  rw [← e1] at hrun
  rw [← e2] at hrun'
  exact ⟨hrun, hrun'⟩
theorem look_no {w : World} {m n : Nat} {D : DataW Value} {F : List Fl} {V : List UInt8 → Value} (ho : w.ownsMap Try.prog 9 rdf m n D) (hC : Con D F V) {s : ByteArray} (hs : s.size ≤ maxLen) (he : ¬ ∃ f ∈ F, f.name = s.data.toList) :
    (Instr.lookup 77 (.map (some m)) (.string s) false).run Try.prog w = .ok (fv none 0 0 0) w ∧ (Instr.lookup 77 (.map (some m)) (.string s) true).run Try.prog w = .ok (.tuple #[fv none 0 0 0, .bool false]) w := by
  have hk : keyOf Try.prog 9 (.string s) = some (.string s.data.toList) := WideMaps.keyOf_string_mk Try.underlying9 hs
  obtain ⟨v, ps, hrun, hv⟩ := ho.lookup lawS Try.underlying77 (zeroF w) (rdf_mk none 0 0 0) hk
  obtain ⟨v', ps', hrun', hv'⟩ := ho.look_ok lawS Try.underlying77 (zeroF w) (rdf_mk none 0 0 0) hk
  have hh : Maps.has D (.string s.data.toList) = false := by
    cases h : Maps.has D (.string s.data.toList)
    · rfl
    · exact absurd ((hC.has _).1 h) he
  rw [atKey_of_not_has hh] at hv hv'
  obtain ⟨_, _, _, _, _, e⟩ := rdf_inv hv
  obtain ⟨_, _, _, _, _, e'⟩ := rdf_inv hv'
  have e1 : fv none 0 0 0 = v := DataW.held.inj (congrArg Prod.fst e)
  have e2 : fv none 0 0 0 = v' := DataW.held.inj (congrArg Prod.fst e')
  rw [hh] at hrun'
  rw [← e1] at hrun
  rw [← e2] at hrun'
  exact ⟨hrun, hrun'⟩
end Go.Proofs.Ytenhfphgobalfaa

/- Names that may be; a disk that is none. -/
namespace Go.Proofs.Ytenhfphgobalfaa
open Go.RowKit

def okc (c : UInt8) : Bool := decide (33 ≤ c.toNat) && decide (c.toNat ≤ 126)
theorem good_def (n : List UInt8) : good n = (decide (1 ≤ n.length) && decide (n.length ≤ 32) && n.all okc) := rfl
theorem all_take_succ (s : ByteArray) {k : Nat} (h : k < s.size) (ha : (s.data.toList.take k).all okc = true) (hc : okc s[k] = true) : (s.data.toList.take (k + 1)).all okc = true := by
  have e : s.data.toList.take (k + 1) = s.data.toList.take k ++ [s[k]] := by
    rw [List.take_succ_eq_append_getElem (by simpa using h)]; rfl
  rw [e, List.all_append, ha]
  simp [hc]
theorem not_good_at (s : ByteArray) {k : Nat} (h : k < s.size) (hc : okc s[k] = false) : good s.data.toList = false := by
  rw [good_def]
  have : s.data.toList.all okc = false := List.all_eq_false.2 ⟨s[k], by rw [Array.mem_toList_iff]; exact Array.getElem_mem h, by simp [hc]⟩
  rw [this]; simp
theorem size_list (s : ByteArray) : s.data.toList.length = s.size := by simp

set_option maxHeartbeats 1000000 in
theorem mayBe_any (s : ByteArray) (w : World) (hs : s.size ≤ maxLen) :
    Calls Try.prog 63 #[.string s] w fun e w' => e = .returned (.bool (good s.data.toList)) ∧ w = w' := by
  unfold maxLen at hs
  go_enter Try.func63, Try.ntmps63
  go_wp2
  go_step3
  go_wp2
  go_step3
  go_wp2
  go_loop [3, 4, 14, 17] (fun i _ _ _ => ∃ k : Nat, k ≤ s.size ∧ k ≤ 32 ∧ i = .int .i64 (k : Int) ∧ Hid ((s.data.toList.take k).all okc = true)) (fun i _ _ _ => s.size - (intOf i).toNat)
  case atStart => exact ⟨0, Nat.zero_le _, by omega, rfl, by unfold Hid; simp⟩
  case round =>
    obtain ⟨k, hk, hk32, rfl, HA⟩ := hrel
    by_cases hlt : k < s.size
    · by_cases h32 : k = 32
      · have HG : Hid (good s.data.toList = false) := by
          unfold Hid; rw [good_def, size_list, decide_eq_false (p := s.size ≤ 32) (by omega)]; simp
        have e1 : ((k : Int) == 32) = true := by simp [h32]
        have e2 : ((k : Int) == (s.size : Int)) = false := by simp; omega
        have e3 : decide ((0 : Int) < (k : Int)) = true := by simp; omega
        clear h32
        go_wp2
        all_goals
          go_ret
          rw [HG.out]; exact ⟨rfl, rfl⟩
      · have e1 : ((k : Int) == 32) = false := by simp; omega
        by_cases hc : okc s[k] = true
        · have HA' := Lib.hid (all_take_succ s hlt HA.out hc)
          have hc1 : (33 : Int) ≤ (s[k].toNat : Int) := by simp [okc] at hc; omega
          have hc2 : (s[k].toNat : Int) ≤ 126 := by simp [okc] at hc; omega
          clear hc
          go_wp2
          go_round
          case rel => exact ⟨k + 1, by omega, by omega, by go_num, HA'⟩
          case measure => simp [intOf]; omega
        · have hc' : okc s[k] = false := by simpa using hc
          have HG := Lib.hid (not_good_at s hlt hc')
          clear hc
          have hcases : (s[k].toNat : Int) < 33 ∨ (33 ≤ (s[k].toNat : Int) ∧ (126 : Int) < (s[k].toNat : Int)) := by simp [okc] at hc'; omega
          clear hc'
          have e2 : ((k : Int) == (s.size : Int)) = false := by simp; omega
          rcases hcases with h | ⟨h0, h⟩
          all_goals
            go_wp2
            all_goals
              go_ret
              rw [HG.out]; exact ⟨rfl, rfl⟩
    · obtain rfl : k = s.size := by omega
      have e2 : ((s.size : Int) == (s.size : Int)) = true := by simp
      have HG : Hid (good s.data.toList = decide ((0 : Int) < (s.size : Int))) := by
        have h := HA.out
        rw [List.take_of_length_le (by simp)] at h
        unfold Hid; rw [good_def, h, size_list, decide_eq_true (p := s.size ≤ 32) hk32]
        simp
        omega
      have h0 : decide ((0 : Int) < (s.size : Int)) = decide (0 < s.size) := by simp
      by_cases h1 : 0 < s.size
      all_goals
        go_wp2
        go_ret
        rw [HG.out, h0]; simp [h1]
end Go.Proofs.Ytenhfphgobalfaa

/- The reference's names, its file's bytes, a new disk of the reference's. -/
namespace Go.Proofs.Ytenhfphgobalfaa
open Go.RowKit

/-- Of a name's first k bytes: what the reference's loop has found. -/
def goodTo (s : ByteArray) (k : Nat) : Bool := decide (1 ≤ s.size) && decide (s.size ≤ 32) && (s.data.toList.take k).all okc
theorem goodTo_zero (s : ByteArray) : goodTo s 0 = (decide (1 ≤ s.size) && decide (s.size ≤ 32)) := by simp [goodTo]
theorem goodTo_succ (s : ByteArray) {k : Nat} (h : k < s.size) : goodTo s (k + 1) = (goodTo s k && okc s[k]) := by
  have e : s.data.toList.take (k + 1) = s.data.toList.take k ++ [s[k]] := by
    rw [List.take_succ_eq_append_getElem (by simpa using h)]; rfl
  unfold goodTo
  rw [e, List.all_append]
  simp [Bool.and_assoc]
theorem goodTo_end (s : ByteArray) {k : Nat} (h : s.size ≤ k ∨ 33 ≤ k ∧ k ≤ s.size) : goodTo s k = good s.data.toList := by
  rw [good_def, size_list]
  rcases h with h | h
  · unfold goodTo; rw [List.take_of_length_le (by simpa using h)]
  · have : decide (s.size ≤ 32) = false := by simp; omega
    unfold goodTo; rw [this]; simp
theorem okc_is (c : UInt8) : okc c = (decide ((33 : Int) ≤ (c.toNat : Int)) && decide ((c.toNat : Int) ≤ 126)) := by
  unfold okc
  congr 1 <;> · congr 1; apply propext; constructor <;> intro h <;> omega

set_option maxHeartbeats 2000000 in
theorem mayName_any (s : ByteArray) (w : World) (hs : s.size ≤ maxLen) :
    Calls Try.prog 35 #[.string s] w fun e w' => e = .returned (.bool (good s.data.toList)) ∧ w = w' := by
  unfold maxLen at hs
  go_enter Try.func35, Try.ntmps35
  go_wp2_with fail
  all_goals
    rename_i hstart
    go_loop [3, 4] (fun g i => ∃ k : Nat, k ≤ s.size ∧ k ≤ 33 ∧ i = .int .i64 (k : Int) ∧ g = .bool (goodTo s k)) (fun _ i => 33 - (intOf i).toNat)
    case atStart =>
      refine ⟨0, Nat.zero_le _, by omega, rfl, ?_⟩
      rw [goodTo_zero]
      congr 1
      first
        | (rw [decide_eq_false (p := 1 ≤ s.size) (by omega)]; rfl)
        | (rw [decide_eq_true (p := 1 ≤ s.size) (by omega), Bool.true_and]; congr 1; apply propext; constructor <;> intro h <;> omega)
    case round =>
      obtain ⟨k, hk, hk33, rfl, rfl⟩ := hrel
      by_cases hlt : k < s.size
      · have e1 : decide ((k : Int) < (s.size : Int)) = true := by simp; omega
        by_cases h33 : k ≤ 32
        · have e2 : decide ((k : Int) ≤ 32) = true := by simp; omega
          have hsucc := goodTo_succ s hlt
          cases hg : goodTo s k
          · rw [hg, Bool.false_and] at hsucc
            go_wp2
            go_round
            case rel => exact ⟨k + 1, by omega, by omega, by go_num, by rw [hsucc]⟩
            case measure => simp [intOf]; omega
          · rw [hg, Bool.true_and, okc_is] at hsucc
            have hcases : (s[k].toNat : Int) < 33 ∨ ((33 : Int) ≤ (s[k].toNat : Int) ∧ (126 : Int) < (s[k].toNat : Int)) ∨ ((33 : Int) ≤ (s[k].toNat : Int) ∧ (s[k].toNat : Int) ≤ 126) := by omega
            rcases hcases with h | ⟨h0, h⟩ | ⟨h0, h⟩
            · have e3 : decide ((33 : Int) ≤ (s[k].toNat : Int)) = false := by simp; omega
              rw [e3, Bool.false_and] at hsucc
              go_wp2
              go_round
              case rel => exact ⟨k + 1, by omega, by omega, by go_num, by rw [hsucc]⟩
              case measure => simp [intOf]; omega
            · have e3 : decide ((33 : Int) ≤ (s[k].toNat : Int)) = true := by simp; omega
              have e4 : decide ((s[k].toNat : Int) ≤ 126) = false := by simp; omega
              rw [e3, e4] at hsucc
              go_wp2
              go_round
              case rel => exact ⟨k + 1, by omega, by omega, by go_num, by rw [hsucc]; first | rfl | simp [e4]⟩
              case measure => simp [intOf]; omega
            · have e3 : decide ((33 : Int) ≤ (s[k].toNat : Int)) = true := by simp; omega
              have e4 : decide ((s[k].toNat : Int) ≤ 126) = true := by simp; omega
              rw [e3, e4] at hsucc
              go_wp2
              go_round
              case rel => exact ⟨k + 1, by omega, by omega, by go_num, by rw [hsucc]; first | rfl | simp [e4]⟩
              case measure => simp [intOf]; omega
        · have HG := Lib.hid (goodTo_end s (k := k) (.inr (by omega)))
          have e2 : decide ((k : Int) ≤ 32) = false := by simp; omega
          go_wp2
          go_ret
          rw [HG.out]; exact ⟨rfl, rfl⟩
      · obtain rfl : k = s.size := by omega
        have HG := Lib.hid (goodTo_end s (k := s.size) (.inl (Nat.le_refl _)))
        go_wp2
        go_ret
        rw [HG.out]; exact ⟨rfl, rfl⟩
end Go.Proofs.Ytenhfphgobalfaa

/-
  DERIVED: THE SHELF's CONTRACTS AT THIS DUMP, IN PLAIN WORDS (tools/lay-plain.mjs out of 'YtenhfphgobalfaaShelf.lean', which tools/lay-shelf.mjs wrote): THE SAME DECLARATIONS UNDER THE SAME NAMES: 'import', 'namespace', 'open', 'def', 'theorem' AND NOTHING ELSE: no command of the shelf's: FOR A HAND-IN. Each laying: the table of numbers ('.._ren') and one theorem, a field a fact of the dump's own or the kernel's comparison; each contract: ONE APPLICATION.
-/
namespace Go.Proofs
open Go.Shelf
def Try.laysnb115_ren : Go.Shelf.Ren := ⟨fun | 115 => 64 | n => n, fun | 37 => 35 | 4 => 4 | 9 => 9 | 5 => 5 | n => n, fun | n => n⟩
theorem Try.laysnb115 : Go.Proofs.Lays.nb115 Try.prog Try.laysnb115_ren := {
  mixed := by kernel_rfl
  f115 := Try.func64.trans (congrArg some (by kernel_rfl))
  t4 := Try.underlying4
  a4 := Try.isAgg4
  z4 := Try.sizeOf4
  v4 := Try.zeroValue4
  t9 := Try.underlying9
  a9 := Try.isAgg9
  z9 := Try.sizeOf9
  v9 := Try.zeroValue9
  t37 := Try.underlying35
  a37 := Try.isAgg35
  z37 := Try.sizeOf35
  v37 := Try.zeroValue35
  t5 := Try.underlying5
  a5 := Try.isAgg5
  z5 := Try.sizeOf5
  v5 := Try.zeroValue5 }
/-- bytes.Equal: WHOLE. (LAID: no walk: one application.) -/
theorem Try.bytes_Equal_all (p1 p2 : Option Addr) (n c m d : Nat) (xs ys : List Int) (w : World) (hx : xs.length = n) (hy : ys.length = m) (h1 : Lib.BytesIn w p1 n xs) (h2 : Lib.BytesIn w p2 m ys) :
    Calls Try.prog 64 #[.slice p1 n c, .slice p2 m d] w fun e w' => e = .returned (.bool (Lib.bytesOf xs == Lib.bytesOf ys)) ∧ w' = w := Any.bytes_Equal_all Try.laysnb115 p1 p2 n c m d xs ys w hx hy h1 h2
def Try.clone69_ren : Go.Shelf.Ren := ⟨fun | 5 => 66 | 7 => 70 | n => n, fun | 23 => 77 | 25 => 9 | 3 => 92 | 4 => 4 | 20 => 20 | n => n, fun | n => n⟩
theorem Try.clone69 : Go.Proofs.SlLaysW.n5 Try.prog Try.clone69_ren := {
  mixed := by kernel_rfl
  f5 := ⟨Try.f66.name, by decide, Try.func66.trans (congrArg some (by kernel_rfl))⟩
  f7 := Try.func70.trans (congrArg some (by kernel_rfl))
  t4 := Try.underlying4
  a4 := Try.isAgg4
  z4 := Try.sizeOf4
  v4 := Try.zeroValue4
  t20 := Try.underlying20
  a20 := Try.isAgg20
  z20 := Try.sizeOf20
  v20 := Try.zeroValue20
  t23 := Try.underlying77
  a23 := Try.isAgg77
  z23 := Try.sizeOf77
  v23 := Try.zeroValue77 }
def Try.keys71_ren : Go.Shelf.Ren := ⟨fun | 7 => 68 | 10 => 73 | n => n, fun | 23 => 77 | 26 => 9 | 3 => 92 | 28 => 113 | 0 => 0 | 27 => 112 | 33 => 74 | 4 => 4 | n => n, fun | n => n⟩
theorem Try.keys71 : Go.Proofs.SlLaysZ.n7 Try.prog Try.keys71_ren := {
  mixed := by kernel_rfl
  f7 := ⟨Try.f68.name, by decide, Try.func68.trans (congrArg some (by kernel_rfl))⟩
  f10 := ⟨Try.f73.name, by decide, Try.func73.trans (congrArg some (by kernel_rfl))⟩
  t0 := Try.underlying0
  a0 := Try.isAgg0
  z0 := Try.sizeOf0
  v0 := Try.zeroValue0
  t4 := Try.underlying4
  a4 := Try.isAgg4
  z4 := Try.sizeOf4
  v4 := Try.zeroValue4
  t23 := Try.underlying77
  a23 := Try.isAgg77
  z23 := Try.sizeOf77
  v23 := Try.zeroValue77
  t26 := Try.underlying9
  a26 := Try.isAgg9
  z26 := Try.sizeOf9
  v26 := Try.zeroValue9
  t27 := Try.underlying112
  a27 := Try.isAgg112
  z27 := Try.sizeOf112
  v27 := Try.zeroValue112
  t28 := Try.underlying113
  a28 := Try.isAgg113
  z28 := Try.sizeOf113
  v28 := Try.zeroValue113
  t33 := Try.underlying74
  a33 := Try.isAgg74
  z33 := Try.sizeOf74
  v33 := Try.zeroValue74 }
def Try.sorted70_ren : Go.Shelf.Ren := ⟨fun | 6 => 67 | 8 => 71 | 9 => 72 | 11 => 74 | 13 => 76 | 12 => 75 | 23 => 86 | 24 => 87 | 14 => 77 | 15 => 78 | 16 => 79 | 17 => 80 | 18 => 81 | 19 => 82 | 20 => 83 | 21 => 84 | 22 => 85 | 25 => 88 | 26 => 89 | 27 => 90 | 28 => 91 | 29 => 92 | 30 => 93 | 31 => 94 | n => n, fun | 26 => 9 | 28 => 113 | 24 => 73 | 0 => 0 | 3 => 3 | 37 => 121 | 48 => 132 | 50 => 134 | 4 => 4 | 40 => 124 | 39 => 123 | 45 => 129 | 5 => 5 | 9 => 9 | 51 => 135 | 55 => 139 | 57 => 141 | 58 => 52 | 33 => 74 | n => n, fun | n => n⟩
theorem Try.sorted70 : Go.Proofs.SlLaysZ.n6 Try.prog Try.sorted70_ren := {
  mixed := by kernel_rfl
  f6 := ⟨Try.f67.name, by decide, Try.func67.trans (congrArg some (by kernel_rfl))⟩
  f8 := ⟨Try.f71.name, by decide, Try.func71.trans (congrArg some (by kernel_rfl))⟩
  f11 := ⟨Try.f74.name, by decide, Try.func74.trans (congrArg some (by kernel_rfl))⟩
  t0 := Try.underlying0
  a0 := Try.isAgg0
  z0 := Try.sizeOf0
  v0 := Try.zeroValue0
  t24 := Try.underlying73
  a24 := Try.isAgg73
  z24 := Try.sizeOf73
  v24 := Try.zeroValue73
  t26 := Try.underlying9
  a26 := Try.isAgg9
  z26 := Try.sizeOf9
  v26 := Try.zeroValue9
  t28 := Try.underlying113
  a28 := Try.isAgg113
  z28 := Try.sizeOf113
  v28 := Try.zeroValue113
  i26 := by kernel_rfl }
def Try.sort74_ren : Go.Shelf.Ren := ⟨fun | 6 => 72 | 8 => 76 | 9 => 75 | 19 => 86 | 20 => 87 | 21 => 77 | 22 => 78 | 23 => 79 | 24 => 80 | 25 => 81 | 26 => 82 | 27 => 83 | 28 => 84 | 29 => 85 | 36 => 88 | 31 => 89 | 32 => 90 | 37 => 91 | 38 => 92 | 39 => 93 | 41 => 94 | n => n, fun | 27 => 73 | 29 => 9 | 3 => 3 | 32 => 121 | 26 => 73 | 0 => 0 | 44 => 132 | 46 => 134 | 4 => 4 | 36 => 124 | 35 => 123 | 41 => 129 | 5 => 5 | 9 => 9 | 53 => 135 | 57 => 139 | 63 => 141 | 64 => 52 | n => n, fun | n => n⟩
theorem Try.sort74 : Go.Proofs.SlLaysM.n6 Try.prog Try.sort74_ren := {
  mixed := by kernel_rfl
  f6 := ⟨Try.f72.name, by decide, Try.func72.trans (congrArg some (by kernel_rfl))⟩
  f8 := Try.func76.trans (congrArg some (by kernel_rfl))
  f9 := ⟨Try.f75.name, by decide, Try.func75.trans (congrArg some (by kernel_rfl))⟩
  f19 := Try.func86.trans (congrArg some (by kernel_rfl))
  f20 := Try.func87.trans (congrArg some (by kernel_rfl))
  f21 := ⟨Try.f77.name, by decide, Try.func77.trans (congrArg some (by kernel_rfl))⟩
  f22 := ⟨Try.f78.name, by decide, Try.func78.trans (congrArg some (by kernel_rfl))⟩
  f23 := ⟨Try.f79.name, by decide, Try.func79.trans (congrArg some (by kernel_rfl))⟩
  f24 := ⟨Try.f80.name, by decide, Try.func80.trans (congrArg some (by kernel_rfl))⟩
  f25 := ⟨Try.f81.name, by decide, Try.func81.trans (congrArg some (by kernel_rfl))⟩
  f26 := ⟨Try.f82.name, by decide, Try.func82.trans (congrArg some (by kernel_rfl))⟩
  f27 := ⟨Try.f83.name, by decide, Try.func83.trans (congrArg some (by kernel_rfl))⟩
  f28 := ⟨Try.f84.name, by decide, Try.func84.trans (congrArg some (by kernel_rfl))⟩
  f29 := ⟨Try.f85.name, by decide, Try.func85.trans (congrArg some (by kernel_rfl))⟩
  f31 := Try.func89.trans (congrArg some (by kernel_rfl))
  f32 := Try.func90.trans (congrArg some (by kernel_rfl))
  f36 := ⟨Try.f88.name, by decide, Try.func88.trans (congrArg some (by kernel_rfl))⟩
  f37 := ⟨Try.f91.name, by decide, Try.func91.trans (congrArg some (by kernel_rfl))⟩
  f38 := ⟨Try.f92.name, by decide, Try.func92.trans (congrArg some (by kernel_rfl))⟩
  f39 := ⟨Try.f93.name, by decide, Try.func93.trans (congrArg some (by kernel_rfl))⟩
  f41 := ⟨Try.f94.name, by decide, Try.func94.trans (congrArg some (by kernel_rfl))⟩
  t0 := Try.underlying0
  a0 := Try.isAgg0
  z0 := Try.sizeOf0
  v0 := Try.zeroValue0
  t3 := Try.underlying3
  a3 := Try.isAgg3
  z3 := Try.sizeOf3
  v3 := Try.zeroValue3
  t4 := Try.underlying4
  a4 := Try.isAgg4
  z4 := Try.sizeOf4
  v4 := Try.zeroValue4
  t5 := Try.underlying5
  a5 := Try.isAgg5
  z5 := Try.sizeOf5
  v5 := Try.zeroValue5
  t9 := Try.underlying9
  a9 := Try.isAgg9
  z9 := Try.sizeOf9
  v9 := Try.zeroValue9
  t26 := Try.underlying73
  a26 := Try.isAgg73
  z26 := Try.sizeOf73
  v26 := Try.zeroValue73
  t27 := Try.underlying73
  a27 := Try.isAgg73
  z27 := Try.sizeOf73
  v27 := Try.zeroValue73
  t29 := Try.underlying9
  a29 := Try.isAgg9
  z29 := Try.sizeOf9
  v29 := Try.zeroValue9
  t32 := Try.underlying121
  a32 := Try.isAgg121
  z32 := Try.sizeOf121
  v32 := Try.zeroValue121
  t35 := Try.underlying123
  a35 := Try.isAgg123
  z35 := Try.sizeOf123
  v35 := Try.zeroValue123
  t36 := Try.underlying124
  a36 := Try.isAgg124
  z36 := Try.sizeOf124
  v36 := Try.zeroValue124
  t41 := Try.underlying129
  a41 := Try.isAgg129
  z41 := Try.sizeOf129
  v41 := Try.zeroValue129
  t44 := Try.underlying132
  a44 := Try.isAgg132
  z44 := Try.sizeOf132
  v44 := Try.zeroValue132
  t46 := Try.underlying134
  a46 := Try.isAgg134
  z46 := Try.sizeOf134
  v46 := Try.zeroValue134
  t53 := Try.underlying135
  a53 := Try.isAgg135
  z53 := Try.sizeOf135
  v53 := Try.zeroValue135
  t57 := Try.underlying139
  a57 := Try.isAgg139
  z57 := Try.sizeOf139
  v57 := Try.zeroValue139
  t63 := Try.underlying141
  a63 := Try.isAgg141
  z63 := Try.sizeOf141
  v63 := Try.zeroValue141
  t64 := Try.underlying52
  a64 := Try.isAgg52
  z64 := Try.sizeOf52
  v64 := Try.zeroValue52 }
end Go.Proofs

/- The library's contracts as this program takes them: maps.Clone, maps.Keys, slices.Sorted. -/
namespace Go.Proofs.Ytenhfphgobalfaa
open Go.RowKit Go.Maps Go.Sort Go.Shelf

/-- maps.Clone. -/
theorem mapsClone {H : Type} (k : TypeId) (R : Value → Option (DataW H × List MemPlace)) (b n : Nat) (D : DataW H) (w : World) (hown : w.ownsMap Try.prog k R b n D) :
    Calls Try.prog 66 #[.map (some b)] w fun e w' => e = .returned (.map (some w.heap.size)) ∧ w'.ownsMap Try.prog k R w.heap.size n D ∧ w'.ownsMap Try.prog k R b n D ∧ Below w.heap.size w w' := AnyW.maps_Clone_owns Try.clone69 k R b n D w hown
/-- slices.Sort of strings. -/
theorem sortsLaid (m : Nat) : AnyZ.SortsIn Try.prog Try.sorted70_ren Fence.wide m :=
  ⟨fun blk off cap ss W hH hblk hsz => callsIn_wide.2 (AnyM.slices_Sort_string Try.sort74 blk off cap ss W hH hblk hsz),
   fun p cap W => callsIn_wide.2 (AnyM.slices_Sort_string_none Try.sort74 p cap W)⟩
/-- maps.Keys hands back a function over a new cell that holds the map. -/
theorem mapsKeys (mb : Option Nat) (W : World) : CallsIn Fence.wide 5 Try.prog 68 #[.map mb] W fun e w' => e = .returned (.func (.func 73) #[] #[.pointer (some ⟨W.heap.size, 0, none⟩)]) ∧ w' = W.alloc (.cells #[.map mb] 77) :=
  AnyZ.keys_in Try.keys71 Fence.wide 5 trivial rfl mb W
set_option maxHeartbeats 1000000 in
/-- slices.Sorted of that: the names, rising, in a new row. -/
theorem sortedKeys {H : Type} (b nn : Nat) (D0 : DataW H) (R : Value → Option (DataW H × List MemPlace)) (w : World) (hown : w.ownsMap Try.prog 9 R b nn D0) (hmax : Maps.size D0 ≤ maxLen) (hbytes : Maps.size D0 * 16 ≤ 140737488355328) :
    CallsIn Fence.wide 5 Try.prog 67 #[.func (.func 73) #[] #[.pointer (some ⟨w.heap.size, 0, none⟩)]] (w.alloc (.cells #[.map (some b)] 77)) fun e w' => ∃ (v : Value) (ss : List (List UInt8)), e = .returned v ∧ ss.Perm (strKeys D0) ∧
      w'.ownsRow (w.alloc (.cells #[.map (some b)] 77)).heap.size 9 1 v ss.length ((ss.mergeSort (fun x y => decide (x ≤ y))).map encStr) ∧ (v = .slice none 0 0 ↔ ss = []) ∧ Below (w.alloc (.cells #[.map (some b)] 77)).heap.size (w.alloc (.cells #[.map (some b)] 77)) w' := by
  have hbl := hown.lt
  have hseq : SeqGives Fence.wide 2 Try.prog 73 #[.pointer (some ⟨w.heap.size, 0, none⟩)] encStr (fun ss => ss.Perm (strKeys D0)) (Maps.size D0) (w.alloc (.cells #[.map (some b)] 77)) :=
    AnyZ.keys_gives (ρ := Try.keys71_ren) { Try.keys71 with } Fence.wide _ trivial rfl (by omega) w.heap.size b nn D0 _ (by simp) (by simp) (by
      obtain ⟨es, clock, hb, Ft, hs, hD⟩ := hown
      exact ⟨es, clock, (Below.heap_alloc _ _ b hbl).trans hb, Ft, hs, hD⟩)
  exact AnyZ.sorted_in Try.sorted70 Fence.wide 5 trivial trivial trivial trivial rfl (by omega) (sortsLaid _) (enters_of Try.func72 (by kernel_rfl) rfl) 73 #[.pointer (some ⟨w.heap.size, 0, none⟩)] trivial (enters_of Try.func73 (by kernel_rfl) rfl) _ _ hmax hbytes _ hseq
end Go.Proofs.Ytenhfphgobalfaa

/- A loop over a function: what the function owes, and what the loop's body owes. -/
namespace Go.Proofs.Ytenhfphgobalfaa
open Go.RowKit

/-- The blocks from a up to b are as they were. -/
def Stay (a b : Nat) (w w' : World) : Prop := ∀ k, a ≤ k → k < b → w'.heap[k]? = w.heap[k]?
theorem Stay.refl (a b : Nat) (w : World) : Stay a b w w := fun _ _ _ => rfl
theorem Stay.trans {a b : Nat} {w w' w'' : World} (h : Stay a b w w') (k : Stay a b w' w'') : Stay a b w w'' := fun i h1 h2 => (k i h1 h2).trans (h i h1 h2)
theorem Stay.ext {a b : Nat} {w w' : World} (h : Ext w w') (hb : b ≤ w.heap.size) : Stay a b w w' := fun k _ h2 => h.block k (by omega)
/-- Blocks from a up to b. -/
def Btw (a b : Nat) (k : Nat) : Prop := a ≤ k ∧ k < b
/-- Blocks from a on. -/
def Frm (a : Nat) (k : Nat) : Prop := a ≤ k

/-- A step of a round: its blocks stay, none is lost. -/
structure Step (a b : Nat) (w w' : World) : Prop where
  stay : Stay a b w w'
  os : w'.os = w.os
  tape : w'.tape = w.tape
  output : w'.output = w.output
  size : w.heap.size ≤ w'.heap.size
theorem Step.refl (a b : Nat) (w : World) : Step a b w w := ⟨Stay.refl _ _ _, rfl, rfl, rfl, Nat.le_refl _⟩
theorem Step.trans {a b : Nat} {w w' w'' : World} (h : Step a b w w') (k : Step a b w' w'') : Step a b w w'' := ⟨h.stay.trans k.stay, k.os.trans h.os, k.tape.trans h.tape, k.output.trans h.output, Nat.le_trans h.size k.size⟩
theorem Step.of_chg {S : Nat → Prop} {a b : Nat} {w w' : World} (h : Chg S w w') (hb : b ≤ w.heap.size) (hS : ∀ k, a ≤ k → k < b → ¬ S k) : Step a b w w' := ⟨fun k h1 h2 => h.block k (by omega) (hS k h1 h2), h.os, h.tape, h.output, h.size⟩

theorem putObj_chg (W : World) (l : Nat) (o : Obj) : Chg (fun i => i = l) W (W.putObj l o) := ⟨rfl, rfl, rfl, by simp, fun k _ hk => World.putObj_heap_other hk⟩

theorem roundIn_any {P : Program} {m m' l : Nat} {f : FuncId} {tmps : Array Value} {assign body : Code} {w : World} {R : Ending → World → Prop} (h : RoundIn Fence.wide m P l f tmps assign body w R) : RoundIn Fence.wide m' P l f tmps assign body w R :=
  ⟨h.1, fun c cs _ => h.2 c cs (room_wide _)⟩

/-- What a function owes over which one ranges: it hands over, one behind the other, so many x; of the k-th 'Ok' holds. From its beginning (world W) to the first call of yield it makes memory alone (up to block n₁); between two calls it changes no memory but that. C: what the one who goes over it promises. -/
def Iter (P : Program) {α : Type} (gf : Nat) (lb : Array Value) (len : Nat) (encs : α → Array Value) (Ok : Nat → Nat → α → World → Prop) (C : World → Prop) (w : World) : Prop :=
  ∀ (m l : Nat) (J : Nat → Nat → World → Prop) (Jx : World → Prop) (W : World), Ext w W →
    (∀ n₁ k A, J n₁ k A → C A) → (∀ n₁ k A A', W.heap.size ≤ n₁ → J n₁ k A → Chg (Btw W.heap.size n₁) A A' → J n₁ k A') → (∀ A A', Jx A → Chg (Frm W.heap.size) A A' → Jx A') → (∀ A, Ext W A → J A.heap.size 0 A) →
    (∀ n₁ k x A, W.heap.size ≤ n₁ → n₁ ≤ A.heap.size → J n₁ k A → k < len → Ok n₁ k x A → YieldAt Fence.wide m P l (encs x) A fun e A' => Step W.heap.size n₁ A A' ∧ ((e = .returned (.bool true) ∧ J n₁ (k + 1) A') ∨ (e = .returned (.bool false) ∧ Jx A'))) →
    Calls P gf (#[.func (.yield l) #[] #[]] ++ lb) W fun e A => (∃ v, e = .returned v) ∧ ((∃ n₁, W.heap.size ≤ n₁ ∧ J n₁ len A) ∨ Jx A)

/-- What a round's body owes. -/
def bodyOwes (a b : Nat) (I : World → Prop) (Ix : Code → World → Prop) (A : World) : Exit → Act → World → Prop
  | .normal, _, A' => Step a b A A' ∧ I A'
  | .ret, _, A' => Step a b A A' ∧ Ix .ret A'
  | .exit id, _, A' => Step a b A A' ∧ Ix (.exit id) A'
  | .goto t, _, A' => Step a b A A' ∧ Ix (.goto t) A'
  | .panic _, _, _ => False
  | .outgrown, _, _ => False

/-- The loop. -/
theorem wpIn_over {P : Program} {n : Nat} {α : Type} {g : Operand} {ps : Array Tmp} {assign body : Code} {Q : Exit → Act → World → Prop} {a : Act} {w : World}
    {gf : Nat} {lb : Array Value} (hg : a.eval g = .func (.func gf) #[] lb) (eg : ∀ args w, (callFunc gf args).run P w = .ok (.enter gf args) w)
    {encs : α → Array Value} {len : Nat} {Ok : Nat → Nat → α → World → Prop} {C : World → Prop} (hseq : Iter P gf lb len encs Ok C w) (hps : ∀ x, (encs x).size = ps.size)
    (I : Nat → Nat → World → Prop) (Ix : Code → World → Prop) (hC : ∀ n₁ k A, I n₁ k A → C A)
    (hI : ∀ n₁ k A A', w.heap.size + 2 ≤ n₁ → I n₁ k A → Chg (Btw w.heap.size n₁) A A' → I n₁ k A') (hIx : ∀ c A A', Ix c A → Chg (Frm w.heap.size) A A' → Ix c A') (h0 : ∀ A, Ext w A → I A.heap.size 0 A)
    (hround : ∀ l n₁ k x A, w.heap.size ≤ l → l < n₁ → w.heap.size + 2 ≤ n₁ → n₁ ≤ A.heap.size → I n₁ k A → k < len → Ok n₁ k x A →
      assign.wpIn (Fence.wide.inRound l) (n - 1 - 1) P (Exit.then (fun a₁ A1 => Step w.heap.size n₁ A A1 ∧ ∀ A2, Chg (fun i => i = l) A1 A2 → body.wpIn (Fence.wide.inRound l) (n - 1 - 1) P (bodyOwes w.heap.size n₁ (I n₁ (k + 1)) Ix A2) a₁ A2) (fun _ _ _ => False))
        { tmps := (ps.zip (encs x)).foldl (fun t (p, v) => t.setIfInBounds p v) a.tmps, defers := [] } A)
    (hdone : ∀ D n₁ W, w.heap.size ≤ D → D < n₁ → w.heap.size + 2 ≤ n₁ → I n₁ len W → W.heap[D]? = some (.deferred (some [])) → Q .normal { a with defers := { target := .collected D, args := #[] } :: a.defers } W)
    (hstop : ∀ D c W, w.heap.size ≤ D → Ix c W → W.heap[D]? = some (.deferred (some [])) → c.wpIn Fence.wide n P Q { a with defers := { target := .collected D, args := #[] } :: a.defers } W) :
    (Code.rangeFunc g ps assign body).wpIn Fence.wide n P Q a w := by
  refine wpIn_rangeFunc ?_
  intro fn hfn
  obtain ⟨rec, hrec⟩ : ∃ rec : LoopState → Option Code → Loop, rec = fun st pe => { state := st, pending := pe, fn, tmps := a.tmps, params := ps, assign, body, defers := w.heap.size } := ⟨_, rfl⟩
  obtain ⟨W1, hW1⟩ : ∃ W1, W1 = (w.alloc (.deferred (some []))).alloc (.loop (rec .ready none)) := ⟨_, rfl⟩
  have hx1 : Ext w W1 := by rw [hW1]; exact ((Below.refl _ w).alloc (Nat.le_refl _) _).alloc (by simp) _
  have hz1 : W1.heap.size = w.heap.size + 2 := by rw [hW1]; simp
  have hL1 : W1.heap[w.heap.size + 1]? = some (.loop (rec .ready none)) := by
    rw [hW1]; have := World.alloc_heap_new (w.alloc (.deferred (some []))) (.loop (rec .ready none)); rwa [World.size_alloc] at this
  have hD1 : W1.heap[w.heap.size]? = some (.deferred (some [])) := by
    rw [hW1]; exact (Below.heap_alloc _ _ _ (by simp)).trans (World.alloc_heap_new w _)
  refine ⟨w.heap.size + 1, [{ target := .collected w.heap.size, args := #[] }], W1, { target := .fn (.func gf) lb, args := #[.func (.yield (w.heap.size + 1)) #[] #[]] }, W1, gf,
    #[.func (.yield (w.heap.size + 1)) #[] #[]] ++ lb, W1, ?_, ?_, (fun _ _ => trivial), ?_, (fun h => (by cases h)), ?_⟩
  · rw [hW1, hrec]; exact run_enterLoop_outer _ _ _ _ _
  · simp only [resolve, hg]
    simp [go_sem]
  · simp [invoke, go_sem, eg]
  · refine callsIn_wide.2 ((hseq (n - 1 - 1) (w.heap.size + 1)
      (fun n₁ k A => I n₁ k A ∧ A.heap[w.heap.size + 1]? = some (.loop (rec .ready none)) ∧ A.heap[w.heap.size]? = some (.deferred (some [])))
      (fun A => ∃ c, Ix c A ∧ A.heap[w.heap.size + 1]? = some (.loop (rec .done (some c))) ∧ A.heap[w.heap.size]? = some (.deferred (some [])))
      W1 hx1 (fun n₁ k A h => hC n₁ k A h.1) ?_ ?_ ?_ ?_).mono ?_)
    · rintro n₁ k A A' hn ⟨hi, hl, hd⟩ hc
      have lt1 := (Array.getElem?_eq_some_iff.1 hl).1
      have lt2 := (Array.getElem?_eq_some_iff.1 hd).1
      exact ⟨hI n₁ k A A' (by omega) hi (hc.mono fun i _ hb => ⟨by have := hb.1; omega, hb.2⟩), (hc.block _ lt1 (fun hb => by have := hb.1; omega)).trans hl, (hc.block _ lt2 (fun hb => by have := hb.1; omega)).trans hd⟩
    · rintro A A' ⟨c, hi, hl, hd⟩ hc
      have lt1 := (Array.getElem?_eq_some_iff.1 hl).1
      have lt2 := (Array.getElem?_eq_some_iff.1 hd).1
      exact ⟨c, hIx c A A' hi (hc.mono fun i _ hb => by have : W1.heap.size ≤ i := hb; show w.heap.size ≤ i; omega), (hc.block _ lt1 (fun hb => by have : W1.heap.size ≤ _ := hb; omega)).trans hl, (hc.block _ lt2 (fun hb => by have : W1.heap.size ≤ _ := hb; omega)).trans hd⟩
    · intro A hx
      exact ⟨h0 A (hx1.trans hx), (hx.block _ (by omega)).trans hL1, (hx.block _ (by omega)).trans hD1⟩
    · rintro n₁ k x A hn hnA ⟨hi, hl, hd⟩ hk hok
      have hy := run_yield (P := P) (args := encs x) hl (by rw [hrec]; exact hps x)
      rw [hrec] at hy
      refine ⟨fn, _, assign, body, hy, roundIn_of_wpIn hfn ?_⟩
      refine wpIn_mono (hround (w.heap.size + 1) n₁ k x A (by omega) (by omega) (by omega) hnA hi hk hok) ?_
      intro e a₁ A1 hp
      cases e with
      | normal =>
        obtain ⟨hst, hb⟩ := hp
        have hl1 := (hst.stay (w.heap.size + 1) (by omega) (by omega)).trans hl
        have hd1 := (hst.stay w.heap.size (Nat.le_refl _) (by omega)).trans hd
        have lt1 := (Array.getElem?_eq_some_iff.1 hl1).1
        refine ⟨_, run_beginRound hl1 (by rw [hrec]), ?_⟩
        have hc2 := putObj_chg A1 (w.heap.size + 1) (.loop { rec .ready none with state := .busy })
        have hl2 : (A1.putObj (w.heap.size + 1) (.loop { rec .ready none with state := .busy })).heap[w.heap.size + 1]? = some (.loop { rec .ready none with state := .busy }) := World.putObj_heap_same lt1
        have hd2 := (hc2.block w.heap.size (by omega) (by omega)).trans hd1
        have fin : ∀ (jump : Option Code) (W3 : World), Step w.heap.size n₁ (A1.putObj (w.heap.size + 1) (.loop { rec .ready none with state := .busy })) W3 →
            (Instr.endRound (w.heap.size + 1) jump).run P W3 = .ok (.bool jump.isNone) (W3.putObj (w.heap.size + 1) (.loop (rec (if jump.isNone then .ready else .done) jump))) ∧
            (W3.putObj (w.heap.size + 1) (.loop (rec (if jump.isNone then .ready else .done) jump))).heap[w.heap.size + 1]? = some (.loop (rec (if jump.isNone then .ready else .done) jump)) ∧
            (W3.putObj (w.heap.size + 1) (.loop (rec (if jump.isNone then .ready else .done) jump))).heap[w.heap.size]? = some (.deferred (some [])) ∧
            Step W1.heap.size n₁ A (W3.putObj (w.heap.size + 1) (.loop (rec (if jump.isNone then .ready else .done) jump))) := fun jump W3 hs3 => by
          have hl3 := (hs3.stay _ (by omega) (by omega)).trans hl2
          have hd3 := (hs3.stay _ (Nat.le_refl _) (by omega)).trans hd2
          have lt3 := (Array.getElem?_eq_some_iff.1 hl3).1
          have hr := run_endRound (P := P) jump hl3
          rw [hrec] at hr ⊢
          refine ⟨hr, World.putObj_heap_same lt3, (World.putObj_heap_other (by omega)).trans hd3, ?_⟩
          have s1 : Step W1.heap.size n₁ A A1 := ⟨fun i h1 h2 => hst.stay i (by omega) h2, hst.os, hst.tape, hst.output, hst.size⟩
          have s2 : Step W1.heap.size n₁ A1 (A1.putObj (w.heap.size + 1) (.loop { rec .ready none with state := .busy })) := ⟨fun i h1 h2 => World.putObj_heap_other (by omega), rfl, rfl, rfl, by simp⟩
          have s3 : Step W1.heap.size n₁ (A1.putObj (w.heap.size + 1) (.loop { rec .ready none with state := .busy })) W3 := ⟨fun i h1 h2 => hs3.stay i (by omega) h2, hs3.os, hs3.tape, hs3.output, hs3.size⟩
          exact ((s1.trans s2).trans s3).trans ⟨fun i h1 h2 => World.putObj_heap_other (by omega), rfl, rfl, rfl, by simp⟩
        have hchg : ∀ (W3 : World) (o : Obj), Chg (Btw w.heap.size n₁) W3 (W3.putObj (w.heap.size + 1) o) := fun W3 o => (putObj_chg W3 _ o).mono fun i _ e => ⟨by omega, by omega⟩
        have hchg2 : ∀ (W3 : World) (o : Obj), Chg (Frm w.heap.size) W3 (W3.putObj (w.heap.size + 1) o) := fun W3 o => (putObj_chg W3 _ o).mono fun i _ e => show w.heap.size ≤ i by omega
        refine wpIn_mono (hb _ hc2) ?_
        intro e a3 W3 hp
        cases e with
        | normal =>
          obtain ⟨hs3, hi3⟩ := hp
          obtain ⟨hr, hl4, hd4, hst4⟩ := fin none W3 hs3
          exact ⟨_, _, hr, hst4, .inl ⟨rfl, hI n₁ (k + 1) _ _ (by omega) hi3 (hchg _ _), hl4, hd4⟩⟩
        | ret =>
          obtain ⟨hs3, hi3⟩ := hp
          obtain ⟨hr, hl4, hd4, hst4⟩ := fin (some .ret) W3 hs3
          exact ⟨_, _, hr, hst4, .inr ⟨rfl, .ret, hIx _ _ _ hi3 (hchg2 _ _), hl4, hd4⟩⟩
        | exit id =>
          obtain ⟨hs3, hi3⟩ := hp
          obtain ⟨hr, hl4, hd4, hst4⟩ := fin (some (.exit id)) W3 hs3
          exact ⟨_, _, hr, hst4, .inr ⟨rfl, .exit id, hIx _ _ _ hi3 (hchg2 _ _), hl4, hd4⟩⟩
        | goto t =>
          obtain ⟨hs3, hi3⟩ := hp
          obtain ⟨hr, hl4, hd4, hst4⟩ := fin (some (.goto t)) W3 hs3
          exact ⟨_, _, hr, hst4, .inr ⟨rfl, .goto t, hIx _ _ _ hi3 (hchg2 _ _), hl4, hd4⟩⟩
        | panic ch => exact hp.elim
        | outgrown => exact hp.elim
      | ret => exact hp.elim
      | exit id => exact hp.elim
      | goto t => exact hp.elim
      | panic ch => exact hp.elim
      | outgrown => exact hp.elim
    · rintro e W2 ⟨⟨v, rfl⟩, (⟨n₁, hn, hi, hl, hd⟩ | ⟨c, hi, hl, hd⟩)⟩
      · have hr := run_endLoop (P := P) hl (by rw [hrec]; simp)
        rw [hrec] at hr
        exact ⟨none, _, hr, hdone _ n₁ _ (Nat.le_refl _) (by omega) (by omega) (hI n₁ len _ _ (by omega) hi ((putObj_chg _ _ _).mono fun i _ e => ⟨by omega, by omega⟩)) ((World.putObj_heap_other (by omega)).trans hd)⟩
      · have hr := run_endLoop (P := P) hl (by rw [hrec]; simp)
        rw [hrec] at hr
        exact ⟨some c, _, hr, hstop _ c _ (Nat.le_refl _) (hIx c _ _ hi ((putObj_chg _ _ _).mono fun i _ e => show w.heap.size ≤ i by omega)) ((World.putObj_heap_other (by omega)).trans hd)⟩
end Go.Proofs.Ytenhfphgobalfaa

/- A disk that is none; what is refused ahead of all else. -/
namespace Go.Proofs.Ytenhfphgobalfaa
open Go.RowKit

/-- No disk: nil, or a zero one. -/
def NoDisk (w : World) (v : Value) : Prop := v = .pointer none ∨ ∃ d, v = .pointer (some ⟨d, 0, none⟩) ∧ w.cell? ⟨d, 0, none⟩ = some (.int .i64 0)
/-- A disk's cell for its room. -/
def IsDisk (w : World) (d : Nat) : Prop := ∃ r : Nat, 1024 ≤ r ∧ w.cell? ⟨d, 0, none⟩ = some (.int .i64 (r : Int))

theorem Disk.isDisk {w : World} {S : Nat → Prop} {B d room : Nat} {F : List Fl} (h : Disk w S B d room F) : IsDisk w d := by
  obtain ⟨⟨m, D, V, h1, _⟩, _, _, hl, _⟩ := h
  exact ⟨room, hl, by simp [World.cell?, h1]⟩
theorem IsDisk.kept {w w' : World} {d : Nat} (h : IsDisk w d) (hk : w'.heap[d]? = w.heap[d]?) : IsDisk w' d := by
  obtain ⟨r, h1, h2⟩ := h
  exact ⟨r, h1, (World.cell?_of_block hk).trans h2⟩
theorem IsDisk.lt {w : World} {d : Nat} (h : IsDisk w d) : d < w.heap.size := by
  obtain ⟨r, _, h2⟩ := h
  exact World.block_lt_of_cell? w _ h2
theorem IsDisk.ext {w w' : World} {d : Nat} (h : IsDisk w d) (hx : Ext w w') : IsDisk w' d := h.kept (hx.block d h.lt)
theorem NoDisk.ext {w w' : World} {v : Value} (h : NoDisk w v) (hx : Ext w w') : NoDisk w' v := by
  rcases h with h | ⟨d, h, hc⟩
  · exact .inl h
  · exact .inr ⟨d, h, (hx.cell (p := ⟨d, 0, none⟩) (World.block_lt_of_cell? w _ hc)).trans hc⟩

set_option maxHeartbeats 1000000 in
theorem none_no {w : World} {d : Nat} (h : IsDisk w d) : Calls Try.prog 49 #[.pointer (some ⟨d, 0, none⟩)] w fun e w' => e = .returned (.bool false) ∧ w = w' := by
  obtain ⟨r, hr, hc⟩ := h
  have h0 : ((r : Int) == 0) = false := by simp; omega
  go_enter Try.func49, Try.ntmps49
  go_wp2
  go_ret
  exact ⟨rfl, rfl⟩
set_option maxHeartbeats 1000000 in
theorem none_yes {w : World} {v : Value} (h : NoDisk w v) : Calls Try.prog 49 #[v] w fun e w' => e = .returned (.bool true) ∧ w = w' := by
  rcases h with rfl | ⟨d, rfl, hc⟩
  · go_enter Try.func49, Try.ntmps49
    go_wp2
    go_ret
    exact ⟨rfl, rfl⟩
  · go_enter Try.func49, Try.ntmps49
    go_wp2
    go_ret
    exact ⟨rfl, rfl⟩

/-- Some names of a row. -/
structure Names (w : World) (A : Option Addr) (ns : List ByteArray) : Prop where
  sl : Sl w 0 w.heap.size A (ns.map Value.string)
  sz : ∀ s ∈ ns, s.size ≤ maxLen
  len : ns.length ≤ 1000000000000000000

/-- What answers a number. -/
def Ans (Q : Int → World → Prop) (e : Ending) (w : World) : Prop := ∃ x : Int, e = .returned (.int .i64 x) ∧ Q x w

set_option maxHeartbeats 1000000 in
theorem refused_nil {w : World} {v f l : Value} (h : NoDisk w v) : Calls Try.prog 45 #[v, f, l] w fun e w' => e = .returned (.int .i64 1) ∧ w = w' := by
  have HC := Lib.hid (none_yes h)
  clear h
  go_enter Try.func45, Try.ntmps45
  go_wp2_with fail
  refine Calls.mono HC.out ?_
  rintro e w' ⟨rfl, rfl⟩
  go_wp2_with fail
  go_ret
  exact ⟨rfl, rfl⟩

set_option maxHeartbeats 2000000 in
theorem refused_any {w : World} {d : Nat} (h : IsDisk w d) {A : Option Addr} {c : Nat} {ns : List ByteArray} (hn : Names w A ns) {g : Nat} {lb : Array Value} (eg : ∀ args w, (callFunc g args).run Try.prog w = .ok (.enter g args) w) {Q : Int → World → Prop}
    (hbad : (∃ s ∈ ns, good s.data.toList = false) → Q 2 w) (hok : (∀ s ∈ ns, good s.data.toList = true) → Calls Try.prog g lb w (Ans Q)) :
    Calls Try.prog 45 #[.pointer (some ⟨d, 0, none⟩), .func (.func g) #[] lb, .slice A ns.length c] w (Ans Q) := by
  have HC := Lib.hid (none_no h)
  have HN := Lib.hid hn
  have HB := Lib.hid hbad
  have HO := Lib.hid hok
  have hlen := hn.len
  clear h hn hbad hok
  go_enter Try.func45, Try.ntmps45
  go_wp2_with fail
  refine Calls.mono HC.out ?_
  rintro e w' ⟨rfl, rfl⟩
  go_wp2_with fail
  go_loop [8, 13] (fun _ i => ∃ k : Nat, k ≤ ns.length ∧ i = .int .i64 (k : Int) ∧ Hid (∀ s ∈ ns.take k, good s.data.toList = true)) (fun _ i => ns.length - (intOf i).toNat)
  case atStart => exact ⟨0, Nat.zero_le _, rfl, by unfold Hid; simp⟩
  case round =>
    obtain ⟨k, hk, rfl, HA⟩ := hrel
    by_cases hlt : k < ns.length
    · obtain ⟨b, o, rfl, _, _, hcell⟩ := HN.out.sl.at_ (i := k) (by simpa using hlt)
      rw [List.getElem_map] at hcell
      have HM := Lib.hid (mayBe_any ns[k] w (HN.out.sz _ (List.getElem_mem hlt)))
      cases hg : good ns[k].data.toList
      · have HQ := Lib.hid (HB.out ⟨_, List.getElem_mem hlt, hg⟩)
        rw [hg] at HM
        clear hg
        go_wp2_with fail
        refine Calls.mono HM.out ?_
        rintro e w' ⟨rfl, rfl⟩
        go_wp2_with fail
        go_ret
        exact ⟨2, rfl, HQ.out⟩
      · have HA' : Hid (∀ s ∈ ns.take (k + 1), good s.data.toList = true) := by
          intro s hs
          rw [List.take_succ_eq_append_getElem hlt] at hs
          rcases List.mem_append.1 hs with h | h
          · exact HA.out s h
          · simp at h; rw [h]; exact hg
        rw [hg] at HM
        clear hg
        go_wp2_with fail
        refine Calls.mono HM.out ?_
        rintro e w' ⟨rfl, rfl⟩
        go_wp2_with fail
        go_round
        case rel => exact ⟨k + 1, by omega, by go_num, HA'⟩
        case measure => simp [intOf]; omega
    · obtain rfl : k = ns.length := by omega
      have HF := Lib.hid (HO.out (fun s hs => HA.out s (by rw [List.take_length]; exact hs)))
      go_wp2_with fail
      refine Calls.mono HF.out ?_
      rintro e w' ⟨x, rfl, HQ⟩
      have HQ := Lib.hid HQ
      go_wp2_with fail
      go_ret
      exact ⟨x, rfl, HQ.out⟩
end Go.Proofs.Ytenhfphgobalfaa

/- Whether there is no such file. -/
namespace Go.Proofs.Ytenhfphgobalfaa
open Go.RowKit

theorem cell_new {w : World} {p : Addr} {v : Value} (h : w.cell? p = some v) (o : Obj) : (w.alloc o).cell? p = some v := (World.cell?_alloc_lt w o p (World.block_lt_of_cell? w _ h)).trans h

set_option maxHeartbeats 1000000 in
theorem lacks_any (d : Option Addr) (s : ByteArray) (w : World) : Calls Try.prog 44 #[.pointer d, .string s] w fun e w' =>
    e = .returned (.func (.func 62) #[] #[.pointer (some ⟨w.heap.size, 0, none⟩), .pointer (some ⟨w.heap.size + 1, 0, none⟩)]) ∧ w' = (w.alloc (.cells #[.pointer d] 25)).alloc (.cells #[.string s] 9) := by
  go_enter Try.func44, Try.ntmps44
  go_wp2
  go_ret
  exact ⟨rfl, rfl⟩

/-- What a disk's cells and its map give, in every world that leaves its blocks as they are. -/
structure Seen (w : World) (d m : Nat) (S : Nat → Prop) (F : List Fl) (V : List UInt8 → Value) (D : DataW Value) (room : Nat) : Prop where
  block : w.heap[d]? = some (.cells #[.int .i64 (room : Int), .map (some m)] 79 (0, 0))
  own : w.ownsMap Try.prog 9 rdf m F.length D
  con : Con D F V
  mine : S d ∧ S m
theorem Seen.c0 {w : World} {d m room : Nat} {S : Nat → Prop} {F : List Fl} {V : List UInt8 → Value} {D : DataW Value} (h : Seen w d m S F V D room) : w.cell? ⟨d, 0, none⟩ = some (.int .i64 (room : Int)) := by simp [World.cell?, h.block]
theorem Seen.c1 {w : World} {d m room : Nat} {S : Nat → Prop} {F : List Fl} {V : List UInt8 → Value} {D : DataW Value} (h : Seen w d m S F V D room) : w.cell? ⟨d, 1, none⟩ = some (.map (some m)) := by simp [World.cell?, h.block]
theorem Seen.kept {w w' : World} {d m room : Nat} {S : Nat → Prop} {F : List Fl} {V : List UInt8 → Value} {D : DataW Value} (h : Seen w d m S F V D room) (hk : ∀ k, S k → k < w.heap.size → w'.heap[k]? = w.heap[k]?) : Seen w' d m S F V D room :=
  ⟨(hk d h.mine.1 (Array.getElem?_eq_some_iff.1 h.block).1).trans h.block, map_kept h.own (hk m h.mine.2 h.own.lt), h.con, h.mine⟩
theorem Seen.ext {w w' : World} {d m room : Nat} {S : Nat → Prop} {F : List Fl} {V : List UInt8 → Value} {D : DataW Value} (h : Seen w d m S F V D room) (hx : Ext w w') : Seen w' d m S F V D room := h.kept fun k _ hl => hx.block k hl
theorem Disk.seen {w : World} {S : Nat → Prop} {B d room : Nat} {F : List Fl} (h : Disk w S B d room F) : ∃ m D V, Seen w d m S F V D room ∧ (∀ f ∈ F, FileAt w S B f (V f.name)) ∧ B ≤ m ∧
    (∀ f ∈ F, ∀ g ∈ F, f.name ≠ g.name → ∀ b, blk (V f.name) = some b → blk (V g.name) ≠ some b) := by
  obtain ⟨⟨m, D, V, h1, h2, h3, h4, h5, h6, h7⟩, a, _⟩ := h
  exact ⟨m, D, V, ⟨h1, h2, h3, a, h6⟩, h4, h7, h5⟩
theorem ext_alloc (w : World) (o : Obj) : Ext w (w.alloc o) := (Below.refl _ _).alloc (Nat.le_refl _) _

/-- ErrNone, where a file is not there. -/
def lackN : Bool → Int | true => 0 | false => 6
/-- The answer of a name's being there. -/
theorem lacks_is {w : World} {d m bd bn room : Nat} {S : Nat → Prop} {F : List Fl} {V : List UInt8 → Value} {D : DataW Value} {s : ByteArray} (h : Seen w d m S F V D room)
    (hd : w.cell? ⟨bd, 0, none⟩ = some (.pointer (some ⟨d, 0, none⟩))) (hn : w.cell? ⟨bn, 0, none⟩ = some (.string s)) {A : Option Addr} {n c : Nat} {x : Int} {b : Bool}
    (hl : ∀ w', Ext w w' → (Instr.lookup 77 (.map (some m)) (.string s) true).run Try.prog w' = .ok (.tuple #[fv A n c x, .bool b]) w') :
    Calls Try.prog 62 #[.pointer (some ⟨bd, 0, none⟩), .pointer (some ⟨bn, 0, none⟩)] w fun e w' => e = .returned (.int .i64 (lackN b)) ∧ Below w.heap.size w w' := by
  unfold fv at hl
  have hc := h.c1
  have hl1 := fun (o : Obj) => hl (w.alloc o).drew ((ext_alloc w o).trans (Ext.drew _))
  have hl2 := hl w.drew (Ext.drew w)
  have hd1 := fun (o : Obj) => cell_new hd o
  have hn1 := fun (o : Obj) => cell_new hn o
  have hc1 := fun (o : Obj) => cell_new hc o
  clear hl h
  cases b
  all_goals
    go_enter Try.func62, Try.ntmps62
    go_wp2
    go_region
    all_goals
      go_wp2
      go_ret
      refine ⟨rfl, ?_⟩
      exact ((Below.refl _ w).alloc (Nat.le_refl _) _).drew

/-- Is there a file of that name? -/
def there (F : List Fl) (n : List UInt8) : Bool := F.any fun f => f.name == n
theorem there_yes {F : List Fl} {n : List UInt8} (h : there F n = true) : ∃ f ∈ F, f.name = n := by
  obtain ⟨f, hf, e⟩ := List.any_eq_true.1 h
  exact ⟨f, hf, by simpa using e⟩
theorem there_no {F : List Fl} {n : List UInt8} (h : there F n = false) : ¬ ∃ f ∈ F, f.name = n := by
  rintro ⟨f, hf, e⟩
  have := List.any_eq_false.1 h f hf
  simp [e] at this

/-- What a look gives, whether or not the file is there. -/
theorem Seen.look {w : World} {d m room : Nat} {S : Nat → Prop} {F : List Fl} {V : List UInt8 → Value} {D : DataW Value} (h : Seen w d m S F V D room) {s : ByteArray} (hs : s.size ≤ maxLen) (hV : ∀ f ∈ F, ∃ A n c x, V f.name = fv A n c x) :
    ∃ A n c x, (∀ w', Ext w w' → (Instr.lookup 77 (.map (some m)) (.string s) true).run Try.prog w' = .ok (.tuple #[fv A n c x, .bool (there F s.data.toList)]) w') ∧
      (∀ w', Ext w w' → (Instr.lookup 77 (.map (some m)) (.string s) false).run Try.prog w' = .ok (fv A n c x) w') ∧
      (∀ f ∈ F, f.name = s.data.toList → V f.name = fv A n c x) ∧ (there F s.data.toList = false → A = none ∧ n = 0 ∧ c = 0 ∧ x = 0) := by
  cases ht : there F s.data.toList
  · have hn := there_no ht
    refine ⟨none, 0, 0, 0, fun w' hx => (look_no (h.ext hx).own h.con hs hn).2, fun w' hx => (look_no (h.ext hx).own h.con hs hn).1, fun f hf e => absurd ⟨f, hf, e⟩ hn, fun _ => ⟨rfl, rfl, rfl, rfl⟩⟩
  · obtain ⟨f, hf, e⟩ := there_yes ht
    obtain ⟨A, n, c, x, hv⟩ := hV f hf
    refine ⟨A, n, c, x, fun w' hx => ?_, fun w' hx => ?_, fun g hg e' => by rw [same_file h.con.nodup hg hf (e'.trans e.symm)]; exact hv, fun h => by cases h⟩
    · rw [← hv]; exact (look_yes (h.ext hx).own h.con hf hs e).2
    · rw [← hv]; exact (look_yes (h.ext hx).own h.con hf hs e).1
theorem FileAt.shape {w : World} {S : Nat → Prop} {B : Nat} {f : Fl} {v : Value} (h : FileAt w S B f v) : ∃ A n c x, v = fv A n c x := by
  obtain ⟨⟨u, rfl, hr, _⟩, _⟩ := h
  obtain ⟨A, c, rfl, _⟩ := Sl.of_own hr
  exact ⟨A, _, c, _, rfl⟩
end Go.Proofs.Ytenhfphgobalfaa
