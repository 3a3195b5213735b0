/- Words Plain Wnum Args Wrow Pread Wrd Wnumber Wwhole, joined. -/
import Derived.Test.YtgflhbpmkcggnaaRows
import Derived.WalkKit
import Derived.Below
import Derived.Laws.OwnMore
import Derived.Deep.Draws
import Derived.Laws.BytesArg
import Derived.Lib.Hide
import Derived.OwnWalk
import Derived.Laws.AppendOwnNone
import Derived.Lib.AppendZerosOnto
import Derived.Lib.AppendZeros
import Derived.WalkLawsBesides
import Derived.WalkSpells
import Derived.ProofKit
import Derived.Outline
import Derived.OpenShut
import Derived.ShutString
import Derived.ChangeOld
import Derived.Deep.Slices

/- Words for memory that this seat's proofs share: a slice that reads as a row of cells in blocks of a known interval, and what keeps it. -/
namespace Go.Proofs.Ytgflhbpmkcggnaa
open Go.RowKit

/-- The slice value that begins at 'A' reads as 'xs'; its cells lie in one block 'b' with 'lo ≤ b < hi'. Of no cells nothing is said. -/
def Sl (w : World) (lo hi : Nat) (A : Option Addr) (xs : List Value) : Prop :=
  xs = [] ∨ ∃ b o, A = some ⟨b, o, none⟩ ∧ lo ≤ b ∧ b < hi ∧ ∀ i u, xs[i]? = some u → w.cell? ⟨b, o + i, none⟩ = some u

theorem addr_add (b o i : Nat) : (⟨b, o, none⟩ : Addr).add i = ⟨b, o + i, none⟩ := by unfold Addr.add; split <;> simp_all

section
variable {w w' : World} {lo hi : Nat} {A : Option Addr} {xs : List Value}

theorem Sl.nil (w : World) (lo hi : Nat) (A : Option Addr) : Sl w lo hi A [] := .inl rfl

theorem Sl.at_ (h : Sl w lo hi A xs) {i : Nat} (hi' : i < xs.length) :
    ∃ b o, A = some ⟨b, o, none⟩ ∧ lo ≤ b ∧ b < hi ∧ w.cell? ⟨b, o + i, none⟩ = some xs[i] := by
  rcases h with rfl | ⟨b, o, e, h1, h2, hc⟩
  · simp at hi'
  · exact ⟨b, o, e, h1, h2, hc i _ (List.getElem?_eq_getElem hi')⟩

theorem Sl.keep (h : Sl w lo hi A xs) (hk : ∀ p : Addr, lo ≤ p.block → p.block < hi → w'.cell? p = w.cell? p) : Sl w' lo hi A xs := by
  rcases h with rfl | ⟨b, o, e, h1, h2, hc⟩
  · exact .inl rfl
  · exact .inr ⟨b, o, e, h1, h2, fun i u hu => (hk ⟨b, o + i, none⟩ h1 h2).trans (hc i u hu)⟩

theorem Sl.wide (h : Sl w lo hi A xs) {lo' hi' : Nat} (h1 : lo' ≤ lo) (h2 : hi ≤ hi') : Sl w lo' hi' A xs := by
  rcases h with rfl | ⟨b, o, e, h3, h4, hc⟩
  · exact .inl rfl
  · exact .inr ⟨b, o, e, by omega, by omega, hc⟩

theorem Sl.below {B : Nat} (h : Sl w lo hi A xs) (hb : Below B w w') (hB : hi ≤ B) : Sl w' lo hi A xs :=
  h.keep fun p _ hp => hb.cell (by omega)

theorem Sl.grown {row : Option Nat} (h : Sl w lo hi A xs) (hg : w.grownBy w' row) (hB : hi ≤ w.heap.size) (hr : ∀ k, row = some k → k < lo ∨ hi ≤ k) : Sl w' lo hi A xs :=
  h.keep fun p h1 h2 => World.cell?_of_block (hg.block p.block (by omega) (fun e => by have := hr _ e.symm; omega))

theorem Sl.alloc (h : Sl w lo hi A xs) (hB : hi ≤ w.heap.size) (o : Obj) : Sl (w.alloc o) lo hi A xs :=
  h.keep fun p _ hp => World.cell?_alloc_lt w o p (by omega)

theorem Sl.setCell (h : Sl w lo hi A xs) {p : Addr} (hp : p.block < lo ∨ hi ≤ p.block) (u : Value) : Sl (w.setCell p u) lo hi A xs :=
  h.keep fun q h1 h2 => World.cell?_setCell_other w p q u (fun e => by subst e; omega)

theorem Sl.drew (h : Sl w lo hi A xs) : Sl w.drew lo hi A xs := h
theorem Sl.drewN (h : Sl w lo hi A xs) (n : Nat) : Sl (w.drewN n) lo hi A xs := h

theorem Sl.drop (h : Sl w lo hi A xs) {k cap : Nat} (hk : k ≤ xs.length) (hc : xs.length ≤ cap) :
    Sl w lo hi (if cap = k then A else A.map (·.add k)) (xs.drop k) := by
  rcases h with rfl | ⟨b, o, rfl, h1, h2, hcell⟩
  · exact .inl (by simp)
  · by_cases hx : k = xs.length
    · exact .inl (by simp [hx])
    · rw [if_neg (by omega)]
      refine .inr ⟨b, o + k, by simp [addr_add], h1, h2, fun i u hu => ?_⟩
      rw [Nat.add_assoc]
      exact hcell _ _ (by rw [← hu, List.getElem?_drop])

theorem Sl.take (h : Sl w lo hi A xs) (k : Nat) : Sl w lo hi A (xs.take k) := by
  rcases h with rfl | ⟨b, o, e, h1, h2, hc⟩
  · exact .inl (by simp)
  · refine .inr ⟨b, o, e, h1, h2, fun i u hu => hc i u ?_⟩
    rw [List.getElem?_take] at hu
    split at hu
    · exact hu
    · cases hu

theorem Sl.of_own {base : Nat} {e : TypeId} {v : Value} {n : Nat} (h : w.ownsRow base e 1 v n xs) :
    ∃ A c, v = .slice A n c ∧ n ≤ c ∧ c ≤ maxLen ∧ xs.length = n ∧ Sl w base w.heap.size A xs := by
  rcases h with ⟨hl, ⟨rfl, rfl⟩ | ⟨g, cap, cur, rfl, hb, hh, hn, hm, hcs, rfl⟩⟩
  · exact ⟨none, 0, rfl, Nat.le_refl _, by simp [maxLen], by simpa using hl, .inl (List.eq_nil_of_length_eq_zero (by simpa using hl))⟩
  · refine ⟨some ⟨g, 0, none⟩, cap, rfl, hn, hm, by simpa using hl, .inr ⟨g, 0, rfl, hb, ?_, fun i u hu => ?_⟩⟩
    · rcases Nat.lt_or_ge g w.heap.size with h | h
      · exact h
      · rw [Array.getElem?_eq_none h] at hh; cases hh
    · rw [Nat.zero_add, cell_of_row w g i cur e (0, 0) hh]
      rw [List.getElem?_take] at hu
      split at hu
      · rw [← Array.getElem?_toList]; exact hu
      · cases hu
end

/-- Bytes as cells. -/
def bv (l : List Nat) : List Value := l.map fun n : Nat => Value.int .u8 (n : Int)
theorem bv_length (l : List Nat) : (bv l).length = l.length := by simp [bv]
theorem bv_append (l r : List Nat) : bv (l ++ r) = bv l ++ bv r := by simp [bv]
theorem bv_drop (l : List Nat) (k : Nat) : bv (l.drop k) = (bv l).drop k := by simp [bv]
theorem bv_take (l : List Nat) (k : Nat) : bv (l.take k) = (bv l).take k := by simp [bv]
theorem bv_one (l : List Nat) : ∀ u ∈ bv l, u.oneCell' = true := by
  intro u hu
  simp only [bv, List.mem_map] at hu
  obtain ⟨n, _, rfl⟩ := hu
  rfl
theorem bv_get (l : List Nat) (i : Nat) (h : i < l.length) : (bv l)[i]'(by rw [bv_length]; exact h) = .int .u8 (l[i] : Int) := by simp [bv]

/-- A slice of bytes that reads as 'l'. -/
def By (w : World) (lo hi : Nat) (A : Option Addr) (l : List Nat) : Prop := Sl w lo hi A (bv l)

theorem By.at_ {w : World} {lo hi : Nat} {A : Option Addr} {l : List Nat} (h : By w lo hi A l) {i : Nat} (hi' : i < l.length) :
    ∃ b o, A = some ⟨b, o, none⟩ ∧ lo ≤ b ∧ b < hi ∧ w.cell? ⟨b, o + i, none⟩ = some (.int .u8 (l[i] : Int)) := by
  obtain ⟨b, o, e, h1, h2, hc⟩ := Sl.at_ h (i := i) (by rw [bv_length]; exact hi')
  exact ⟨b, o, e, h1, h2, by rw [hc, bv_get l i hi']⟩

theorem By.drop {w : World} {lo hi : Nat} {A : Option Addr} {l : List Nat} (h : By w lo hi A l) {k cap : Nat} (hk : k ≤ l.length) (hc : l.length ≤ cap) :
    By w lo hi (if cap = k then A else A.map (·.add k)) (l.drop k) := by
  unfold By
  rw [bv_drop]
  exact Sl.drop h (by rw [bv_length]; exact hk) (by rw [bv_length]; exact hc)

/-- The text that bytes make. -/
def tx (l : List Nat) : ByteArray := strOfNums (l.map fun n : Nat => (n : Int))
theorem tx_inj {l r : List Nat} (hl : ∀ n ∈ l, n < 256) (hr : ∀ n ∈ r, n < 256) (h : tx l = tx r) : l = r := by
  have h1 : (tx l).data.toList = (tx r).data.toList := by rw [h]
  unfold tx at h1
  rw [strOfNums_data, strOfNums_data, List.map_map, List.map_map] at h1
  have h2 : ∀ l : List Nat, (∀ n ∈ l, n < 256) → (l.map ((fun n : Int => UInt8.ofNat n.toNat) ∘ fun n : Nat => (n : Int))).map UInt8.toNat = l := by
    intro l
    induction l with
    | nil => simp
    | cons a l ih =>
      intro hb
      have ha : a < 256 := hb a (by simp)
      have := ih (fun n hn => hb n (by simp [hn]))
      simp only [List.map_cons, List.cons.injEq]
      exact ⟨by simp [Nat.mod_eq_of_lt ha], this⟩
  rw [← h2 l hl, ← h2 r hr, h1]

section
variable {P : Program}
theorem run_text (w : World) {lo hi : Nat} {A : Option Addr} {l : List Nat} (src e : TypeId) (hs : P.underlying src = some (.slice e)) (he : P.underlying e = some (.int .u8))
    (h : By w lo hi A l) (n c : Nat) (hn : l.length = n) (dst : TypeId) (hd : P.underlying dst = some .string) :
    (convert src dst (.slice A n c)).run P w = .ok (.string (tx l)) w := by
  subst hn
  rcases h with h | ⟨b, o, rfl, _, _, hc⟩
  · have hl : l = [] := by simpa [bv] using h
    subst hl
    rw [run_convert_bytes_string w src dst e A _ c hs he hd]
    rcases A with _ | a
    · simp [Conv.bytesToString]; rfl
    · have hld : (loadCells a 0).run P w = .ok (([] : List Int).map (Value.int .u8)).toArray w := by
        simpa using run_loadCells_list (P := P) w a [] (fun j v hj => by simp at hj)
      rw [show ([] : List Nat).length = 0 from rfl, run_bytesToString w a 0 c [] hld]
      rfl
  · refine run_convert_bytes_arg w src e hs he b o l.length c (l.map fun n : Nat => (n : Int)) (by simp) (fun i hi => ?_) dst hd
    rw [hc i (.int .u8 (l[i] : Int)) (by simp [bv, List.getElem?_eq_getElem hi])]
    simp [List.getElem?_eq_getElem hi]
end

/-- 'out = append(out, u)' onto a row of the call's own: one value more at its end. -/
theorem wpList_push {P : Program} {ops : Array Oper} {rest : List Oper} {o : Oper} {a : Act} {Q : Exit → Act → World → Prop} {wr : World} (hgd : o.guard = none) (s x : Operand) (t : TypeId)
    (ho : o.op = .call { callee := .builtin .append, args := #[s, x], argTypes := #[t, t] })
    (B : Nat) (e : TypeId) (i : TypeInfo) (z : Value) (bytes : Nat) (ht : P.underlying t = some (.slice e)) (hi : P.info? e = some i) (hz : i.zero = some z)
    (hsize : i.size = 1) (hby : i.bytes = bytes) (hzs : z.cells.size = 1)
    (v : Value) (n : Nat) (xs : List Value) (hs : a.eval s = v) (hown : wr.ownsRow B e 1 v n xs) (u : Value) (hu : u.oneCell' = true)
    (hx : a.eval x = .slice (some ⟨wr.heap.size, 0, none⟩) 1 1) (h63 : n + 1 ≤ maxLen) (hbytes : (n + 1) * bytes ≤ 140737488355328) (hB : B ≤ wr.heap.size)
    (h : ∀ v' w', w'.ownsRow B e 1 v' (n + 1) (xs ++ [u]) → (∀ w0, Below B w0 wr → Below B w0 w') → wpList P ops Q rest (a.put o.dst v') w') :
    wpList P ops Q (o :: rest) a (wr.alloc (.cells #[u] e)) := by
  refine wpList_append_own _ hgd s x t ho B e i z 1 bytes ht hi hz hsize hby hzs (by omega) v n xs hs (hown.alloc _) ⟨wr.heap.size, 0, none⟩ 1 1 [u] hx rfl (fun j q hj => ?_) (fun q hq => ?_) h63 hbytes
    (Nat.le_trans hB (by simp)) (fun v' w' h2 h3 _ => h v' w' h2 fun w0 hb => ?_)
  · rcases j with _ | j
    · simp at hj
      subst hj
      rw [addr_add, World.cell?_alloc_at _ _ _ _ rfl]
      rfl
    · simp at hj
  · rw [List.mem_singleton] at hq
    subst hq
    exact hu
  · exact (hb.alloc hB _).grown h3 (Nat.le_trans hB (by simp)) (fun k hk => (hown.lt k hk).1)

/-- A slice value of bytes that reads as 'l' in blocks of the interval. -/
def Bs (w : World) (lo hi : Nat) (v : Value) (l : List Nat) : Prop :=
  ∃ A c, v = .slice A l.length c ∧ l.length ≤ c ∧ c ≤ maxLen ∧ (A = none → c = 0) ∧ By w lo hi A l
section
variable {w w' : World} {lo hi : Nat} {v : Value} {l : List Nat}
theorem Bs.nil (w : World) (lo hi : Nat) : Bs w lo hi (.slice none 0 0) [] := ⟨none, 0, rfl, Nat.le_refl _, by simp [maxLen], fun _ => rfl, Sl.nil _ _ _ _⟩
theorem Bs.of (f : ∀ A, By w lo hi A l → By w' lo hi A l) (h : Bs w lo hi v l) : Bs w' lo hi v l := by
  obtain ⟨A, c, e, h1, h2, h3, h4⟩ := h
  exact ⟨A, c, e, h1, h2, h3, f A h4⟩
theorem Bs.below {B : Nat} (h : Bs w lo hi v l) (hb : Below B w w') (hB : hi ≤ B) : Bs w' lo hi v l := h.of fun _ h => Sl.below h hb hB
theorem Bs.grown {row : Option Nat} (h : Bs w lo hi v l) (hg : w.grownBy w' row) (hB : hi ≤ w.heap.size) (hr : ∀ k, row = some k → k < lo ∨ hi ≤ k) : Bs w' lo hi v l := h.of fun _ h => Sl.grown h hg hB hr
theorem Bs.alloc (h : Bs w lo hi v l) (hB : hi ≤ w.heap.size) (o : Obj) : Bs (w.alloc o) lo hi v l := h.of fun _ h => Sl.alloc h hB o
theorem Bs.setCell (h : Bs w lo hi v l) {p : Addr} (hp : p.block < lo ∨ hi ≤ p.block) (u : Value) : Bs (w.setCell p u) lo hi v l := h.of fun _ h => Sl.setCell h hp u
theorem Bs.wide (h : Bs w lo hi v l) {lo' hi' : Nat} (h1 : lo' ≤ lo) (h2 : hi ≤ hi') : Bs w lo' hi' v l := by
  obtain ⟨A, c, e, h3, h4, h5, h6⟩ := h
  exact ⟨A, c, e, h3, h4, h5, Sl.wide h6 h1 h2⟩
theorem Bs.of_own {base e n : Nat} (h : w.ownsRow base e 1 v n (bv l)) : Bs w base w.heap.size v l := by
  have h0 := h
  obtain ⟨A, c, rfl, h1, h2, h3, h4⟩ := Sl.of_own h
  rw [bv_length] at h3
  subst h3
  refine ⟨A, c, rfl, h1, h2, ?_, h4⟩
  rintro rfl
  rcases h0.2 with ⟨he, _⟩ | ⟨g, cap, cur, he, _⟩
  · injection he
  · cases he
end

/-- The call's own new bytes: what a function answers that makes them. -/
def NewBy (w : World) (l : List Nat) (e : Ending) (w' : World) : Prop := ∃ v, e = .returned v ∧ w'.ownsRow w.heap.size 5 1 v l.length (bv l) ∧ Below w.heap.size w w'

theorem t5info : (Try.prog.info? 5).map (fun i => (i.zero, i.size, i.bytes)) = some (some (.int .u8 0), 1, 1) := by kernel_rfl

/-- 'out = append(out, src...)' onto a row of the call's own, the source nil, empty or not. -/
theorem wpList_addall {P : Program} {ops : Array Oper} {rest : List Oper} {o : Oper} {a : Act} {Q : Exit → Act → World → Prop} {wr : World} (hgd : o.guard = none) (s x : Operand) (t : TypeId)
    (ho : o.op = .call { callee := .builtin .append, args := #[s, x], argTypes := #[t, t] })
    (B : Nat) (e : TypeId) (i : TypeInfo) (z : Value) (bytes : Nat) (ht : P.underlying t = some (.slice e)) (hi : P.info? e = some i) (hz : i.zero = some z)
    (hsize : i.size = 1) (hby : i.bytes = bytes) (hzs : z.cells.size = 1)
    (v : Value) (n : Nat) (xs : List Value) (hs : a.eval s = v) (hown : wr.ownsRow B e 1 v n xs)
    (lo hi' : Nat) (A : Option Addr) (m c : Nat) (news : List Value) (hx : a.eval x = .slice A m c) (hnil : A = none → c = 0) (hm : news.length = m) (hsl : Sl wr lo hi' A news)
    (h1 : ∀ u ∈ news, u.oneCell' = true) (h63 : n + m ≤ maxLen) (hbytes : (n + m) * bytes ≤ 140737488355328) (hB : B ≤ wr.heap.size)
    (h : ∀ v' w', w'.ownsRow B e 1 v' (n + m) (xs ++ news) → (∀ w0, Below B w0 wr → Below B w0 w') → wpList P ops Q rest (a.put o.dst v') w') :
    wpList P ops Q (o :: rest) a wr := by
  subst hm
  rcases A with _ | ad
  · have hn : news = [] := by
      rcases hsl with h | ⟨b, o, he, _⟩
      · exact h
      · cases he
    subst hn
    obtain rfl := hnil rfl
    exact wpList_append_own_none hgd s x t ho B e i 1 ht hi v n xs hs hown hx (h v wr (by simpa using hown) fun _ hb => hb)
  · refine wpList_append_own _ hgd s x t ho B e i z 1 bytes ht hi hz hsize hby hzs (by omega) v n xs hs hown ad news.length c news hx (by simp) (fun j q hj => ?_) h1 h63 hbytes hB
      (fun v' w' h2 h3 _ => h v' w' h2 fun w0 hb => hb.grown h3 hB (fun k hk => (hown.lt k hk).1))
    rcases hsl with rfl | ⟨b, o, he, _, _, hc⟩
    · simp at hj
    · injection he with he
      subst he
      rw [addr_add]
      exact hc j q hj
end Go.Proofs.Ytgflhbpmkcggnaa

/- Plain arithmetic of the forms of numbers: nothing of the program stands here. -/
namespace Go.Proofs.Ytgflhbpmkcggnaa

/-- The form of a number. -/
def form (n : Nat) : List Nat := if n < 128 then [n] else (n % 128 + 128) :: form (n / 128)
termination_by n
decreasing_by omega
theorem form_lo {n : Nat} (h : n < 128) : form n = [n] := by rw [form, if_pos h]
theorem form_hi {n : Nat} (h : ¬ n < 128) : form n = (n % 128 + 128) :: form (n / 128) := by rw [form, if_neg h]
theorem form_len (k : Nat) : ∀ n, n < 128 ^ (k + 1) → (form n).length ≤ k + 1 := by
  induction k with
  | zero => intro n h; rw [form_lo (by simpa using h)]; simp
  | succ k ih =>
    intro n h
    by_cases h0 : n < 128
    · rw [form_lo h0]; simp
    · rw [form_hi h0]
      have := ih (n / 128) (by rw [Nat.div_lt_iff_lt_mul (by omega)]; rw [Nat.pow_succ] at h; exact h)
      simp only [List.length_cons]; omega
theorem form_bytes (n : Nat) : ∀ b ∈ form n, b < 256 := by
  induction n using Nat.strongRecOn with
  | ind n ih =>
    by_cases h0 : n < 128
    · rw [form_lo h0]; intro b hb; simp at hb; omega
    · rw [form_hi h0]
      intro b hb
      rcases List.mem_cons.1 hb with rfl | hb
      · omega
      · exact ih (n / 128) (by omega) b hb
end Go.Proofs.Ytgflhbpmkcggnaa
namespace Go.Proofs.Ytgflhbpmkcggnaa
/-- A number of 64 bits (closed to the walk). -/
structure U64 (n : Nat) : Prop where
  lt : n < 18446744073709551616
theorem U64.div {n : Nat} (h : U64 n) (k : Nat) : U64 (n / k) := ⟨Nat.lt_of_le_of_lt (Nat.div_le_self _ _) h.lt⟩
theorem form_len64 {n : Nat} (h : U64 n) : (form n).length ≤ 10 := form_len 9 n (Nat.lt_of_lt_of_le h.lt (by decide))

/-- A signed number as one from 0 on: near 0 stays near 0. -/
def zz (n : Int) : Nat := if 0 ≤ n then (2 * n).toNat else (-2 * n - 1).toNat
theorem zz_pos {n : Int} (h : 0 ≤ n) : (zz n : Int) = n * 2 := by unfold zz; rw [if_pos h]; omega
theorem zz_neg {n : Int} (h : n < 0) : (zz n : Int) = -2 * n - 1 := by unfold zz; rw [if_neg (by omega)]; omega
theorem zz_64 {n : Int} (h1 : -9223372036854775808 ≤ n) (h2 : n ≤ 9223372036854775807) : U64 (zz n) := by
  constructor
  rcases Int.lt_or_le n 0 with h | h
  · have := zz_neg h; omega
  · have := zz_pos h; omega
theorem xor_ones (x : Nat) (h : x < 18446744073709551616) : x ^^^ 18446744073709551615 = 18446744073709551615 - x := by
  have h1 : ((BitVec.ofNat 64 x) ^^^ BitVec.allOnes 64).toNat = (~~~ (BitVec.ofNat 64 x)).toNat := by rw [BitVec.xor_allOnes]
  rw [BitVec.toNat_xor, BitVec.toNat_not, BitVec.toNat_allOnes, BitVec.toNat_ofNat] at h1
  have e : x % 2 ^ 64 = x := Nat.mod_eq_of_lt (by omega)
  rw [e] at h1
  simpa using h1

theorem flat_take_le (ls : List (List Nat)) (k : Nat) : (ls.take k).flatten.length ≤ ls.flatten.length := by
  have h := congrArg List.flatten (List.take_append_drop k ls)
  rw [List.flatten_append] at h
  have := congrArg List.length h
  simp only [List.length_append] at this
  omega
theorem flat_take_succ (ls : List (List Nat)) {k : Nat} (h : k < ls.length) : (ls.take (k + 1)).flatten = (ls.take k).flatten ++ ls[k] := by
  rw [List.take_succ_eq_append_getElem h, List.flatten_append]; simp
/-- How many bytes the first k rows have together. -/
def tot (ls : List (List Nat)) (k : Nat) : Nat := (ls.take k).flatten.length
theorem tot_zero (ls : List (List Nat)) : tot ls 0 = 0 := by simp [tot]
theorem tot_le (ls : List (List Nat)) (k : Nat) : tot ls k ≤ ls.flatten.length := flat_take_le ls k
theorem tot_succ (ls : List (List Nat)) {k : Nat} (h : k < ls.length) : tot ls (k + 1) = tot ls k + ls[k].length := by
  unfold tot; rw [flat_take_succ ls h, List.length_append]
theorem tot_all (ls : List (List Nat)) : tot ls ls.length = ls.flatten.length := by unfold tot; rw [List.take_length]
end Go.Proofs.Ytgflhbpmkcggnaa

/- The writers of wire: Number, Signed, Flag answer the forms, in new memory. -/
namespace Go.Proofs.Ytgflhbpmkcggnaa
open Go.ChangeShapes Go.WideShapes Go.ChangeAt Go.RowKit

theorem or128 (m : Nat) : bits .or .u8 ((m : Int) % 256) 128 = (m : Int) % 128 + 128 := by
  have h : ∀ x, x < 256 → x ||| 128 = x % 128 + 128 := by decide +kernel
  have h2 := u8_or_nat (m % 256) 128 (by omega) (by omega)
  rw [h _ (by omega)] at h2
  have e1 : ((m % 256 : Nat) : Int) = (m : Int) % 256 := by omega
  have e2 : ((m % 256 % 128 + 128 : Nat) : Int) = (m : Int) % 128 + 128 := by omega
  rw [e1, e2] at h2
  exact h2

set_option maxHeartbeats 400000 in
theorem number_any (n : Nat) (h1 : U64 n) (w : World) :
    Calls Try.prog 52 #[.int .u64 n] w (NewBy w (form n)) := by
  obtain ⟨i0, hi, hz0, hz1, hz2⟩ := info_parts t5info
  have HI := Lib.hid hi
  clear hi
  go_enter Try.func52, Try.ntmps52
  go_wp2
  go_loopw [0, 3] (fun x v wr => ∃ (m : Nat) (pre : List Nat), x = .int .u64 (m : Int) ∧ U64 m ∧ pre ++ form m = form n ∧ wr.ownsRow w.heap.size 5 1 v pre.length (bv pre) ∧ Below w.heap.size w wr) (fun x _ _ => (intOf x).toNat)
  case atStart => exact ⟨n, [], rfl, h1, rfl, World.ownsRow_nil _ _ _ _, Below.refl _ _⟩
  case round =>
    obtain ⟨m, pre, rfl, hm, hp, hown, hb⟩ := hrel
    have hl : pre.length + (form m).length ≤ 10 := by
      have := congrArg List.length hp
      have h2 := form_len64 h1
      simp at this; omega
    have hz := hb.size
    have HP := Lib.hid hp
    clear hp
    by_cases hlt : m < 128
    · have hd : decide ((128 : Int) ≤ (m : Int)) = false := by simp; omega
      have hl1 : pre.length + 1 ≤ 10 := by rw [form_lo hlt] at hl; simpa using hl
      go_wp2_with (at_builtin; refine wpList_push rfl (.tmp 14) (.tmp 17) 29 rfl w.heap.size 5 i0 (.int .u8 0) 1 Try.underlying29 HI.out hz0 hz1 hz2 rfl _ _ _ rfl hown _ rfl rfl ?c3 ?c4 hz ?_)
      case c3 => unfold maxLen; omega
      case c4 => omega
      intro v1 w1 hown1 hb1
      go_wp2
      go_ret
      refine ⟨v1, rfl, ?_, hb1 _ hb⟩
      rw [← HP.out, form_lo hlt]
      simpa [bv] using hown1
    · have hd : decide ((128 : Int) ≤ (m : Int)) = true := by simp; omega
      have hl1 : pre.length + 1 ≤ 10 := by rw [form_hi hlt] at hl; simp at hl; omega
      have hor := or128 m
      go_wp2_with (at_builtin; refine wpList_push rfl (.tmp 6) (.tmp 10) 29 rfl w.heap.size 5 i0 (.int .u8 0) 1 Try.underlying29 HI.out hz0 hz1 hz2 rfl _ _ _ rfl hown _ rfl rfl ?c3 ?c4 hz ?_)
      case c3 => unfold maxLen; omega
      case c4 => omega
      intro v1 w1 hown1 hb1
      go_wp2
      refine ⟨⟨m / 128, pre ++ [m % 128 + 128], by simp, hm.div _, ?_, ?_, hb1 _ hb⟩, ?_⟩
      · rw [← HP.out, form_hi hlt]; simp
      · simpa [bv] using hown1
      · simp [intOf]; omega

theorem xor_pos (n : Int) (h0 : 0 ≤ n) (h1 : n ≤ 9223372036854775807) : bits BinOp.xor IntKind.u64 (n * 2) (n / 9223372036854775808) = (zz n : Int) := by
  have e : n / 9223372036854775808 = 0 := by omega
  rw [e, u64_xor (n * 2) 0 (by omega) (by omega) (by omega) (by omega), zz_pos h0]
  simp; omega

theorem xor_neg (n : Int) (h0 : n < 0) (h1 : -9223372036854775808 ≤ n) :
    bits BinOp.xor IntKind.u64 (IntKind.u64.wrap (IntKind.u64.wrap n * 2)) (IntKind.u64.wrap (n / 9223372036854775808)) = (zz n : Int) := by
  have e1 : IntKind.u64.wrap (IntKind.u64.wrap n * 2) = 18446744073709551616 + 2 * n := by rw [IntKind.wrap_u64, IntKind.wrap_u64]; omega
  have e2 : IntKind.u64.wrap (n / 9223372036854775808) = 18446744073709551615 := by rw [IntKind.wrap_u64]; omega
  rw [e1, e2, u64_xor _ _ (by omega) (by omega) (by omega) (by omega), zz_neg h0]
  have e3 : (18446744073709551615 : Int).toNat = 18446744073709551615 := rfl
  rw [e3, xor_ones _ (by omega)]
  omega

/-- The form of a flag. -/
def flagForm (b : Bool) : List Nat := if b then [1] else [0]

/-- A literal of one byte is the call's own row. -/
theorem own_lit (w : World) (n : Nat) : (w.alloc (.cells #[.int .u8 (n : Int)] 5)).ownsRow w.heap.size 5 1 (.slice (some ⟨w.heap.size, 0, none⟩) 1 1) 1 (bv [n]) :=
  ⟨by simp [bv], .inr ⟨w.heap.size, 1, _, rfl, Nat.le_refl _, heap_alloc_new w _, Nat.le_refl _, by simp [maxLen], by simp, by simp [bv]⟩⟩

end Go.Proofs.Ytgflhbpmkcggnaa

/- Arguments that came in, and rows of bytes: what every law's walk is told of them (no function of the program). -/
namespace Go.Proofs.Ytgflhbpmkcggnaa
open Go.ChangeShapes Go.WideShapes Go.ChangeAt Go.RowKit

theorem Bs.drew {w : World} {lo hi : Nat} {v : Value} {l : List Nat} (h : Bs w lo hi v l) : Bs w.drew lo hi v l := h

/-- A slice of slices of bytes: the outer cells, and what each reads as. -/
structure Rows2 (w : World) (lo hi : Nat) (A : Option Addr) (vs : List Value) (ls : List (List Nat)) : Prop where
  outer : Sl w lo hi A vs
  len : vs.length = ls.length
  each : ∀ (i : Nat) (v : Value) (l : List Nat), vs[i]? = some v → ls[i]? = some l → Bs w lo hi v l

theorem Rows2.below {w w' : World} {lo hi B : Nat} {A : Option Addr} {vs : List Value} {ls : List (List Nat)} (h : Rows2 w lo hi A vs ls) (hb : Below B w w') (hB : hi ≤ B) : Rows2 w' lo hi A vs ls :=
  ⟨h.outer.below hb hB, h.len, fun i v l hv hl => (h.each i v l hv hl).below hb hB⟩

theorem Rows2.at_ {w : World} {lo hi : Nat} {A : Option Addr} {vs : List Value} {ls : List (List Nat)} (h : Rows2 w lo hi A vs ls) {k : Nat} (hk : k < ls.length) :
    ∃ b o A' c, A = some ⟨b, o, none⟩ ∧ w.cell? ⟨b, o + k, none⟩ = some (.slice A' ls[k].length c) ∧ ls[k].length ≤ c ∧ c ≤ maxLen ∧ (A' = none → c = 0) ∧ By w lo hi A' ls[k] := by
  have hk' : k < vs.length := by rw [h.len]; exact hk
  obtain ⟨b, o, rfl, _, _, hc⟩ := h.outer.at_ hk'
  obtain ⟨A', c, hv, h1, h2, h3, h4⟩ := h.each k _ _ (List.getElem?_eq_getElem hk') (List.getElem?_eq_getElem hk)
  exact ⟨b, o, A', c, rfl, by rw [hc, hv], h1, h2, h3, h4⟩

theorem own : ownKnob Try.prog.godebug = none := by kernel_rfl
theorem laidOut : laidOutB Try.prog = true := by kernel_rfl

theorem u8_wf {n : Int} (h : (Lit.int .u8 n).wf = true) : 0 ≤ n ∧ n < 256 := by
  have : 0 ≤ n ∧ n ≤ 255 := by simpa [Lit.wf, IntKind.min, IntKind.max, IntKind.signed, IntKind.bits] using h
  omega
theorem u64_wf {n : Int} (h : (Lit.int .u64 n).wf = true) : ∃ m : Nat, n = (m : Int) ∧ U64 m := by
  have h2 : 0 ≤ n ∧ n ≤ 18446744073709551615 := by simpa [Lit.wf, IntKind.min, IntKind.max, IntKind.signed, IntKind.bits] using h
  exact ⟨n.toNat, by omega, ⟨by omega⟩⟩
theorem i64_wf {n : Int} (h : (Lit.int .i64 n).wf = true) : -9223372036854775808 ≤ n ∧ n ≤ 9223372036854775807 := by
  simpa [Lit.wf, IntKind.min, IntKind.max, IntKind.signed, IntKind.bits] using h

/-- A slice of bytes that came in. -/
theorem bs_cells {W : World} {x : Addr} {len cap : Nat} {zs : List Int} (hl : len ≤ cap) (hm : cap ≤ maxLen) (hz : zs.length = cap)
    (hcell : ∀ i, i < zs.length → W.cell? (x.add i) = some (.int .u8 (zs.getD i 0))) (hwz : ∀ n ∈ zs, (Lit.int .u8 n).wf = true) :
    ∃ l : List Nat, l.length = len ∧ (∀ b ∈ l, b < 256) ∧ Bs W 0 W.heap.size (.slice (some x) len cap) l := by
  have hlen : ((zs.take len).map Int.toNat).length = len := by simp; omega
  refine ⟨(zs.take len).map Int.toNat, hlen, fun b hb => ?_, some x, cap, by rw [hlen], by rw [hlen]; exact hl, hm, (fun h => by cases h), ?_⟩
  · simp only [List.mem_map] at hb
    obtain ⟨n, hn, rfl⟩ := hb
    have := u8_wf (hwz n (List.mem_of_mem_take hn))
    omega
  · by_cases h0 : len = 0
    · subst h0
      exact .inl (by simp [bv])
    · obtain ⟨b, o, spot⟩ := x
      have hc0 := hcell 0 (by omega)
      have hspot : spot = none := by simpa [Addr.add] using World.cell?_spot hc0
      subst hspot
      refine .inr ⟨b, o, rfl, Nat.zero_le _, World.block_lt_of_cell? W ((⟨b, o, none⟩ : Addr).add 0) hc0 |> fun h => by rw [addr_add] at h; exact h, fun i u hu => ?_⟩
      have hi : i < len := by
        rcases Nat.lt_or_ge i len with h | h
        · exact h
        · rw [List.getElem?_eq_none (by rw [bv_length, hlen]; exact h)] at hu; cases hu
      have hz1 : i < zs.length := by omega
      have hw := u8_wf (hwz zs[i] (List.getElem_mem hz1))
      have h2 := hcell i hz1
      rw [addr_add] at h2
      rw [h2, ← hu]
      simp [bv, List.getD, hi, List.getElem?_eq_getElem hz1]
      omega

set_option maxRecDepth 100000 in
theorem open_bytes {H : Type} {enc : TypeId × Value → H} {W : World} {v : Value} {d : DataW H} {p : List MemPlace} {b0 : Nat}
    (hv : Value.okWide Try.prog W .any b0 29 v) (h : DataW.Trod enc Try.prog W 0 (fun _ => true) true 29 v d p) :
    ∃ l : List Nat, (∀ b ∈ l, b < 256) ∧ Bs W 0 W.heap.size v l := by
  obtain ⟨a0, len0, cap0, rfl⟩ := okWide_slice Try.underlying29 hv
  obtain ⟨fuel, hf⟩ := h
  rcases open_ints Try.underlying29 Try.underlying5 (by kernel_rfl) hf with ⟨hcs, _⟩ | ⟨x, l, c, zs, hcs, _, hl, hm, hz, _, hcell, hwz⟩
  · simp [Value.cells] at hcs
    obtain ⟨rfl, rfl, rfl⟩ := hcs
    exact ⟨[], by simp, Bs.nil _ _ _⟩
  · simp [Value.cells] at hcs
    obtain ⟨rfl, rfl, rfl⟩ := hcs
    obtain ⟨l', h1, h2, h3⟩ := bs_cells hl hm (by simpa using hz) hcell hwz
    exact ⟨l', h2, h3⟩
/-- A row among the rows, in every later world. -/
theorem Rows2.later {w : World} {lo hi : Nat} {A : Option Addr} {vs : List Value} {ls : List (List Nat)} (h : Rows2 w lo hi A vs ls) {k : Nat} (hk : k < ls.length) :
    ∃ b o A' c, A = some ⟨b, o, none⟩ ∧ (A' = none → c = 0) ∧ ∀ B w', Below B w w' → hi ≤ B → w'.cell? ⟨b, o + k, none⟩ = some (.slice A' ls[k].length c) ∧ Bs w' lo hi (.slice A' ls[k].length c) ls[k] := by
  have hk' : k < vs.length := by rw [h.len]; exact hk
  obtain ⟨b, o, rfl, _, hb, hc⟩ := h.outer.at_ hk'
  have hx := h.each k _ _ (List.getElem?_eq_getElem hk') (List.getElem?_eq_getElem hk)
  have hx2 := hx
  obtain ⟨A', c, hv, h1, h2, h3, h4⟩ := hx
  rw [hv] at hx2
  exact ⟨b, o, A', c, rfl, h3, fun B w' hB hle => ⟨by rw [hB.cell (p := ⟨b, o + k, none⟩) (show b < B by omega), hc, hv], hx2.below hB hle⟩⟩

set_option maxRecDepth 100000 in
theorem open_rows {H : Type} {enc : TypeId × Value → H} {W : World} {v : Value} {d : DataW H} {p : List MemPlace} {b0 : Nat}
    (hv : Value.okWide Try.prog W .any b0 70 v) (h : DataW.Trod enc Try.prog W 0 (fun _ => true) true 70 v d p) :
    ∃ (A : Option Addr) (c : Nat) (vs : List Value) (ls : List (List Nat)), v = .slice A ls.length c ∧ ls.length ≤ c ∧ c ≤ maxLen ∧ (∀ l ∈ ls, ∀ b ∈ l, b < 256) ∧ Rows2 W 0 W.heap.size A vs ls := by
  obtain ⟨a0, len0, cap0, rfl⟩ := okWide_slice Try.underlying70 hv
  obtain ⟨fuel, hf⟩ := h
  rcases Go.Deep.open_slice1 Try.underlying70 (by kernel_rfl) hf with ⟨hcs, _⟩ | ⟨a, len, cap, m, n, V, D, Pl, hcs, _, hl, hm, hmm, _, hx⟩
  · simp [Value.cells] at hcs
    obtain ⟨rfl, rfl, rfl⟩ := hcs
    exact ⟨none, 0, [], [], rfl, by simp, by simp [maxLen], by simp, ⟨Sl.nil _ _ _ _, rfl, fun i v l hv _ => by simp at hv⟩⟩
  · simp [Value.cells] at hcs
    obtain ⟨rfl, rfl, rfl⟩ := hcs
    have hmc : m = cap0 := by rw [hmm]; simp
    have each : ∀ i : Nat, ∃ l : List Nat, i < len0 → (∀ b ∈ l, b < 256) ∧ Bs W 0 W.heap.size (V i) l := by
      intro i
      by_cases hi : i < len0
      · obtain ⟨_, h2⟩ := hx i (by omega)
        rcases open_ints Try.underlying29 Try.underlying5 (by kernel_rfl) h2 with ⟨hcs, _⟩ | ⟨x, l, c, zs, hcs, _, hl', hm', hz, _, hcell, hwz⟩
        · injection hcs with hcs _
          rw [hcs]
          exact ⟨[], fun _ => ⟨by simp, Bs.nil _ _ _⟩⟩
        · injection hcs with hcs _
          rw [hcs]
          obtain ⟨l', _, q2, q3⟩ := bs_cells hl' hm' (by simpa using hz) hcell hwz
          exact ⟨l', fun _ => ⟨q2, q3⟩⟩
      · exact ⟨[], fun h => absurd h hi⟩
    obtain ⟨F, hF⟩ := Classical.axiomOfChoice each
    refine ⟨some a, cap0, (List.range len0).map V, (List.range len0).map F, by simp, by simpa using hl, hm, ?_, ?_, by simp, ?_⟩
    · intro l hl' b hb
      simp only [List.mem_map, List.mem_range] at hl'
      obtain ⟨i, hi, rfl⟩ := hl'
      exact (hF i hi).1 b hb
    · by_cases h0 : len0 = 0
      · exact .inl (by simp [h0])
      · obtain ⟨b, o, spot⟩ := a
        have hc0 := (hx 0 (by omega)).1
        have hspot : spot = none := by simpa [Addr.add] using World.cell?_spot hc0
        subst hspot
        refine .inr ⟨b, o, rfl, Nat.zero_le _, World.block_lt_of_cell? W ((⟨b, o, none⟩ : Addr).add 0) hc0 |> fun h => by rw [addr_add] at h; exact h, fun i u hu => ?_⟩
        rw [List.getElem?_map] at hu
        rcases Nat.lt_or_ge i len0 with hi | hi
        · rw [List.getElem?_range hi] at hu
          have := (hx i (by omega)).1
          rw [addr_add] at this
          rw [this]
          exact hu
        · rw [List.getElem?_eq_none (by simpa using hi)] at hu
          cases hu
    · intro i v l hv hl'
      rw [List.getElem?_map] at hv hl'
      rcases Nat.lt_or_ge i len0 with hi | hi
      · rw [List.getElem?_range hi] at hv hl'
        simp at hv hl'
        subst hv hl'
        exact (hF i hi).2
      · rw [List.getElem?_eq_none (by simpa using hi)] at hv
        cases hv

/-- A part of a slice of bytes. -/
theorem mid_run (A : Option Addr) (n c k j : Nat) (hkj : k ≤ j) (hjn : j ≤ n) (hc : n ≤ c) : ∃ A2, (∀ l : List Nat, l.length = n → ∀ (W : World) (lo hi : Nat), By W lo hi A l → By W lo hi A2 ((l.drop k).take (j - k))) ∧ (A2 = none → A = none) ∧
    ∀ w, (Instr.slice 29 (.slice A n c) (some (.int .i64 (k : Int))) (some (.int .i64 (j : Int))) none).run Try.prog w = .ok (.slice A2 (j - k) (c - k)) w := by
  obtain ⟨i0, hi, _, hz1, _⟩ := info_parts t5info
  refine ⟨if c = k then A else A.map (·.add k), fun l hl W lo hi' h => ?_, ?_, fun w => ?_⟩
  · have h2 := By.drop (k := k) (cap := c) h (by omega) (by omega)
    unfold By
    rw [bv_take]
    exact Sl.take h2 _
  · split
    · exact id
    · cases A <;> simp
  · have he : Try.prog.underlying 29 = some (.slice (Try.prog.elem 29)) := by kernel_rfl
    have hs : (sizeOf (Try.prog.elem 29)).run Try.prog w = .ok 1 w := by
      have e : Try.prog.elem 29 = 5 := by kernel_rfl
      rw [e]
      simp [Go.sizeOf, typeInfo, hi, hz1]
    rw [run_slice_lh w 29 A n c he .i64 .i64 (k : Int) (j : Int) (by omega) (by omega) (by omega), hs]
    simp [Result.andThen, sliced]


/-- A row of the call's own stays when only newer memory changes. -/
theorem own_below {w w' : World} {B base : Nat} {e : TypeId} {v : Value} {n : Nat} {xs : List Value} (h : w.ownsRow base e 1 v n xs) (hb : Below B w w') (hB : w.heap.size ≤ B) : w'.ownsRow base e 1 v n xs := by
  obtain ⟨h1, h2⟩ := h
  refine ⟨h1, ?_⟩
  rcases h2 with h2 | ⟨g, cap, cur, hv, hg, hh, r⟩
  · exact Or.inl h2
  · have hlt : g < w.heap.size := by
      rcases Nat.lt_or_ge g w.heap.size with h | h
      · exact h
      · rw [Array.getElem?_eq_none h] at hh; cases hh
    exact Or.inr ⟨g, cap, cur, hv, hg, by rw [hb.block g (by omega)]; exact hh, r⟩
end Go.Proofs.Ytgflhbpmkcggnaa

/- Rows of bytes: slices.Clone, Grow and Concat at bytes, and wire's Join and Bytes, which go by them. -/
namespace Go.Proofs.Ytgflhbpmkcggnaa
open Go.ChangeShapes Go.WideShapes Go.ChangeAt Go.RowKit
theorem nilq (A : Option Addr) (n c : Nat) (w : World) : (binOp .eql 29 (.slice A n c) (.slice none 0 0)).run Try.prog w = .ok (.bool A.isNone) w := Lib.run_eql_slice_nil w _ _ A n c 0 0 Try.underlying29

theorem own_empty (w : World) (e : TypeId) : (w.alloc (.cells #[] e)).ownsRow w.heap.size e 1 (.slice (some ⟨w.heap.size, 0, none⟩) 0 0) 0 [] :=
  ⟨by simp, .inr ⟨w.heap.size, 0, _, rfl, Nat.le_refl _, heap_alloc_new w _, Nat.le_refl _, by simp [maxLen], by simp, by simp⟩⟩

set_option maxHeartbeats 400000 in
theorem clone_any (v : Value) (lo hi : Nat) (l : List Nat) (w : World) (h : Bs w lo hi v l) (hhi : hi ≤ w.heap.size) (hl : l.length ≤ 1099511627776) :
    Calls Try.prog 61 #[v] w (NewBy w l) := by
  obtain ⟨i0, hi0, hz0, hz1, hz2⟩ := info_parts t5info
  have HI := Lib.hid hi0
  clear hi0
  obtain ⟨A, c, rfl, h1, h2, hnil, hby⟩ := h
  rcases A with _ | a
  · obtain rfl := hnil rfl
    have hl0 : l = [] := by simpa using h1
    subst hl0
    have hq := nilq none 0 0
    clear h1 h2 hl
    go_enter Try.func61, Try.ntmps61
    go_wp2_with fail
    go_ret
    exact ⟨_, rfl, World.ownsRow_nil _ _ _ _, Below.refl _ _⟩
  · have hq := fun n => nilq (some a) n c
    have HL := Lib.hid hl
    clear h1 h2 hl hnil
    go_enter Try.func61, Try.ntmps61
    go_wp2_with (at_builtin; refine wpList_addall rfl (.tmp 5) (.tmp 6) 29 rfl w.heap.size 5 i0 (.int .u8 0) 1 Try.underlying29 HI.out hz0 hz1 hz2 rfl _ _ _ rfl (own_empty w _) lo hi (some a) l.length c (bv l) rfl ?c1 ?c2 ?c3 (bv_one l) ?c4 ?c5 ?c6 ?_)
    case c1 => intro h; cases h
    case c2 => exact bv_length l
    case c3 => exact Sl.alloc hby hhi _
    case c4 => have := HL.out; unfold maxLen; omega
    case c5 => have := HL.out; omega
    case c6 => simp
    intro v1 w1 hown1 hb1
    go_wp2
    go_ret
    exact ⟨v1, rfl, by simpa using hown1, hb1 _ ((Below.refl _ _).alloc (Nat.le_refl _) _)⟩

/-- An empty row of the call's own. -/
def Fresh (w : World) (e : Ending) (w' : World) : Prop := ∃ v, e = .returned v ∧ w'.ownsRow w.heap.size 5 1 v 0 [] ∧ Below w.heap.size w w'

set_option maxHeartbeats 400000 in
theorem grow_nil (n : Nat) (hn : n ≤ 1099511627776) (w : World) :
    Calls Try.prog 76 #[.slice none 0 0, .int .i64 n] w (Fresh w) := by
  obtain ⟨i0, hi0, hz0, hz1, hz2⟩ := info_parts t5info
  have HI := Lib.hid hi0
  clear hi0
  have hw : wrap64 ((n : Int) - 0) = (n : Int) := by unfold wrap64; omega
  have hd : decide ((n : Int) < 0) = false := by simp
  by_cases h0 : n = 0
  · subst h0
    clear hn hw
    go_enter Try.func76, Try.ntmps76
    go_wp2_with fail
    go_ret
    exact ⟨_, rfl, World.ownsRow_nil _ _ _ _, Below.refl _ _⟩
  · have hd2 : decide ((0 : Int) < (n : Int)) = true := by simp; omega
    have hd3 : decide (0 < n) = true := by simp; omega
    have hbig : Builtin.nextslicecap (0 + n) 0 * i0.bytes ≤ 281474976710656 := by
      have := growslice_fits (need := 0 + n) (old := 0) (bytes := i0.bytes) (by omega) (by rw [hz2]; omega)
      exact this
    have hG : n ≤ grownCap w (0 + n) 0 5 := by have := grownCap_ge w (0 + n) 0 5; omega
    have hG63 : grownCap w (0 + n) 0 5 ≤ maxLen := grownCap_le_maxLen w (0 + n) 0 5 (by unfold maxLen; omega)
    have hr := fun ty => Lib.run_append_grow_zeros (P := Try.prog) w 29 3 ty 5 i0 (.int .u8 0) .i64 .i64 Try.underlying29 Try.underlying3 HI.out hz0 none 0 0 [] (run_firstCells_none _ _ _ _ _) n (by omega) (by omega) (by omega) (by omega) (by rw [hz2]; omega) hbig
    obtain ⟨G, hGe⟩ : ∃ G, G = grownCap w (0 + n) 0 5 := ⟨_, rfl⟩
    rw [← hGe] at hr hG hG63
    have HR := Lib.hid hr
    have HG := Lib.hid hG63
    have hn' : (n : Int) ≤ 1099511627776 := by omega
    clear hr hbig hGe hn hw hG63
    go_enter Try.func76, Try.ntmps76
    go_wp2_with (at_builtin; refine Lib.wpList_append_run _ rfl (.tmp 20) (.tmp 21) _ _ rfl _ _ rfl rfl _ _ (HR.out _) ?_)
    go_ret
    have hG63 := HG.out
    refine ⟨_, rfl, ⟨by simp, .inr ⟨w.heap.size, G, Builtin.zeroCells #[Value.int IntKind.u8 0] n ++ Builtin.zeroCells #[Value.int IntKind.u8 0] (G - n), rfl, Nat.le_refl _, heap_alloc_new w _, Nat.zero_le _, hG63, ?_, by simp⟩⟩, ((Below.refl _ _).alloc (Nat.le_refl _) _).drew⟩
    rw [Array.size_append, size_zeroCells, size_zeroCells]; simp; omega

set_option maxHeartbeats 800000 in
theorem concat_any (A : Option Addr) (c lo hi : Nat) (vs : List Value) (ls : List (List Nat)) (w : World) (h : Rows2 w lo hi A vs ls) (hhi : hi ≤ w.heap.size) (hc : c ≤ maxLen) (hlc : ls.length ≤ c)
    (hl : ls.flatten.length ≤ 1099511627776) : Calls Try.prog 49 #[.slice A ls.length c] w (NewBy w ls.flatten) := by
  obtain ⟨i0, hi0, hz0, hz1, hz2⟩ := info_parts t5info
  have HI := Lib.hid hi0
  have HC := Lib.hid hc
  have HL := Lib.hid hl
  have HLC := Lib.hid hlc
  clear hi0 hc hl hlc
  go_enter Try.func49, Try.ntmps49
  go_wp2_with fail
  go_loop [3, 5, 11] (fun s _ i => ∃ k : Nat, k ≤ ls.length ∧ i = .int .i64 (k : Int) ∧ s = .int .i64 (tot ls k : Int)) (fun _ _ i => ls.length - (intOf i).toNat)
  case atStart => exact ⟨0, Nat.zero_le _, rfl, by rw [tot_zero]; rfl⟩
  case round =>
    obtain ⟨k, hk, rfl, rfl⟩ := hrel
    by_cases hlt : k < ls.length
    · obtain ⟨b, o, A', c', rfl, hcell, h1, h2, _, _⟩ := h.at_ hlt
      have HS := Lib.hid (tot_succ ls hlt)
      have hd : decide (k < ls.length) = true := by simp [hlt]
      have hb : (tot ls k : Int) + (ls[k].length : Int) ≤ 1099511627776 := by
        have e := HS.out
        have := HL.out
        have := tot_le ls (k + 1)
        omega
      have hb2 : (k : Int) + 1 ≤ 9223372036854775807 := by have := HC.out; have := HLC.out; unfold maxLen at *; omega
      have hd2 : decide ((tot ls k : Int) + (ls[k].length : Int) < 0) = false := by simp; omega
      clear h1 h2
      go_wp2_with fail
      go_round
      case rel => exact ⟨k + 1, by omega, by go_num, by rw [HS.out]; go_num⟩
      case measure => simp [intOf]; omega
    · obtain rfl : k = ls.length := by omega
      have hd : decide (ls.length < ls.length) = false := by simp
      have hb2 : tot ls ls.length ≤ 1099511627776 := by rw [tot_all]; exact HL.out
      have HB := Lib.hid hb2
      clear hb2 hlt hk
      go_wp2_with fail
      refine (grow_nil _ HB.out _).mono ?_
      rintro e w1 ⟨v1, rfl, hown1, hb1⟩
      have h0 := h
      have h := h.below hb1 hhi
      go_wp2_with fail
      go_loopw [6, 8, 27] (fun v _ i wr => ∃ k : Nat, k ≤ ls.length ∧ i = .int .i64 (k : Int) ∧ wr.ownsRow w.heap.size 5 1 v (tot ls k) (bv (ls.take k).flatten) ∧ Below w.heap.size w wr) (fun _ _ i _ => ls.length - (intOf i).toNat)
      case atStart => exact ⟨0, Nat.zero_le _, rfl, by rw [tot_zero]; simpa [bv] using hown1, hb1⟩
      case round =>
        obtain ⟨k, hk, rfl, hown, hb⟩ := hrel
        have hwr : Rows2 wr lo hi A vs ls := h0.below hb hhi
        have hsz := hb.size
        by_cases hlt : k < ls.length
        · obtain ⟨b, o, A', c', rfl, hcell, _, _, hnil, hby⟩ := hwr.at_ hlt
          have HS := Lib.hid (tot_succ ls hlt)
          have HF := Lib.hid (flat_take_succ ls hlt)
          have hd : decide (k < ls.length) = true := by simp [hlt]
          have hb2 : (k : Int) + 1 ≤ 9223372036854775807 := by have := HC.out; have := HLC.out; unfold maxLen at *; omega
          have HB2 := Lib.hid (show tot ls k + ls[k].length ≤ 1099511627776 by have := HL.out; have := tot_le ls (k + 1); rw [tot_succ ls hlt] at this; omega)
          go_wp2_with (at_builtin; refine wpList_addall rfl (.tmp 31) (.tmp 32) 29 rfl w.heap.size 5 i0 (.int .u8 0) 1 Try.underlying29 HI.out hz0 hz1 hz2 rfl _ _ _ rfl hown lo hi A' ls[k].length c' (bv ls[k]) rfl hnil ?c2 ?c3 (bv_one _) ?c4 ?c5 hsz ?_)
          case c2 => exact bv_length _
          case c3 => exact hby
          case c4 => have := HB2.out; unfold maxLen; omega
          case c5 => have := HB2.out; omega
          intro v2 w2 hown2 hb2'
          have hown3 : w2.ownsRow w.heap.size 5 1 v2 (tot ls (k + 1)) (bv (ls.take (k + 1)).flatten) := by rw [HS.out, HF.out, bv_append]; exact hown2
          have hb3 := hb2' _ hb
          clear hown2 hb2' hown
          go_wp2
          go_roundw
          case rel => exact ⟨k + 1, by omega, by go_num, hown3, hb3⟩
          case measure => simp [intOf]; omega
        · obtain rfl : k = ls.length := by omega
          have hd : decide (ls.length < ls.length) = false := by simp
          have hown3 : wr.ownsRow w.heap.size 5 1 u6 ls.flatten.length (bv ls.flatten) := by rw [tot_all, List.take_length] at hown; exact hown
          clear hown
          go_wp2_with fail
          go_ret
          exact ⟨u6, rfl, hown3, hb⟩

theorem join_any (A : Option Addr) (c lo hi : Nat) (vs : List Value) (ls : List (List Nat)) (w : World) (h : Rows2 w lo hi A vs ls) (hhi : hi ≤ w.heap.size) (hc : c ≤ maxLen) (hlc : ls.length ≤ c)
    (hl : ls.flatten.length ≤ 1099511627776) (n : Nat) (hn : n = ls.length) : Calls Try.prog 51 #[.slice A n c] w (NewBy w ls.flatten) := by
  subst hn
  have H := Lib.hid (concat_any A c lo hi vs ls w h hhi hc hlc hl)
  clear h hc hlc hl
  go_enter Try.func51, Try.ntmps51
  go_wp2_with fail
  refine Calls.mono H.out ?_
  rintro e w1 ⟨v, rfl, hown, hb⟩
  go_wp2
  go_ret
  exact ⟨v, rfl, hown, hb⟩

/-- What is owned from a later block on is owned from an earlier one on. -/
theorem own_lower {w : World} {B B' : Nat} {e : TypeId} {size n : Nat} {v : Value} {xs : List Value} (h : w.ownsRow B e size v n xs) (hB : B' ≤ B) : w.ownsRow B' e size v n xs := by
  refine ⟨h.1, ?_⟩
  rcases h.2 with h2 | ⟨g, cap, cur, hv, hg, r⟩
  · exact .inl h2
  · exact .inr ⟨g, cap, cur, hv, Nat.le_trans hB hg, r⟩

theorem rows2_two {w : World} {lo hi : Nat} {v1 v2 : Value} {l1 l2 : List Nat} {T : TypeId} (h1 : Bs w lo hi v1 l1) (h2 : Bs w lo hi v2 l2) (hhi : hi ≤ w.heap.size) :
    Rows2 (w.alloc (.cells #[v1, v2] T)) lo (w.heap.size + 1) (some ⟨w.heap.size, 0, none⟩) [v1, v2] [l1, l2] ∨ w.heap.size < lo := by
  rcases Nat.lt_or_ge w.heap.size lo with h | h
  · exact .inr h
  · refine .inl ⟨.inr ⟨w.heap.size, 0, rfl, h, by omega, fun i u hu => ?_⟩, rfl, fun i v l hv hl => ?_⟩
    · rw [World.cell?_alloc_at _ _ _ _ rfl, Nat.zero_add]
      match i, hu with
      | 0, hu => simpa using hu
      | 1, hu => simpa using hu
      | (i + 2), hu => simp at hu
    · match i, hv, hl with
      | 0, hv, hl => simp at hv hl; subst hv hl; exact (h1.alloc hhi _).wide (Nat.le_refl _) (by omega)
      | 1, hv, hl => simp at hv hl; subst hv hl; exact (h2.alloc hhi _).wide (Nat.le_refl _) (by omega)
      | (i + 2), hv, hl => simp at hv

/-- The form of bytes. -/
def bytesForm (l : List Nat) : List Nat := form l.length ++ l

set_option maxHeartbeats 400000 in
theorem bytes_any (v : Value) (lo hi : Nat) (l : List Nat) (w : World) (h : Bs w lo hi v l) (hhi : hi ≤ w.heap.size) (hl : l.length ≤ 1000000000000) :
    Calls Try.prog 53 #[v] w (NewBy w (bytesForm l)) := by
  have h64 : U64 l.length := ⟨by omega⟩
  have hf := form_len64 h64
  have HL := Lib.hid hl
  have H := Lib.hid h
  have hlI : ((l.length : Nat) : Int) ≤ 1000000000000 := by omega
  obtain ⟨A, c, rfl, h1, h2, hnil, hby⟩ := h
  clear hl h1 h2 hnil hby
  go_enter Try.func53, Try.ntmps53
  go_wp2_with fail
  refine (number_any _ h64 _).mono ?_
  rintro e w1 ⟨v1, rfl, hown, hb⟩
  have hz := hb.size
  have g1 : Bs w1 0 w1.heap.size v1 (form l.length) := (Bs.of_own hown).wide (Nat.zero_le _) (Nat.le_refl _)
  have g2 : Bs w1 0 w1.heap.size (.slice A l.length c) l := (H.out.below hb hhi).wide (Nat.zero_le _) (Nat.le_trans hhi hz)
  have G1 := g1
  obtain ⟨A1, c1, rfl, _, _, _, _⟩ := g1
  have HR := Lib.hid ((rows2_two (T := 29) G1 g2 (Nat.le_refl _)).resolve_right (by omega))
  clear hown G1 g2
  go_wp2_with fail
  refine (join_any _ 2 0 (w1.heap.size + 1) _ _ _ HR.out (by simp) (by simp [maxLen]) (by simp) ?c1 2 rfl).mono ?_
  case c1 => have := HL.out; simp; omega
  rintro e w2 ⟨v2, rfl, hown, hb2⟩
  go_wp2
  go_ret
  refine ⟨v2, rfl, ?_, ?_⟩
  · have e : [form l.length, l].flatten = bytesForm l := by simp [bytesForm]
    rw [e] at hown
    exact own_lower hown (by simp; omega)
  · exact (hb.alloc hz _).trans (hb2.mono (by simp; omega))
end Go.Proofs.Ytgflhbpmkcggnaa

/- Plain arithmetic of what begins with the form of a number: nothing of the program stands here. -/
namespace Go.Proofs.Ytgflhbpmkcggnaa

/-- What digits of seven bits come to, the first one weighing least. -/
def val : List Nat → Nat
  | [] => 0
  | b :: r => b % 128 + 128 * val r
theorem val_append (p r : List Nat) : val (p ++ r) = val p + 128 ^ p.length * val r := by
  induction p with
  | nil => simp [val]
  | cons b p ih =>
    simp only [List.cons_append, val, ih, List.length_cons, Nat.pow_succ, Nat.mul_add]
    rw [Nat.add_assoc, ← Nat.mul_assoc, Nat.mul_comm 128 (128 ^ p.length)]
theorem val_lt (p : List Nat) : val p < 128 ^ p.length := by
  induction p with
  | nil => simp [val]
  | cons b p ih =>
    simp only [val, List.length_cons, Nat.pow_succ]
    have : b % 128 < 128 := Nat.mod_lt _ (by omega)
    omega
theorem val_form (n : Nat) : val (form n) = n := by
  induction n using Nat.strongRecOn with
  | ind n ih =>
    by_cases h : n < 128
    · rw [form_lo h]; simp [val]; omega
    · rw [form_hi h, val, ih _ (by omega)]; omega

/-- Digits that say that more follow. -/
def More (p : List Nat) : Prop := ∀ b ∈ p, 128 ≤ b ∧ b < 256

theorem form_shape (n : Nat) : ∃ p q, form n = p ++ [q] ∧ More p ∧ q < 128 ∧ (p ≠ [] → q ≠ 0) := by
  induction n using Nat.strongRecOn with
  | ind n ih =>
    by_cases h : n < 128
    · exact ⟨[], n, by rw [form_lo h]; rfl, by intro b hb; simp at hb, h, fun h => absurd rfl h⟩
    · obtain ⟨p, q, he, hp, hq, hz⟩ := ih (n / 128) (by omega)
      refine ⟨(n % 128 + 128) :: p, q, by rw [form_hi h, he]; rfl, ?_, hq, fun _ => ?_⟩
      · intro b hb
        rcases List.mem_cons.1 hb with rfl | hb
        · omega
        · exact hp b hb
      · by_cases hpe : p = []
        · subst hpe
          have h2 := val_form (n / 128)
          rw [he] at h2
          simp [val] at h2
          omega
        · exact hz hpe

theorem form_of_val (p : List Nat) : ∀ q, More p → q < 128 → (p ≠ [] → q ≠ 0) → form (val (p ++ [q])) = p ++ [q] := by
  induction p with
  | nil => intro q _ hq _; simp [val]; rw [form_lo (by omega), Nat.mod_eq_of_lt hq]
  | cons b p ih =>
    intro q hp hq hz
    have hb := hp b (by simp)
    have hq0 := hz (by simp)
    have h1 := ih q (fun c hc => hp c (by simp [hc])) hq (fun _ => hq0)
    have hv : 1 ≤ val (p ++ [q]) := by
      rw [val_append]
      have h2 : val [q] = q := by simp [val]; omega
      rw [h2]
      have h3 : 1 * 1 ≤ 128 ^ p.length * q := Nat.mul_le_mul (Nat.pow_pos (by omega)) (by omega)
      omega
    simp only [List.cons_append, val]
    rw [form_hi (by omega)]
    have e1 : (b % 128 + 128 * val (p ++ [q])) / 128 = val (p ++ [q]) := by omega
    have e2 : (b % 128 + 128 * val (p ++ [q])) % 128 + 128 = b := by omega
    rw [e1, e2, h1]

theorem shape_unique : ∀ (p p' : List Nat) (q q' : Nat) (r r' : List Nat), More p → More p' → q < 128 → q' < 128 → p ++ q :: r = p' ++ q' :: r' → p = p' ∧ q = q' ∧ r = r' := by
  intro p
  induction p with
  | nil =>
    intro p' q q' r r' _ hp' hq hq' h
    cases p' with
    | nil => simp at h; exact ⟨rfl, h.1, h.2⟩
    | cons b p' =>
      simp at h
      have := hp' b (by simp)
      omega
  | cons b p ih =>
    intro p' q q' r r' hp hp' hq hq' h
    cases p' with
    | nil =>
      simp at h
      have := hp b (by simp)
      omega
    | cons b' p' =>
      simp only [List.cons_append, List.cons.injEq] at h
      obtain ⟨rfl, h⟩ := h
      obtain ⟨rfl, rfl, rfl⟩ := ih p' q q' r r' (fun c hc => hp c (by simp [hc])) (fun c hc => hp' c (by simp [hc])) hq hq' h
      exact ⟨rfl, rfl, rfl⟩

/-- These bytes begin with the form of n, behind which r stands. -/
structure Begins (l : List Nat) (n : Nat) (r : List Nat) : Prop where
  n64 : U64 n
  eq : l = form n ++ r

theorem Begins.unique {l : List Nat} {n n' : Nat} {r r' : List Nat} (h : Begins l n r) (h' : Begins l n' r') : n = n' ∧ r = r' := by
  obtain ⟨p, q, he, hp, hq, _⟩ := form_shape n
  obtain ⟨p', q', he', hp', hq', _⟩ := form_shape n'
  have hh : p ++ q :: r = p' ++ q' :: r' := by
    have h1 := h.eq
    have h2 := h'.eq
    rw [he, List.append_assoc] at h1
    rw [he', List.append_assoc] at h2
    exact h1.symm.trans h2
  obtain ⟨rfl, rfl, rfl⟩ := shape_unique p p' q q' r r' hp hp' hq hq' hh
  exact ⟨by rw [← val_form n, ← val_form n', he, he'], rfl⟩

/-- A form is read: all ahead of its last digit say that more follow. -/
theorem begins_of {l : List Nat} {i : Nat} (hi : i < l.length) (hm : More (l.take i)) (hq : l[i] < 128) (hz : i ≠ 0 → l[i] ≠ 0) (h9 : i < 9 ∨ i = 9 ∧ l[i] ≤ 1) :
    Begins l (val (l.take i) + 128 ^ i * l[i]) (l.drop (i + 1)) := by
  have hlen : (l.take i).length = i := by simp; omega
  have hv : val (l.take i ++ [l[i]]) = val (l.take i) + 128 ^ i * l[i] := by
    rw [val_append, hlen]
    have : val [l[i]] = l[i] := by simp [val]; omega
    rw [this]
  have hne : l.take i ≠ [] → l[i] ≠ 0 := fun h => hz (by rintro rfl; simp at h)
  have hf := form_of_val (l.take i) l[i] hm hq hne
  rw [hv] at hf
  refine ⟨⟨?_⟩, ?_⟩
  · have h1 := val_lt (l.take i)
    rw [hlen] at h1
    rcases h9 with h9 | ⟨rfl, h9⟩
    · have h2 : 128 ^ (i + 1) ≤ 128 ^ 9 := Nat.pow_le_pow_right (by omega) (by omega)
      have h3 : 128 ^ i * l[i] ≤ 128 ^ i * 127 := Nat.mul_le_mul_left _ (by omega)
      rw [Nat.pow_succ] at h2
      have h4 : (128 : Nat) ^ 9 = 9223372036854775808 := by decide
      omega
    · have h4 : (128 : Nat) ^ 9 = 9223372036854775808 := by decide
      have h3 : 128 ^ 9 * l[9] ≤ 128 ^ 9 * 1 := Nat.mul_le_mul_left _ h9
      omega
  · rw [hf, List.append_assoc]
    have h1 := List.take_append_drop i l
    rw [List.drop_eq_getElem_cons hi] at h1
    exact h1.symm

/-- Of digits that all say that more follow none is the last one. -/
theorem not_begins_more {l : List Nat} (hm : More l) (n : Nat) (r : List Nat) : ¬ Begins l n r := by
  intro h
  obtain ⟨p, q, he, hp, hq, _⟩ := form_shape n
  have := hm q (by rw [h.eq, he]; simp)
  omega

theorem begins_at {l : List Nat} {n : Nat} {r : List Nat} (h : Begins l n r) {i : Nat} (hi : i < l.length) (hm : More (l.take i)) : 
    (128 ≤ l[i] ∧ i + 1 < (form n).length) ∨ (l[i] < 128 ∧ (form n).length = i + 1 ∧ n = val (l.take i) + 128 ^ i * l[i] ∧ (i ≠ 0 → l[i] ≠ 0)) := by
  obtain ⟨p, q, he, hp, hq, hz⟩ := form_shape n
  have hl : l = p ++ q :: r := by rw [h.eq, he, List.append_assoc]; rfl
  have hlen : (l.take i).length = i := by simp; omega
  rcases Nat.lt_or_ge l[i] 128 with hlt | hge
  · right
    have h1 := List.take_append_drop i l
    rw [List.drop_eq_getElem_cons hi] at h1
    obtain ⟨e1, e2, e3⟩ := shape_unique _ p _ q _ r hm hp hlt hq (h1.trans hl)
    have hn := val_form n
    rw [he, ← e1, ← e2, val_append, hlen] at hn
    have : val [l[i]] = l[i] := by simp [val]; omega
    rw [this] at hn
    refine ⟨hlt, by rw [he, ← e1]; simp [hlen], hn.symm, fun h0 => ?_⟩
    rw [e2]
    apply hz
    rw [← e1]
    intro hh
    rw [hh] at hlen
    exact h0 hlen.symm
  · left
    refine ⟨hge, ?_⟩
    rw [he]
    simp only [List.length_append, List.length_cons, List.length_nil]
    rcases Nat.lt_or_ge i p.length with h2 | h2
    · omega
    · rcases Nat.eq_or_lt_of_le h2 with h3 | h3
      · subst h3
        exfalso
        have : l[p.length] = q := by simp [hl]
        omega
      · exfalso
        have hp2 : p.length < (l.take i).length := by omega
        have h4 := hm ((l.take i)[p.length]) (List.getElem_mem hp2)
        have h5 : (l.take i)[p.length] = q := by simp [hl]
        omega

theorem not_begins_zero {l : List Nat} {i : Nat} (hi : i < l.length) (hm : More (l.take i)) (h0 : i ≠ 0) (hz : l[i] = 0) (n : Nat) (r : List Nat) : ¬ Begins l n r := by
  intro h
  rcases begins_at h hi hm with ⟨h1, _⟩ | ⟨_, _, _, h4⟩
  · omega
  · exact h4 h0 hz

theorem not_begins_nine {l : List Nat} (hi : 9 < l.length) (hm : More (l.take 9)) (hz : 1 < l[9]) (n : Nat) (r : List Nat) : ¬ Begins l n r := by
  intro h
  have h10 := form_len64 h.n64
  rcases begins_at h hi hm with ⟨_, h2⟩ | ⟨_, _, h3, _⟩
  · omega
  · have h4 : (128 : Nat) ^ 9 = 9223372036854775808 := by decide
    have h5 : 128 ^ 9 * 2 ≤ 128 ^ 9 * l[9] := Nat.mul_le_mul_left _ hz
    have := h.n64.lt
    omega
end Go.Proofs.Ytgflhbpmkcggnaa
namespace Go.Proofs.Ytgflhbpmkcggnaa
theorem more_nil (l : List Nat) : More (l.take 0) := by intro b hb; simp at hb
theorem more_succ {l : List Nat} {k : Nat} (h : k < l.length) (hm : More (l.take k)) (h1 : 128 ≤ l[k]) (h2 : l[k] < 256) : More (l.take (k + 1)) := by
  intro b hb
  rw [List.take_succ_eq_append_getElem h, List.mem_append] at hb
  rcases hb with hb | hb
  · exact hm b hb
  · simp at hb; subst hb; exact ⟨h1, h2⟩
theorem val_succ {l : List Nat} {k : Nat} (h : k < l.length) : val (l.take (k + 1)) = val (l.take k) + 128 ^ k * (l[k] % 128) := by
  rw [List.take_succ_eq_append_getElem h, val_append]
  have : (l.take k).length = k := by simp; omega
  rw [this]
  simp [val]
theorem val_take_lt {l : List Nat} {k : Nat} (h : k ≤ l.length) : val (l.take k) < 128 ^ k := by
  have h1 := val_lt (l.take k)
  have : (l.take k).length = k := by simp; omega
  rwa [this] at h1
end Go.Proofs.Ytgflhbpmkcggnaa
namespace Go.Proofs.Ytgflhbpmkcggnaa
theorem form_mono (n : Nat) : ∀ m, n ≤ m → (form n).length ≤ (form m).length := by
  induction n using Nat.strongRecOn with
  | ind n ih =>
    intro m h
    by_cases h0 : n < 128
    · rw [form_lo h0]
      by_cases h1 : m < 128
      · rw [form_lo h1]; simp
      · rw [form_hi h1]; simp
    · rw [form_hi h0, form_hi (show ¬ m < 128 by omega)]
      have := ih (n / 128) (by omega) (m / 128) (Nat.div_le_div_right h)
      simp only [List.length_cons]; omega
theorem form_no_prefix {n m : Nat} (hn : U64 n) (hm : U64 m) (h : n ≠ m) : (form m).take (form n).length ≠ form n := by
  intro he
  have h1 : Begins (form m) n ((form m).drop (form n).length) := ⟨hn, by
    have := List.take_append_drop (form n).length (form m)
    rw [he] at this
    exact this.symm⟩
  have h2 : Begins (form m) m [] := ⟨hm, by simp⟩
  exact h (h1.unique h2).1
end Go.Proofs.Ytgflhbpmkcggnaa

/- The reader of wire: what one is in memory, Open, none, Left, End. -/
namespace Go.Proofs.Ytgflhbpmkcggnaa
open Go.ChangeShapes Go.WideShapes Go.ChangeAt Go.RowKit

/-- Block r is a reader's: what is left, and whether it is open. -/
def RObj (w : World) (r : Nat) (v : Value) (o : Bool) : Prop := w.heap[r]? = some (.cells #[v, .bool o] 134 (0, 0))
section
variable {w w' : World} {r : Nat} {v : Value} {o : Bool}
theorem RObj.lt (h : RObj w r v o) : r < w.heap.size := by
  rcases Nat.lt_or_ge r w.heap.size with hlt | hge
  · exact hlt
  · unfold RObj at h; rw [Array.getElem?_eq_none hge] at h; cases h
theorem RObj.c0 (h : RObj w r v o) : w.cell? ⟨r, 0, none⟩ = some v := cell_of_row w r 0 _ _ (0, 0) h
theorem RObj.c1 (h : RObj w r v o) : w.cell? ⟨r, 1, none⟩ = some (.bool o) := cell_of_row w r 1 _ _ (0, 0) h
theorem RObj.f0 (h : RObj w r v o) : w.frozen? ⟨r, 0, none⟩ = false := by unfold RObj at h; simp [World.frozen?, h]
theorem RObj.f1 (h : RObj w r v o) : w.frozen? ⟨r, 1, none⟩ = false := by unfold RObj at h; simp [World.frozen?, h]
theorem RObj.new (w : World) (v : Value) (o : Bool) : RObj (w.alloc (.cells #[v, .bool o] 134)) w.heap.size v o := heap_alloc_new w _
theorem RObj.alloc (h : RObj w r v o) (x : Obj) : RObj (w.alloc x) r v o := (Below.heap_alloc w x r h.lt).trans h
theorem RObj.set (h : RObj w r v o) (u : Value) : RObj (w.setCell ⟨r, 0, none⟩ u) r u o := by
  unfold RObj at h ⊢
  simp [World.setCell, Array.getElem?_modify, h]
theorem RObj.set1 (h : RObj w r v o) (b : Bool) : RObj (w.setCell ⟨r, 1, none⟩ (.bool b)) r v b := by
  unfold RObj at h ⊢
  simp [World.setCell, Array.getElem?_modify, h]
theorem RObj.far (h : RObj w r v o) {p : Addr} (hp : r ≠ p.block) (u : Value) : RObj (w.setCell p u) r v o := (Below.heap_setCell w p u r hp).trans h
theorem RObj.below {B : Nat} (h : RObj w r v o) (hb : Below B w w') (hr : r < B) : RObj w' r v o := (hb.block r hr).trans h
theorem RObj.grown {row : Option Nat} (h : RObj w r v o) (hb : w.grownBy w' row) (hr : some r ≠ row) : RObj w' r v o := (hb.block r h.lt hr).trans h
end

/-- An open reader in block r, with these bytes left, which lie in blocks of the interval. -/
structure Rd (w : World) (r lo hi : Nat) (l : List Nat) : Prop where
  ex : ∃ v, RObj w r v true ∧ Bs w lo hi v l
  apart : r < lo ∨ hi ≤ r
  top : hi ≤ w.heap.size
  byt : ∀ b ∈ l, b < 256

section
variable {w w' : World} {r lo hi : Nat} {l : List Nat}
theorem Rd.lt (h : Rd w r lo hi l) : r < w.heap.size := by obtain ⟨v, h1, _⟩ := h.ex; exact h1.lt
theorem Rd.grown {row : Option Nat} (h : Rd w r lo hi l) (hg : w.grownBy w' row) (hne : some r ≠ row) (hr : ∀ k, row = some k → k < lo ∨ hi ≤ k) : Rd w' r lo hi l := by
  obtain ⟨v, h1, h2⟩ := h.ex
  exact ⟨⟨v, h1.grown hg hne, h2.grown hg h.top hr⟩, h.apart, Nat.le_trans h.top hg.size, h.byt⟩
theorem Rd.below {B : Nat} (h : Rd w r lo hi l) (hb : Below B w w') (hB : hi ≤ B) (hr : r < B) : Rd w' r lo hi l := by
  obtain ⟨v, h1, h2⟩ := h.ex
  exact ⟨⟨v, h1.below hb hr, h2.below hb hB⟩, h.apart, Nat.le_trans h.top hb.size, h.byt⟩
theorem Rd.alloc (h : Rd w r lo hi l) (o : Obj) : Rd (w.alloc o) r lo hi l := by
  obtain ⟨v, h1, h2⟩ := h.ex
  exact ⟨⟨v, h1.alloc o, h2.alloc h.top o⟩, h.apart, by have := h.top; simp; omega, h.byt⟩
end

theorem pnil (r o : Nat) (w : World) : (binOp .eql 125 (.pointer (some ⟨r, o, none⟩)) (.pointer none)).run Try.prog w = .ok (.bool false) w := by go_simp

theorem none_open (r : Nat) (v : Value) (o : Bool) (w : World) (h : RObj w r v o) : Calls Try.prog 106 #[.pointer (some ⟨r, 0, none⟩)] w fun e w' => e = .returned (.bool (!o)) ∧ w = w' := by
  have h1 := h.c1
  have H := Lib.hid h
  clear h
  go_enter Try.func106, Try.ntmps106
  go_wp2_with fail
  go_ret
  exact ⟨rfl, rfl⟩

theorem none_nil (w : World) : Calls Try.prog 106 #[.pointer none] w fun e w' => e = .returned (.bool true) ∧ w = w' := by
  go_enter Try.func106, Try.ntmps106
  go_wp2_with fail
  go_ret
  exact ⟨rfl, rfl⟩

theorem left_any (r lo hi : Nat) (l : List Nat) (w : World) (h : Rd w r lo hi l) : Calls Try.prog 96 #[.pointer (some ⟨r, 0, none⟩)] w fun e w' => e = .returned (.int .i64 (l.length : Int)) ∧ w = w' := by
  obtain ⟨v, h1, A, c, rfl, _, _, _, _⟩ := h.ex
  have c0 := h1.c0
  have H1 := Lib.hid h1
  clear h h1
  go_enter Try.func96, Try.ntmps96
  go_wp2_with fail
  refine (none_open _ _ _ _ H1.out).mono ?_
  rintro e w1 ⟨rfl, rfl⟩
  go_wp2_with fail
  go_ret
  exact ⟨rfl, rfl⟩

/-- What End says. -/
def endErr (l : List Nat) : Int := if l = [] then 0 else 4

theorem end_any (r lo hi : Nat) (l : List Nat) (w : World) (h : Rd w r lo hi l) : Calls Try.prog 110 #[.pointer (some ⟨r, 0, none⟩)] w fun e w' => e = .returned (.int .i64 (endErr l)) ∧ w = w' := by
  obtain ⟨v, h1, A, c, rfl, _, _, _, _⟩ := h.ex
  have c0 := h1.c0
  have H1 := Lib.hid h1
  clear h h1
  rcases l with _ | ⟨b, l⟩
  · go_enter Try.func110, Try.ntmps110
    go_wp2_with fail
    refine (none_open _ _ _ _ H1.out).mono ?_
    rintro e w1 ⟨rfl, rfl⟩
    go_wp2_with fail
    go_ret
    exact ⟨rfl, rfl⟩
  · have hd : decide (0 < (b :: l).length) = true := by simp
    have he : endErr (b :: l) = 4 := rfl
    go_enter Try.func110, Try.ntmps110
    go_wp2_with fail
    refine (none_open _ _ _ _ H1.out).mono ?_
    rintro e w1 ⟨rfl, rfl⟩
    go_wp2_with fail
    go_ret
    exact ⟨rfl, rfl⟩

/-- Open answers a reader in a new block; its bytes lie in new blocks. -/
def Opened (w : World) (l : List Nat) (e : Ending) (w' : World) : Prop := ∃ r lo hi, e = .returned (.pointer (some ⟨r, 0, none⟩)) ∧ Rd w' r lo hi l ∧ w.heap.size ≤ r ∧ w.heap.size ≤ lo ∧ Below w.heap.size w w'

theorem open_any (v : Value) (lo hi : Nat) (l : List Nat) (w : World) (h : Bs w lo hi v l) (hhi : hi ≤ w.heap.size) (hl : l.length ≤ 1000000000000) (hbyt : ∀ b ∈ l, b < 256) :
    Calls Try.prog 93 #[v] w (Opened w l) := by
  have H := Lib.hid (clone_any v lo hi l w h hhi (by omega))
  have HY := Lib.hid hbyt
  clear h hl hbyt
  go_enter Try.func93, Try.ntmps93
  go_wp2_with fail
  refine Calls.mono H.out ?_
  rintro e w1 ⟨v1, rfl, hown, hb⟩
  have hB := Bs.of_own hown
  have hB' := hB
  obtain ⟨A, c, rfl, _, _, _, _⟩ := hB'
  have hz := hb.size
  have HB := Lib.hid hB
  clear hB hown
  go_wp2_with fail
  go_ret
  exact ⟨_, _, _, rfl, ⟨⟨_, RObj.new _ _ _, HB.out.alloc (Nat.le_refl _) _⟩, .inr (Nat.le_refl _), by simp, HY.out⟩, hz, Nat.le_refl _, hb.alloc hz _⟩
end Go.Proofs.Ytgflhbpmkcggnaa

/- A number's reader: the loop over its digits. -/
namespace Go.Proofs.Ytgflhbpmkcggnaa
open Go.ChangeShapes Go.WideShapes Go.ChangeAt Go.RowKit

/-- A digit of seven bits more, as the program reckons it. -/
theorem digit_more (v x k : Nat) (hk : k ≤ 9) (hv : v < 128 ^ k) (hx : x < 256) (h9 : k = 9 → x ≤ 1) :
    bits BinOp.or IntKind.u64 (v : Int) (IntKind.u64.wrap (IntKind.u64.wrap (bits BinOp.and IntKind.u8 (x : Int) 127) * 2 ^ (7 * k))) = ((v + 128 ^ k * (x % 128) : Nat) : Int) := by
  have e1 : bits BinOp.and IntKind.u8 (x : Int) 127 = ((x % 128 : Nat) : Int) := by
    have := u8_and_nat x 127 hx (by omega)
    rw [nat_mask7] at this
    exact this
  have e2 : IntKind.u64.wrap ((x % 128 : Nat) : Int) = ((x % 128 : Nat) : Int) := by rw [IntKind.wrap_u64]; omega
  have e3 : ((2 : Int) ^ (7 * k)) = ((128 ^ k : Nat) : Int) := by
    rw [Int.pow_mul]
    simp
  have hlt : 128 ^ k * (x % 128) < 18446744073709551616 := by
    have h4 : (128 : Nat) ^ 9 = 9223372036854775808 := by decide
    by_cases h : k = 9
    · have := h9 h
      subst h
      have h3 : 128 ^ 9 * (x % 128) ≤ 128 ^ 9 * 1 := Nat.mul_le_mul_left _ (by omega)
      omega
    · have h2 : 128 ^ (k + 1) ≤ 128 ^ 9 := Nat.pow_le_pow_right (by omega) (by omega)
      have h3 : 128 ^ k * (x % 128) ≤ 128 ^ k * 127 := Nat.mul_le_mul_left _ (by omega)
      rw [Nat.pow_succ] at h2
      omega
  have hv9 : v < 18446744073709551616 := by
    have h4 : (128 : Nat) ^ 9 = 9223372036854775808 := by decide
    have h2 : 128 ^ k ≤ 128 ^ 9 := Nat.pow_le_pow_right (by omega) (by omega)
    omega
  have e4 : IntKind.u64.wrap (((x % 128 : Nat) : Int) * ((128 ^ k : Nat) : Int)) = ((128 ^ k * (x % 128) : Nat) : Int) := by
    rw [← Int.natCast_mul, Nat.mul_comm, IntKind.wrap_u64]
    omega
  rw [e1, e2, e3, e4, u64_or_nat _ _ hv9 hlt]
  have e5 : v ||| 128 ^ k * (x % 128) = v + 128 ^ k * (x % 128) := by
    have e6 : (128 : Nat) ^ k = 2 ^ (7 * k) := by rw [Nat.pow_mul]
    rw [Nat.or_comm, nat_join (7 * k) _ v (by rw [e6]; simp) (by rw [← e6]; exact hv), Nat.add_comm]
  rw [e5]

/-- What is left behind the first k bytes. -/
theorem tail_run' (kl : IntKind) (A : Option Addr) (n c k : Nat) (hk : k ≤ n) (hc : n ≤ c) : ∃ A2, (∀ l : List Nat, l.length = n → ∀ (W : World) (lo hi : Nat), By W lo hi A l → By W lo hi A2 (l.drop k)) ∧ (A2 = none → A = none) ∧
    ∀ w, (Instr.slice 29 (.slice A n c) (some (.int kl (k : Int))) none none).run Try.prog w = .ok (.slice A2 (n - k) (c - k)) w := by
  obtain ⟨i0, hi, _, hz1, _⟩ := info_parts t5info
  refine ⟨if c = k then A else A.map (·.add k), fun l hl W lo hi' h => ?_, ?_, fun w => ?_⟩
  · subst hl
    exact By.drop h hk hc
  · split
    · exact id
    · cases A <;> simp
  · have he : Try.prog.underlying 29 = some (.slice (Try.prog.elem 29)) := by kernel_rfl
    have hs : (sizeOf (Try.prog.elem 29)).run Try.prog w = .ok 1 w := by
      have e : Try.prog.elem 29 = 5 := by kernel_rfl
      rw [e]
      simp [Go.sizeOf, typeInfo, hi, hz1]
    rw [run_slice_l w 29 A n c he kl (k : Int) (by omega) (by omega), hs]
    simp [Result.andThen, sliced]

theorem tail_run (A : Option Addr) (n c k : Nat) (hk : k ≤ n) (hc : n ≤ c) : ∃ A2, (∀ l : List Nat, l.length = n → ∀ (W : World) (lo hi : Nat), By W lo hi A l → By W lo hi A2 (l.drop k)) ∧ (A2 = none → A = none) ∧
    ∀ w, (Instr.slice 29 (.slice A n c) (some (.int .i64 (k : Int))) none none).run Try.prog w = .ok (.slice A2 (n - k) (c - k)) w := tail_run' .i64 A n c k hk hc

/-- The first k bytes. -/
theorem head_run (kl : IntKind) (A : Option Addr) (n c k : Nat) (hk : k ≤ n) (hc : n ≤ c) : ∃ A2, (∀ l : List Nat, l.length = n → ∀ (W : World) (lo hi : Nat), By W lo hi A l → By W lo hi A2 (l.take k)) ∧ (A2 = none → A = none) ∧
    ∀ w, (Instr.slice 29 (.slice A n c) none (some (.int kl (k : Int))) none).run Try.prog w = .ok (.slice A2 k c) w := by
  obtain ⟨i0, hi, _, hz1, _⟩ := info_parts t5info
  refine ⟨if c = 0 then A else A.map (·.add 0), fun l hl W lo hi' h => ?_, ?_, fun w => ?_⟩
  · have h2 := By.drop (k := 0) (cap := c) h (by omega) (by omega)
    unfold By
    rw [bv_take]
    exact Sl.take h2 k
  · split
    · exact id
    · cases A <;> simp
  · have he : Try.prog.underlying 29 = some (.slice (Try.prog.elem 29)) := by kernel_rfl
    have hs : (sizeOf (Try.prog.elem 29)).run Try.prog w = .ok 1 w := by
      have e : Try.prog.elem 29 = 5 := by kernel_rfl
      rw [e]
      simp [Go.sizeOf, typeInfo, hi, hz1]
    rw [run_slice_h w 29 A n c he kl (k : Int) (by omega) (by omega), hs]
    simp [Result.andThen, sliced]

def NumPost (w : World) (r lo hi : Nat) (l : List Nat) (e : Ending) (w' : World) : Prop :=
  (∃ n rest, Begins l n rest ∧ e = .returned (.tuple #[.int .u64 (n : Int), .int .i64 0]) ∧ Rd w' r lo hi rest ∧ w.grownBy w' (some r)) ∨
  ((∀ n rest, ¬ Begins l n rest) ∧ e = .returned (.tuple #[.int .u64 0, .int .i64 4]) ∧ Rd w' r lo hi l ∧ w.grownBy w' (some r))

theorem grownBy_set (w : World) (r o : Nat) (u : Value) : w.grownBy (w.setCell ⟨r, o, none⟩ u) (some r) :=
  ⟨rfl, rfl, rfl, by simp [World.setCell], fun i _ hne => Below.heap_setCell w _ u i (by rintro rfl; exact hne rfl)⟩

set_option maxHeartbeats 2000000 in
theorem num_any (r lo hi : Nat) (l : List Nat) (w : World) (h : Rd w r lo hi l) : Calls Try.prog 102 #[.pointer (some ⟨r, 0, none⟩)] w (NumPost w r lo hi l) := by
  obtain ⟨v, h1, A, c, rfl, hlc, hcm, hnil, hby⟩ := h.ex
  have c0 := h1.c0
  have f0 := h1.f0
  have H1 := Lib.hid h1
  have HR := Lib.hid h
  have HLC := Lib.hid hlc
  have HCM := Lib.hid hcm
  clear h h1 hlc hcm
  have hfail : ∀ w' : World, w = w' → (∀ n rest, ¬ Begins l n rest) → NumPost w r lo hi l (.returned (.tuple #[.int .u64 0, .int .i64 4])) w' := by
    rintro _ rfl hno
    exact .inr ⟨hno, rfl, HR.out, World.grownBy.refl w _⟩
  have HF := Lib.hid hfail
  clear hfail
  go_enter Try.func102, Try.ntmps102
  go_wp2_with fail
  go_step3
  go_wp2_with fail
  go_step3
  go_wp2_with fail
  go_loop [4, 5] (fun n i => ∃ k : Nat, k ≤ l.length ∧ k ≤ 9 ∧ i = .int .i64 (k : Int) ∧ n = .int .u64 (val (l.take k) : Int) ∧ More (l.take k)) (fun _ i => 10 - (intOf i).toNat)
  case atStart => exact ⟨0, Nat.zero_le _, by omega, rfl, rfl, more_nil l⟩
  case round =>
    obtain ⟨k, hk, hk9, rfl, rfl, hm⟩ := hrel
    have HM := Lib.hid hm
    clear hm
    by_cases hlt : k < l.length
    · obtain ⟨b, o, rfl, _, _, hcell⟩ := hby.at_ hlt
      have hxb : l[k] < 256 := HR.out.byt _ (List.getElem_mem hlt)
      have HV := Lib.hid (val_take_lt hk)
      have HS := Lib.hid (val_succ hlt)
      have HMS := Lib.hid (fun h1 => more_succ hlt HM.out h1 hxb)
      have HB := Lib.hid (begins_of hlt HM.out)
      have HZ := Lib.hid (not_begins_zero hlt HM.out)
      have H9 : Hid (k = 9 → 1 < l[k] → ∀ n r, ¬ Begins l n r) := fun h => by subst h; exact not_begins_nine hlt HM.out
      generalize l[k] = x at *
      generalize val (l.take k) = vv at *
      have d1 : ((k : Int) == (l.length : Int)) = false := by simp; omega
      have d1n : (k == l.length) = false := by simp; omega
      by_cases hz : k ≠ 0 ∧ x = 0
      · obtain ⟨hk0, rfl⟩ := hz
        have d6 : decide ((0 : Int) < (k : Int)) = true := by simp; omega
        have d6n : decide (0 < k) = true := by simp; omega
        have hno := Lib.hid (HZ.out hk0 rfl)
        clear HB H9 HS HMS
        go_wp2_with fail
        go_ret2
        exact HF.out _ rfl hno.out
      · by_cases h9 : k = 9 ∧ 1 < x
        · obtain ⟨rfl, h1x⟩ := h9
          have d2 : ((x : Int) == 0) = false := by simp; omega
          have d4 : decide ((1 : Int) < (x : Int)) = true := by simp; omega
          have d4n : decide (1 < x) = true := by simp; omega
          have hno := Lib.hid (H9 rfl h1x)
          clear HB HZ HS HMS
          go_wp2_with fail
          go_ret2
          exact HF.out _ rfl hno.out
        · by_cases hx : x < 128
          · have d3 : decide ((x : Int) < 128) = true := by simp; omega
            have d3n : decide (x < 128) = true := by simp; omega
            have hdig := digit_more vv x k hk9 HV.out hxb (by omega)
            rw [Nat.mod_eq_of_lt hx] at hdig
            have hbeg := HB.out hx (fun h0 => by omega) (by omega)
            obtain ⟨A2, hA2, hA2n, hrun⟩ := tail_run (some ⟨b, o, none⟩) l.length c (k + 1) (by omega) HLC.out
            have hrun' : ∀ w, (Instr.slice 29 (.slice (some ⟨b, o, none⟩) l.length c) (some (.int .i64 ((k : Int) + 1))) none none).run Try.prog w = .ok (.slice A2 (l.length - (k + 1)) (c - (k + 1))) w := hrun
            generalize vv + 128 ^ k * x = n at *
            have hyes : NumPost w r lo hi l (.returned (.tuple #[.int .u64 (n : Int), .int .i64 0])) (w.setCell ⟨r, 0, none⟩ (.slice A2 (l.length - (k + 1)) (c - (k + 1)))) := by
              have hl2 : (l.drop (k + 1)).length = l.length - (k + 1) := by simp
              have hap := HR.out.apart
              have hlc2 := HLC.out
              have hcm2 := HCM.out
              refine .inl ⟨n, l.drop (k + 1), hbeg, rfl, ⟨⟨_, H1.out.set _, A2, c - (k + 1), by rw [hl2], by omega, by omega, ?_, (hA2 l rfl _ _ _ hby).setCell (by simpa using hap) _⟩, hap, by have := HR.out.top; simpa [World.setCell] using this, fun q hq => HR.out.byt q (List.mem_of_mem_drop hq)⟩, grownBy_set _ _ _ _⟩
              intro hn
              cases hA2n hn
            have HY := Lib.hid hyes
            clear hyes hbeg hrun hA2 HB H9 HZ HS HMS hA2n
            have hln : (k : Int) + 1 ≤ 9223372036854775807 := by omega
            by_cases h0 : k = 0
            · have d6 : decide ((0 : Int) < (k : Int)) = false := by simp; omega
              have d6n : decide (0 < k) = false := by simp; omega
              have d5 : ((k : Int) == 9) = false := by simp; omega
              have H0 := Lib.hid h0
              clear h0
              go_wp2_with fail
              go_ret2
              exact HY.out
            · have hx0 : x ≠ 0 := by omega
              have d2 : ((x : Int) == 0) = false := by simp; omega
              have d6 : decide ((0 : Int) < (k : Int)) = true := by simp; omega
              have d6n : decide (0 < k) = true := by simp; omega
              by_cases hk9' : k = 9
              · have d5 : ((k : Int) == 9) = true := by simp; omega
                have H9' := Lib.hid hk9'
                have d4 : decide ((1 : Int) < (x : Int)) = false := by simp; omega
                have d4n : decide (1 < x) = false := by simp; omega
                clear hk9'
                go_wp2_with fail
                go_ret2
                exact HY.out
              · have d5 : ((k : Int) == 9) = false := by simp; omega
                go_wp2_with fail
                go_ret2
                exact HY.out
          · have d2 : ((x : Int) == 0) = false := by simp; omega
            have d3 : decide ((x : Int) < 128) = false := by simp; omega
            have d3n : decide (x < 128) = false := by simp; omega
            have hk8 : k ≠ 9 := by omega
            have d5 : ((k : Int) == 9) = false := by simp; omega
            have hdig := digit_more vv x k hk9 HV.out hxb (by omega)
            rw [← HS.out] at hdig
            by_cases h0 : k = 0
            · have d6 : decide ((0 : Int) < (k : Int)) = false := by simp; omega
              have d6n : decide (0 < k) = false := by simp; omega
              have d5 : ((k : Int) == 9) = false := by simp; omega
              have H0 := Lib.hid h0
              clear h0
              go_wp2_with fail
              go_round
              case rel => exact ⟨k + 1, by omega, by omega, by go_num, rfl, HMS.out (by omega)⟩
              case measure => simp [intOf]; omega
            · have d6 : decide ((0 : Int) < (k : Int)) = true := by simp; omega
              have d6n : decide (0 < k) = true := by simp; omega
              go_wp2_with fail
              go_round
              case rel => exact ⟨k + 1, by omega, by omega, by go_num, rfl, HMS.out (by omega)⟩
              case measure => simp [intOf]; omega
    · obtain rfl : k = l.length := by omega
      have hno : ∀ n rest, ¬ Begins l n rest := by
        have h1 := HM.out
        rw [List.take_length] at h1
        exact fun n r => not_begins_more h1 n r
      have HN := Lib.hid hno
      clear hno
      go_wp2_with fail
      go_ret2
      exact HF.out _ rfl HN.out
end Go.Proofs.Ytgflhbpmkcggnaa

/- wire.whole: a reading on a copy of the reader, which counts where it went through. -/
namespace Go.Proofs.Ytgflhbpmkcggnaa
open Go.ChangeShapes Go.WideShapes Go.ChangeAt Go.RowKit

theorem grown_two {w w1 : World} {o1 o2 : Obj} (r : Nat) (u b : Value) (hr : r < w.heap.size) (hg : ((w.alloc o1).alloc o2).grownBy w1 (some (w.heap.size + 1))) :
    w.grownBy ((w1.setCell ⟨r, 0, none⟩ u).setCell ⟨r, 1, none⟩ b) (some r) := by
  refine ⟨hg.os, hg.tape, hg.output, ?_, fun i hi hne => ?_⟩
  · have := hg.size; simp at this; simp [World.setCell]; omega
  · have h1 := hg.block i (by simp; omega) (by intro h; injection h with h; omega)
    rw [Below.heap_setCell _ _ _ _ (by rintro rfl; exact hne rfl), Below.heap_setCell _ _ _ _ (by rintro rfl; exact hne rfl), h1, Below.heap_alloc _ _ _ (by simp; omega), Below.heap_alloc _ _ _ hi]

/-- The copy that is read, in the world in which the reading begins. -/
theorem rd_copy {w : World} {r lo hi : Nat} {l : List Nat} {v : Value} (h : Rd w r lo hi l) (h1 : RObj w r v true) :
    Rd ((w.alloc (.cells #[v, .bool true] 134)).alloc (.cells #[v, .bool true] 134)) (w.heap.size + 1) lo hi l := by
  obtain ⟨v', h2, h3⟩ := h.ex
  have e : v' = v := by
    have a := h1.c0
    rw [h2.c0] at a
    injection a
  subst e
  have ht := h.top
  refine ⟨⟨v', ?_, (h3.alloc ht _).alloc (by simp; omega) _⟩, .inr (by omega), by simp; omega, h.byt⟩
  have := RObj.new (w.alloc (.cells #[v', .bool true] 134)) v' true
  simpa using this

/-- What a reading answers: a value and what is left behind it, or an error. -/
def ReadPost (ok : Value → List Nat → Prop) (err : Value → Int → Prop) (w : World) (r lo hi : Nat) (l : List Nat) (e : Ending) (w' : World) : Prop :=
  (∃ v rest, ok v rest ∧ e = .returned (.tuple #[v, .int .i64 0]) ∧ Rd w' r lo hi rest ∧ w.grownBy w' (some r)) ∨
  (∃ v n, err v n ∧ n ≠ 0 ∧ e = .returned (.tuple #[v, .int .i64 n]) ∧ Rd w' r lo hi l ∧ w.grownBy w' (some r))

/-- A reading that may have gone on beside an error. -/
def LoosePost (ok : Value → List Nat → World → Prop) (err : Int → Prop) (w : World) (r lo hi : Nat) (e : Ending) (w' : World) : Prop :=
  (∃ v rest, ok v rest w' ∧ e = .returned (.tuple #[v, .int .i64 0]) ∧ Rd w' r lo hi rest ∧ w.grownBy w' (some r)) ∨
  (∃ v n, err n ∧ n ≠ 0 ∧ e = .returned (.tuple #[v, .int .i64 n]) ∧ w.grownBy w' (some r))

/-- The same behind whole: beside an error the zero value, and the reader as it was. -/
def WholePost (zero : Value) (ok : Value → List Nat → World → Prop) (err : Int → Prop) (w : World) (r lo hi : Nat) (l : List Nat) (e : Ending) (w' : World) : Prop :=
  (∃ v rest, ok v rest w' ∧ e = .returned (.tuple #[v, .int .i64 0]) ∧ Rd w' r lo hi rest ∧ w.grownBy w' (some r)) ∨
  (∃ n, err n ∧ n ≠ 0 ∧ e = .returned (.tuple #[zero, .int .i64 n]) ∧ Rd w' r lo hi l ∧ w.grownBy w' (some r))

/-- A property of answers that stores into readers do not touch. -/
def Holds2 (ok : Value → List Nat → World → Prop) (B : Nat) : Prop := ∀ v rest w b o u, ok v rest w → b < B → ok v rest (w.setCell ⟨b, o, none⟩ u)

set_option maxHeartbeats 1000000 in
theorem whole_u64 (ok : Value → List Nat → World → Prop) (err : Int → Prop) (r lo hi : Nat) (l : List Nat) (w : World) (h : Rd w r lo hi l) (hok : Holds2 ok w.heap.size)
    (hread : ∀ v, Rd ((w.alloc (.cells #[v, .bool true] 134)).alloc (.cells #[v, .bool true] 134)) (w.heap.size + 1) lo hi l →
      Calls Try.prog 102 #[.pointer (some ⟨w.heap.size + 1, 0, none⟩)] ((w.alloc (.cells #[v, .bool true] 134)).alloc (.cells #[v, .bool true] 134))
        (LoosePost ok err ((w.alloc (.cells #[v, .bool true] 134)).alloc (.cells #[v, .bool true] 134)) (w.heap.size + 1) lo hi)) :
    Calls Try.prog 101 #[.pointer (some ⟨r, 0, none⟩), .func (.func 102) #[] #[]] w (WholePost (.int .u64 0) ok err w r lo hi l) := by
  obtain ⟨v, h1, hB⟩ := h.ex
  have hB' := hB
  obtain ⟨A, c, rfl, hlc, hcm, hnil, hby⟩ := hB
  have HC := Lib.hid (hread _ (rd_copy h h1))
  have HO := Lib.hid hok
  have c0 := h1.c0
  have c1 := h1.c1
  have f0 := h1.f0
  have f1 := h1.f1
  have hr := h1.lt
  have H1 := Lib.hid h1
  have HR := Lib.hid h
  have HB := Lib.hid hB'
  clear h h1 hlc hcm hnil hby hread hB' hok
  go_enter Try.func101, Try.ntmps101
  go_wp2_with fail
  refine (none_open _ _ _ _ H1.out).mono ?_
  rintro e w1 ⟨rfl, rfl⟩
  go_wp2_with fail
  refine Calls.mono HC.out ?_
  rintro e w1 (⟨v1, rest, hv, rfl, hrd, hg⟩ | ⟨v1, n, hn, hn0, rfl, hg⟩)
  · have hr1 : RObj w1 r (.slice A l.length c) true := ((H1.out.alloc _).alloc _).grown hg (by intro h; injection h with h; omega)
    obtain ⟨v2, h2, hB2⟩ := hrd.ex
    have ap := HR.out.apart
    have hsz : w.heap.size < w1.heap.size := by have := hg.size; simp at this; omega
    have hfin : WholePost (.int .u64 0) ok err w r lo hi l (.returned (.tuple #[v1, .int .i64 0])) ((w1.setCell ⟨r, 0, none⟩ v2).setCell ⟨r, 1, none⟩ (.bool true)) := by
      refine .inl ⟨v1, rest, HO.out _ _ _ _ _ _ (HO.out _ _ _ _ _ _ hv hr) hr, rfl, ⟨⟨v2, (hr1.set v2).set1 true, (hB2.setCell (by simpa using ap) _).setCell (by simpa using ap) _⟩, ap, ?_, hrd.byt⟩, grown_two r v2 (.bool true) hr hg⟩
      have := HR.out.top
      simp [World.setCell]; omega
    have HF := Lib.hid hfin
    have d0 := h2.c0
    have d1 := h2.c1
    have e0 := hr1.c0
    have e1 := hr1.c1
    have g0 := hr1.f0
    have g1 := hr1.f1
    obtain ⟨A2, c2, rfl, _, _, _, _⟩ := hB2
    clear hfin hr1 hrd h2 hv
    go_wp2_with fail
    go_ret2
    exact HF.out
  · have hr1 : RObj w1 r (.slice A l.length c) true := ((H1.out.alloc _).alloc _).grown hg (by intro h; injection h with h; omega)
    have hw1 : RObj w1 w.heap.size (.slice A l.length c) true := ((RObj.new w _ _).alloc _).grown hg (by intro h; injection h with h; omega)
    have ap := HR.out.apart
    have top := HR.out.top
    have hsz : w.heap.size < w1.heap.size := by have := hg.size; simp at this; omega
    have hB1 : Bs w1 lo hi (.slice A l.length c) l := ((HB.out.alloc top _).alloc (by simp; omega) _).grown hg (by simp; omega) (fun k hk => by injection hk with hk; omega)
    have hfin : WholePost (.int .u64 0) ok err w r lo hi l (.returned (.tuple #[(.int .u64 0), .int .i64 n])) ((w1.setCell ⟨r, 0, none⟩ (.slice A l.length c)).setCell ⟨r, 1, none⟩ (.bool true)) := by
      refine .inr ⟨n, hn, hn0, rfl, ⟨⟨_, (hr1.set _).set1 true, (hB1.setCell (by simpa using ap) _).setCell (by simpa using ap) _⟩, ap, ?_, HR.out.byt⟩, grown_two r _ (.bool true) hr hg⟩
      simp [World.setCell]; omega
    have HF := Lib.hid hfin
    have d0 := hw1.c0
    have d1 := hw1.c1
    have e0 := hr1.c0
    have e1 := hr1.c1
    have g0 := hr1.f0
    have g1 := hr1.f1
    have hn0' : (n != 0) = true := by simpa using hn0
    clear hfin hr1 hw1 hB1
    go_wp2_with fail
    go_ret2
    exact HF.out

set_option maxHeartbeats 1000000 in
theorem whole_bytes (p : Nat) (ok : Value → List Nat → World → Prop) (err : Int → Prop) (r lo hi : Nat) (l : List Nat) (w : World) (h : Rd w r lo hi l) (hok : Holds2 ok w.heap.size)
    (hread : ∀ v, Rd ((w.alloc (.cells #[v, .bool true] 134)).alloc (.cells #[v, .bool true] 134)) (w.heap.size + 1) lo hi l →
      Calls Try.prog 104 #[.pointer (some ⟨w.heap.size + 1, 0, none⟩), .pointer (some ⟨p, 0, none⟩)] ((w.alloc (.cells #[v, .bool true] 134)).alloc (.cells #[v, .bool true] 134))
        (LoosePost ok err ((w.alloc (.cells #[v, .bool true] 134)).alloc (.cells #[v, .bool true] 134)) (w.heap.size + 1) lo hi)) :
    Calls Try.prog 103 #[.pointer (some ⟨r, 0, none⟩), .func (.func 104) #[] #[.pointer (some ⟨p, 0, none⟩)]] w (WholePost (.slice none 0 0) ok err w r lo hi l) := by
  obtain ⟨v, h1, hB⟩ := h.ex
  have hB' := hB
  obtain ⟨A, c, rfl, hlc, hcm, hnil, hby⟩ := hB
  have HC := Lib.hid (hread _ (rd_copy h h1))
  have HO := Lib.hid hok
  have c0 := h1.c0
  have c1 := h1.c1
  have f0 := h1.f0
  have f1 := h1.f1
  have hr := h1.lt
  have H1 := Lib.hid h1
  have HR := Lib.hid h
  have HB := Lib.hid hB'
  clear h h1 hlc hcm hnil hby hread hB' hok
  go_enter Try.func103, Try.ntmps103
  go_wp2_with fail
  refine (none_open _ _ _ _ H1.out).mono ?_
  rintro e w1 ⟨rfl, rfl⟩
  go_wp2_with fail
  refine Calls.mono HC.out ?_
  rintro e w1 (⟨v1, rest, hv, rfl, hrd, hg⟩ | ⟨v1, n, hn, hn0, rfl, hg⟩)
  · have hr1 : RObj w1 r (.slice A l.length c) true := ((H1.out.alloc _).alloc _).grown hg (by intro h; injection h with h; omega)
    obtain ⟨v2, h2, hB2⟩ := hrd.ex
    have ap := HR.out.apart
    have hsz : w.heap.size < w1.heap.size := by have := hg.size; simp at this; omega
    have hfin : WholePost (.slice none 0 0) ok err w r lo hi l (.returned (.tuple #[v1, .int .i64 0])) ((w1.setCell ⟨r, 0, none⟩ v2).setCell ⟨r, 1, none⟩ (.bool true)) := by
      refine .inl ⟨v1, rest, HO.out _ _ _ _ _ _ (HO.out _ _ _ _ _ _ hv hr) hr, rfl, ⟨⟨v2, (hr1.set v2).set1 true, (hB2.setCell (by simpa using ap) _).setCell (by simpa using ap) _⟩, ap, ?_, hrd.byt⟩, grown_two r v2 (.bool true) hr hg⟩
      have := HR.out.top
      simp [World.setCell]; omega
    have HF := Lib.hid hfin
    have d0 := h2.c0
    have d1 := h2.c1
    have e0 := hr1.c0
    have e1 := hr1.c1
    have g0 := hr1.f0
    have g1 := hr1.f1
    obtain ⟨A2, c2, rfl, _, _, _, _⟩ := hB2
    clear hfin hr1 hrd h2 hv
    go_wp2_with fail
    go_ret2
    exact HF.out
  · have hr1 : RObj w1 r (.slice A l.length c) true := ((H1.out.alloc _).alloc _).grown hg (by intro h; injection h with h; omega)
    have hw1 : RObj w1 w.heap.size (.slice A l.length c) true := ((RObj.new w _ _).alloc _).grown hg (by intro h; injection h with h; omega)
    have ap := HR.out.apart
    have top := HR.out.top
    have hsz : w.heap.size < w1.heap.size := by have := hg.size; simp at this; omega
    have hB1 : Bs w1 lo hi (.slice A l.length c) l := ((HB.out.alloc top _).alloc (by simp; omega) _).grown hg (by simp; omega) (fun k hk => by injection hk with hk; omega)
    have hfin : WholePost (.slice none 0 0) ok err w r lo hi l (.returned (.tuple #[(.slice none 0 0), .int .i64 n])) ((w1.setCell ⟨r, 0, none⟩ (.slice A l.length c)).setCell ⟨r, 1, none⟩ (.bool true)) := by
      refine .inr ⟨n, hn, hn0, rfl, ⟨⟨_, (hr1.set _).set1 true, (hB1.setCell (by simpa using ap) _).setCell (by simpa using ap) _⟩, ap, ?_, HR.out.byt⟩, grown_two r _ (.bool true) hr hg⟩
      simp [World.setCell]; omega
    have HF := Lib.hid hfin
    have d0 := hw1.c0
    have d1 := hw1.c1
    have e0 := hr1.c0
    have e1 := hr1.c1
    have g0 := hr1.f0
    have g1 := hr1.f1
    have hn0' : (n != 0) = true := by simpa using hn0
    clear hfin hr1 hw1 hB1
    go_wp2_with fail
    go_ret2
    exact HF.out

end Go.Proofs.Ytgflhbpmkcggnaa
