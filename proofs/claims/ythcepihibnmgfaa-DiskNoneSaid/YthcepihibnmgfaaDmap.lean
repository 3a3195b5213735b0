/- What a disk's memory is: a cell for its room, a map of files, and for each file a row of bytes of its own; and what keeps it. -/
import Derived.Test.YthcepihibnmgfaaOrd
import Derived.Maps.OwnSet
import Derived.Maps.RangeWalk
import Derived.Maps.Ext
import Derived.Sort.KeysCollected
namespace Go.Proofs.Ythcepihibnmgfaa
open Go.RowKit Go.Maps

/-- A file, by its words: its name, its bytes, how many of them last. -/
structure Fl where
  name : List UInt8
  data : List Nat
  lasts : Nat

/-- A world in which no block but those of S, and new ones, is another. -/
structure Chg (S : Nat → Prop) (w w' : World) : Prop where
  os : w'.os = w.os
  tape : w'.tape = w.tape
  output : w'.output = w.output
  size : w.heap.size ≤ w'.heap.size
  block : ∀ k, k < w.heap.size → ¬ S k → w'.heap[k]? = w.heap[k]?

section
variable {S S' : Nat → Prop} {w w' w'' : World}
theorem Chg.refl (S : Nat → Prop) (w : World) : Chg S w w := ⟨rfl, rfl, rfl, Nat.le_refl _, fun _ _ _ => rfl⟩
theorem Chg.trans (h : Chg S w w') (k : Chg S w' w'') : Chg S w w'' :=
  ⟨k.os.trans h.os, k.tape.trans h.tape, k.output.trans h.output, Nat.le_trans h.size k.size, fun i hi hs => (k.block i (Nat.lt_of_lt_of_le hi h.size) hs).trans (h.block i hi hs)⟩
theorem Chg.mono (h : Chg S w w') (hS : ∀ k, k < w.heap.size → S k → S' k) : Chg S' w w' := ⟨h.os, h.tape, h.output, h.size, fun i hi hs => h.block i hi (fun x => hs (hS i hi x))⟩
/-- A step that touches what is new since, too. -/
theorem Chg.trans_new (h : Chg S w w') (k : Chg S' w' w'') (hS : ∀ i, i < w.heap.size → S' i → S i) : Chg S w w'' :=
  ⟨k.os.trans h.os, k.tape.trans h.tape, k.output.trans h.output, Nat.le_trans h.size k.size, fun i hi hs => (k.block i (Nat.lt_of_lt_of_le hi h.size) (fun x => hs (hS i hi x))).trans (h.block i hi hs)⟩
theorem Chg.of_below (h : Below w.heap.size w w') : Chg S w w' := ⟨h.os, h.tape, h.output, h.size, fun i hi _ => h.block i hi⟩
theorem Chg.of_ext (h : Ext w w') : Chg S w w' := Chg.of_below h
theorem Chg.below {B : Nat} (h : Chg S w w') (hS : ∀ k, S k → B ≤ k) (hB : B ≤ w.heap.size) : Below B w w' := ⟨h.os, h.tape, h.output, h.size, fun i hi => h.block i (by omega) (fun x => by have := hS i x; omega)⟩
theorem Chg.grown {row : Option Nat} (hg : w.grownBy w' row) (hr : ∀ k, row = some k → S k) : Chg S w w' := ⟨hg.os, hg.tape, hg.output, hg.size, fun i hi hs => hg.block i hi (fun e => hs (hr i e.symm))⟩
theorem Chg.setCell (w : World) (p : Addr) (u : Value) (hp : S p.block) : Chg S w (w.setCell p u) := ⟨rfl, rfl, rfl, by simp [World.setCell], fun i _ hs => Below.heap_setCell _ _ _ _ (fun e => hs (e ▸ hp))⟩
theorem Chg.alloc (w : World) (o : Obj) : Chg S w (w.alloc o) := Chg.of_below ((Below.refl _ _).alloc (Nat.le_refl _) _)
theorem Chg.drew (w : World) : Chg S w w.drew := Chg.of_below (Below.refl _ _).drew
theorem Chg.nothing (h : Chg (fun _ => False) w w') : Below w.heap.size w w' := ⟨h.os, h.tape, h.output, h.size, fun i hi => h.block i hi id⟩
end

/-- A row of the call's own stays where its block stays. -/
theorem row_kept {w w' : World} {base : Nat} {e : TypeId} {n : Nat} {v : Value} {xs : List Value} (h : w.ownsRow base e 1 v n xs) (hk : ∀ g, v.ownBlock = some g → w'.heap[g]? = w.heap[g]?) : w'.ownsRow base e 1 v n xs := by
  obtain ⟨h1, h2⟩ := h
  refine ⟨h1, ?_⟩
  rcases h2 with h2 | ⟨g, cap, cur, hv, hg, hh, r⟩
  · exact Or.inl h2
  · exact Or.inr ⟨g, cap, cur, hv, hg, (hk g (by rw [hv]; rfl)).trans hh, r⟩
theorem row_lt {w : World} {base : Nat} {e : TypeId} {n : Nat} {v : Value} {xs : List Value} (h : w.ownsRow base e 1 v n xs) : ∀ g, v.ownBlock = some g → base ≤ g ∧ g < w.heap.size := by
  intro g hg
  rcases h.2 with ⟨rfl, _⟩ | ⟨g', cap, cur, hv, hb, hh, r⟩
  · cases hg
  · rw [hv] at hg
    injection hg with hg
    subst hg
    exact ⟨hb, (Array.getElem?_eq_some_iff.1 hh).1⟩

/-- A file's value. -/
def fv (A : Option Addr) (n c : Nat) (x : Int) : Value := .agg #[.slice A n c, .int .i64 x]
/-- Is this one? -/
def isF : Value → Bool
  | .agg a => a.size == 2 && (match a.getD 0 undef with | .slice _ _ _ => true | _ => false) && (match a.getD 1 undef with | .int k _ => k == .i64 | _ => false)
  | _ => false
/-- How a file in the map reads: as itself. -/
def rdf (v : Value) : Option (DataW Value × List MemPlace) := if isF v then some (.held v, []) else none
theorem rdf_mk (A : Option Addr) (n c : Nat) (x : Int) : rdf (fv A n c x) = some (.held (fv A n c x), []) := if_pos rfl
theorem rdf_inv {v : Value} {y : DataW Value × List MemPlace} (h : rdf v = some y) : ∃ A n c x, v = fv A n c x ∧ y = (.held v, []) := by
  unfold rdf at h
  split at h
  · rename_i hf
    injection h with h
    cases v <;> simp only [isF, Bool.false_eq_true] at hf
    rename_i a
    rw [Bool.and_eq_true, Bool.and_eq_true, beq_iff_eq] at hf
    obtain ⟨⟨h2, h0⟩, h1⟩ := hf
    obtain ⟨x, y', rfl⟩ : ∃ x y', a = #[x, y'] := by
      obtain ⟨l⟩ := a
      match l, h2 with
      | [x, y'], _ => exact ⟨x, y', rfl⟩
    cases x <;> simp at h0
    cases y' <;> simp at h1
    subst h1
    exact ⟨_, _, _, _, rfl, h.symm⟩
  · cases h

theorem lawS : Keyed Try.prog 9 := string_keyed Try.underlying9
theorem zeroF (w : World) : (zeroValue 96).run Try.prog w = .ok (fv none 0 0 0) w := by kernel_rfl

/-- The map says just these files, under the values V. -/
structure Con (D : DataW Value) (F : List Fl) (V : List UInt8 → Value) : Prop where
  tidy : Tidy D
  size : size D = F.length
  has : ∀ n, has D (.string n) = true ↔ ∃ f ∈ F, f.name = n
  at_ : ∀ f ∈ F, ∀ z, D.atKey (.string f.name) z = .held (V f.name)
  nodup : (F.map Fl.name).Nodup

/-- A file's bytes lie in a row of its own, of the blocks S. -/
structure FileAt (w : World) (S : Nat → Prop) (B : Nat) (f : Fl) (v : Value) : Prop where
  ex : ∃ u, v = .agg #[u, .int .i64 (f.lasts : Int)] ∧ w.ownsRow B 5 1 u f.data.length (bv f.data) ∧ ∀ g, u.ownBlock = some g → S g
  lasts : f.lasts ≤ f.data.length
  bytes : ∀ b ∈ f.data, b < 256

/-- The block of a file's bytes. -/
def blk : Value → Option Nat
  | .agg a => match a[0]? with | some u => u.ownBlock | none => none
  | _ => none
theorem blk_mk (u x : Value) : blk (.agg #[u, x]) = u.ownBlock := rfl

/-- How many bytes files have. -/
def tot (F : List Fl) : Nat := (F.map fun f => f.data.length).sum
/-- A name that may be. -/
def good (n : List UInt8) : Bool := decide (1 ≤ n.length) && decide (n.length ≤ 32) && n.all fun c => decide (33 ≤ c.toNat) && decide (c.toNat ≤ 126)

/-- Block d is a disk, in the blocks S from B on. -/
structure Disk (w : World) (S : Nat → Prop) (B d room : Nat) (F : List Fl) : Prop where
  ex : ∃ m D V, w.heap[d]? = some (.cells #[.int .i64 (room : Int), .map (some m)] 80 (0, 0)) ∧ w.ownsMap Try.prog 9 rdf m F.length D ∧ Con D F V ∧ (∀ f ∈ F, FileAt w S B f (V f.name)) ∧
    (∀ f ∈ F, ∀ g ∈ F, f.name ≠ g.name → ∀ b, blk (V f.name) = some b → blk (V g.name) ≠ some b) ∧ S m ∧ B ≤ m
  mine : S d
  base : B ≤ d
  lo : 1024 ≤ room
  hi : room ≤ 1048576
  tot : tot F ≤ room
  cnt : F.length ≤ 128
  names : ∀ f ∈ F, good f.name = true

theorem Con.perm {D : DataW Value} {F F' : List Fl} {V : List UInt8 → Value} (h : Con D F V) (p : F.Perm F') : Con D F' V :=
  ⟨h.tidy, by rw [h.size, p.length_eq], fun n => by rw [h.has]; simp [p.mem_iff], fun f hf => h.at_ f (p.mem_iff.2 hf), (p.map _).nodup_iff.1 h.nodup⟩
theorem tot_perm {F F' : List Fl} (p : F.Perm F') : tot F = tot F' := (p.map _).sum_nat
theorem Disk.perm {w : World} {S : Nat → Prop} {B d room : Nat} {F F' : List Fl} (h : Disk w S B d room F) (p : F.Perm F') : Disk w S B d room F' := by
  obtain ⟨⟨m, D, V, h1, h2, h3, h4, h5, h6, h7⟩, a, b, c, e, f, g, i⟩ := h
  exact ⟨⟨m, D, V, h1, by rw [← p.length_eq]; exact h2, h3.perm p, fun x hx => h4 x (p.mem_iff.2 hx), fun x hx y hy => h5 x (p.mem_iff.2 hx) y (p.mem_iff.2 hy), h6, h7⟩, a, b, c, e, by rw [← tot_perm p]; exact f, by rw [← p.length_eq]; exact g, fun x hx => i x (p.mem_iff.2 hx)⟩

theorem FileAt.kept {w w' : World} {S : Nat → Prop} {B : Nat} {f : Fl} {v : Value} (h : FileAt w S B f v) (hk : ∀ g, S g → g < w.heap.size → w'.heap[g]? = w.heap[g]?) : FileAt w' S B f v := by
  obtain ⟨⟨u, e, hr, hs⟩, a, b⟩ := h
  exact ⟨⟨u, e, row_kept hr (fun g hg => hk g (hs g hg) (row_lt hr g hg).2), hs⟩, a, b⟩
theorem map_kept {w w' : World} {R : Value → Option (DataW Value × List MemPlace)} {k : TypeId} {m n : Nat} {D : DataW Value} (h : w.ownsMap Try.prog k R m n D) (hk : w'.heap[m]? = w.heap[m]?) : w'.ownsMap Try.prog k R m n D := by
  obtain ⟨es, clock, hb, r⟩ := h
  exact ⟨es, clock, hk.trans hb, r⟩
/-- A disk stays while none of its blocks is written. -/
theorem Disk.kept {w w' : World} {S T : Nat → Prop} {B d room : Nat} {F : List Fl} (h : Disk w S B d room F) (hc : Chg T w w') (hd : ∀ k, S k → ¬ T k) : Disk w' S B d room F := by
  obtain ⟨⟨m, D, V, h1, h2, h3, h4, h5, h6, h7⟩, a, b, c, e, f, g, i⟩ := h
  have hk : ∀ k, S k → k < w.heap.size → w'.heap[k]? = w.heap[k]? := fun k hk hl => hc.block k hl (hd k hk)
  exact ⟨⟨m, D, V, (hk d a (Array.getElem?_eq_some_iff.1 h1).1).trans h1, map_kept h2 (hk m h6 h2.lt), h3, fun x hx => (h4 x hx).kept hk, h5, h6, h7⟩, a, b, c, e, f, g, i⟩
theorem Disk.ext {w w' : World} {S : Nat → Prop} {B d room : Nat} {F : List Fl} (h : Disk w S B d room F) (hc : Ext w w') : Disk w' S B d room F := h.kept (Chg.of_below (S := fun _ => False) hc) (fun _ _ x => x)
theorem Disk.wide {w : World} {S S' : Nat → Prop} {B d room : Nat} {F : List Fl} (h : Disk w S B d room F) (hS : ∀ k, S k → S' k) : Disk w S' B d room F := by
  obtain ⟨⟨m, D, V, h1, h2, h3, h4, h5, h6, h7⟩, a, b, c, e, f, g, i⟩ := h
  exact ⟨⟨m, D, V, h1, h2, h3, fun x hx => by obtain ⟨⟨u, q1, q2, q3⟩, q4, q5⟩ := h4 x hx; exact ⟨⟨u, q1, q2, fun g hg => hS g (q3 g hg)⟩, q4, q5⟩, h5, hS m h6, h7⟩, hS d a, b, c, e, f, g, i⟩

/-- Two files of one name are one. -/
theorem same_file {F : List Fl} (h : (F.map Fl.name).Nodup) {f g : Fl} (hf : f ∈ F) (hg : g ∈ F) (e : f.name = g.name) : f = g := by
  induction F with
  | nil => cases hf
  | cons x F ih =>
    rw [List.map_cons, List.nodup_cons] at h
    rcases List.mem_cons.1 hf with rfl | hf' <;> rcases List.mem_cons.1 hg with rfl | hg'
    · rfl
    · exact absurd (List.mem_map.2 ⟨g, hg', e.symm⟩) h.1
    · exact absurd (List.mem_map.2 ⟨f, hf', e⟩) h.1
    · exact ih h.2 hf' hg'

/-- The files without one. -/
def del (F : List Fl) (n : List UInt8) : List Fl := F.filter fun g => g.name != n
/-- The files with one more, or another one in its place. -/
def upd (F : List Fl) (f : Fl) : List Fl := f :: del F f.name
theorem mem_del {F : List Fl} {n : List UInt8} {f : Fl} : f ∈ del F n ↔ f ∈ F ∧ f.name ≠ n := by simp [del]
theorem del_none {F : List Fl} {n : List UInt8} (h : ¬ ∃ f ∈ F, f.name = n) : del F n = F := List.filter_eq_self.2 fun g hg => by simp; exact fun e => h ⟨g, hg, e⟩
theorem del_nodup {F : List Fl} {n : List UInt8} (h : (F.map Fl.name).Nodup) : ((del F n).map Fl.name).Nodup := (List.filter_sublist.map Fl.name).nodup h
theorem del_perm {F : List Fl} (h : (F.map Fl.name).Nodup) {f : Fl} (hf : f ∈ F) : F.Perm (f :: del F f.name) := by
  induction F with
  | nil => cases hf
  | cons x F ih =>
    rw [List.map_cons, List.nodup_cons] at h
    rcases List.mem_cons.1 hf with rfl | hf'
    · have : del (f :: F) f.name = F := by
        unfold del
        rw [List.filter_cons_of_neg (by simp)]
        exact List.filter_eq_self.2 fun g hg => by simp; exact fun e => h.1 (List.mem_map.2 ⟨g, hg, e⟩)
      rw [this]
    · have hne : x.name ≠ f.name := fun e => h.1 (List.mem_map.2 ⟨f, hf', e.symm⟩)
      have : del (x :: F) f.name = x :: del F f.name := by unfold del; rw [List.filter_cons_of_pos (by simpa using hne)]
      rw [this]
      exact ((ih h.2 hf').cons x).trans (List.Perm.swap _ _ _)

/-- The values with another one. -/
def vset (V : List UInt8 → Value) (n : List UInt8) (v : Value) : List UInt8 → Value := fun k => if k = n then v else V k

theorem lit_ne {a b : List UInt8} (h : a ≠ b) : Lit.string a ≠ Lit.string b := fun e => h (by injection e)
theorem keyLit {s : ByteArray} (hs : s.size ≤ maxLen) : WideAt.IsKeyLit (.string s.data.toList) := lawS.key (WideMaps.keyOf_string_mk (s := s) Try.underlying9 hs)

theorem Con.put {D : DataW Value} {F : List Fl} {V : List UInt8 → Value} (h : Con D F V) (f : Fl) (v : Value) (hk : WideAt.IsKeyLit (.string f.name)) : Con (D.put (.string f.name) (.held v)) (upd F f) (vset V f.name v) := by
  have hs := size_put h.tidy (k := .string f.name) (.held v)
  refine ⟨h.tidy.put hk _, ?_, fun n => ?_, fun g hg z => ?_, ?_⟩
  · rw [hs]
    by_cases hh : Maps.has D (.string f.name) = true
    · rw [if_pos hh]
      obtain ⟨g, hg, e⟩ := (h.has _).1 hh
      have := (del_perm h.nodup hg).length_eq
      rw [e] at this
      rw [h.size, this]; simp [upd]
    · rw [if_neg hh]
      have : del F f.name = F := del_none fun hx => hh ((h.has _).2 hx)
      simp [upd, this, h.size]
  · by_cases e : n = f.name
    · subst e
      rw [has_put_same h.tidy.isMap hk]
      simp [upd]
    · rw [has_put_other (lit_ne e), h.has]
      constructor
      · rintro ⟨g, hg, rfl⟩; exact ⟨g, List.mem_cons_of_mem _ (mem_del.2 ⟨hg, e⟩), rfl⟩
      · rintro ⟨g, hg, rfl⟩
        rcases List.mem_cons.1 hg with rfl | hg'
        · exact absurd rfl e
        · exact ⟨g, (mem_del.1 hg').1, rfl⟩
  · rcases List.mem_cons.1 hg with rfl | hg'
    · rw [atKey_put_same h.tidy.isMap hk]; simp [vset]
    · have hne := (mem_del.1 hg').2
      rw [atKey_put_other (lit_ne hne), h.at_ g (mem_del.1 hg').1]
      simp [vset, hne]
  · unfold upd
    rw [List.map_cons, List.nodup_cons]
    refine ⟨fun hm => ?_, del_nodup h.nodup⟩
    obtain ⟨g, hg, e⟩ := List.mem_map.1 hm
    exact (mem_del.1 hg).2 e

theorem Con.drop {D : DataW Value} {F : List Fl} {V : List UInt8 → Value} (h : Con D F V) (n : List UInt8) : Con (D.del (.string n)) (del F n) V := by
  have hs := size_del h.tidy (k := .string n)
  refine ⟨h.tidy.del _, ?_, fun k => ?_, fun g hg z => ?_, del_nodup h.nodup⟩
  · by_cases hh : Maps.has D (.string n) = true
    · obtain ⟨g, hg, rfl⟩ := (h.has _).1 hh
      have := (del_perm h.nodup hg).length_eq
      rw [if_pos hh, h.size, this] at hs
      simp at hs
      exact hs
    · rw [if_neg hh, h.size] at hs
      rw [del_none fun hx => hh ((h.has _).2 hx)]
      exact hs
  · by_cases e : k = n
    · subst e
      rw [has_del_same]
      constructor
      · intro h; cases h
      · rintro ⟨g, hg, e⟩; exact absurd e (mem_del.1 hg).2
    · rw [has_del_other (lit_ne e), h.has]
      constructor
      · rintro ⟨g, hg, rfl⟩; exact ⟨g, mem_del.2 ⟨hg, e⟩, rfl⟩
      · rintro ⟨g, hg, rfl⟩; exact ⟨g, (mem_del.1 hg).1, rfl⟩
  · have := mem_del.1 hg
    rw [atKey_del_other (lit_ne this.2), h.at_ g this.1]

/-- As many entries as the datum says. -/
theorem own_exact {w : World} {k : TypeId} {R : Value → Option (DataW Value × List MemPlace)} {m n : Nat} {D : DataW Value} (h : w.ownsMap Try.prog k R m n D) : w.ownsMap Try.prog k R m (size D) D := by
  obtain ⟨es, clock, hb, F, hs, rfl⟩ := h
  exact ⟨es, clock, hb, F, by simp [Maps.size, length_sorted], rfl⟩

/-! Looking a name up. -/
theorem look_yes {w : World} {m n : Nat} {D : DataW Value} {F : List Fl} {V : List UInt8 → Value} (ho : w.ownsMap Try.prog 9 rdf m n D) (hC : Con D F V) {f : Fl} (hf : f ∈ F) {s : ByteArray} (hs : s.size ≤ maxLen) (he : f.name = s.data.toList) :
    (Instr.lookup 78 (.map (some m)) (.string s) false).run Try.prog w = .ok (V f.name) w ∧ (Instr.lookup 78 (.map (some m)) (.string s) true).run Try.prog w = .ok (.tuple #[V f.name, .bool true]) w := by
  have hk : keyOf Try.prog 9 (.string s) = some (.string s.data.toList) := WideMaps.keyOf_string_mk Try.underlying9 hs
  obtain ⟨v, ps, hrun, hv⟩ := ho.lookup lawS Try.underlying78 (zeroF w) (rdf_mk none 0 0 0) hk
  obtain ⟨v', ps', hrun', hv'⟩ := ho.look_ok lawS Try.underlying78 (zeroF w) (rdf_mk none 0 0 0) hk
  rw [← he, hC.at_ f hf] at hv hv'
  obtain ⟨_, _, _, _, _, e⟩ := rdf_inv hv
  obtain ⟨_, _, _, _, _, e'⟩ := rdf_inv hv'
  have e1 : V f.name = v := DataW.held.inj (congrArg Prod.fst e)
  have e2 : V f.name = v' := DataW.held.inj (congrArg Prod.fst e')
  have hh : Maps.has D (.string s.data.toList) = true := (hC.has _).2 ⟨f, hf, he⟩
  rw [hh] at hrun'
  rw [← e1] at hrun
  rw [← e2] at hrun'
  exact ⟨hrun, hrun'⟩
theorem look_no {w : World} {m n : Nat} {D : DataW Value} {F : List Fl} {V : List UInt8 → Value} (ho : w.ownsMap Try.prog 9 rdf m n D) (hC : Con D F V) {s : ByteArray} (hs : s.size ≤ maxLen) (he : ¬ ∃ f ∈ F, f.name = s.data.toList) :
    (Instr.lookup 78 (.map (some m)) (.string s) false).run Try.prog w = .ok (fv none 0 0 0) w ∧ (Instr.lookup 78 (.map (some m)) (.string s) true).run Try.prog w = .ok (.tuple #[fv none 0 0 0, .bool false]) w := by
  have hk : keyOf Try.prog 9 (.string s) = some (.string s.data.toList) := WideMaps.keyOf_string_mk Try.underlying9 hs
  obtain ⟨v, ps, hrun, hv⟩ := ho.lookup lawS Try.underlying78 (zeroF w) (rdf_mk none 0 0 0) hk
  obtain ⟨v', ps', hrun', hv'⟩ := ho.look_ok lawS Try.underlying78 (zeroF w) (rdf_mk none 0 0 0) hk
  have hh : Maps.has D (.string s.data.toList) = false := by
    cases h : Maps.has D (.string s.data.toList)
    · rfl
    · exact absurd ((hC.has _).1 h) he
  rw [atKey_of_not_has hh] at hv hv'
  obtain ⟨_, _, _, _, _, e⟩ := rdf_inv hv
  obtain ⟨_, _, _, _, _, e'⟩ := rdf_inv hv'
  have e1 : fv none 0 0 0 = v := DataW.held.inj (congrArg Prod.fst e)
  have e2 : fv none 0 0 0 = v' := DataW.held.inj (congrArg Prod.fst e')
  rw [hh] at hrun'
  rw [← e1] at hrun
  rw [← e2] at hrun'
  exact ⟨hrun, hrun'⟩
end Go.Proofs.Ythcepihibnmgfaa
