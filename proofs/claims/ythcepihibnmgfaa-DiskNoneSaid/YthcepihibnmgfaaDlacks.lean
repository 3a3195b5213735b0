/- Whether there is no such file. -/
import Derived.Test.YthcepihibnmgfaaDref
import Derived.RegionTactic
import Derived.ChangeAlike
namespace Go.Proofs.Ythcepihibnmgfaa
open Go.RowKit

theorem cell_new {w : World} {p : Addr} {v : Value} (h : w.cell? p = some v) (o : Obj) : (w.alloc o).cell? p = some v := (World.cell?_alloc_lt w o p (World.block_lt_of_cell? w _ h)).trans h

set_option maxHeartbeats 1000000 in
theorem lacks_any (d : Option Addr) (s : ByteArray) (w : World) : Calls Try.prog 47 #[.pointer d, .string s] w fun e w' =>
    e = .returned (.func (.func 65) #[] #[.pointer (some ⟨w.heap.size, 0, none⟩), .pointer (some ⟨w.heap.size + 1, 0, none⟩)]) ∧ w' = (w.alloc (.cells #[.pointer d] 25)).alloc (.cells #[.string s] 9) := by
  go_enter Try.func47, Try.ntmps47
  go_wp2
  go_ret
  exact ⟨rfl, rfl⟩

/-- What a disk's cells and its map give, in every world that leaves its blocks as they are. -/
structure Seen (w : World) (d m : Nat) (S : Nat → Prop) (F : List Fl) (V : List UInt8 → Value) (D : DataW Value) (room : Nat) : Prop where
  block : w.heap[d]? = some (.cells #[.int .i64 (room : Int), .map (some m)] 80 (0, 0))
  own : w.ownsMap Try.prog 9 rdf m F.length D
  con : Con D F V
  mine : S d ∧ S m
theorem Seen.c0 {w : World} {d m room : Nat} {S : Nat → Prop} {F : List Fl} {V : List UInt8 → Value} {D : DataW Value} (h : Seen w d m S F V D room) : w.cell? ⟨d, 0, none⟩ = some (.int .i64 (room : Int)) := by simp [World.cell?, h.block]
theorem Seen.c1 {w : World} {d m room : Nat} {S : Nat → Prop} {F : List Fl} {V : List UInt8 → Value} {D : DataW Value} (h : Seen w d m S F V D room) : w.cell? ⟨d, 1, none⟩ = some (.map (some m)) := by simp [World.cell?, h.block]
theorem Seen.kept {w w' : World} {d m room : Nat} {S : Nat → Prop} {F : List Fl} {V : List UInt8 → Value} {D : DataW Value} (h : Seen w d m S F V D room) (hk : ∀ k, S k → k < w.heap.size → w'.heap[k]? = w.heap[k]?) : Seen w' d m S F V D room :=
  ⟨(hk d h.mine.1 (Array.getElem?_eq_some_iff.1 h.block).1).trans h.block, map_kept h.own (hk m h.mine.2 h.own.lt), h.con, h.mine⟩
theorem Seen.ext {w w' : World} {d m room : Nat} {S : Nat → Prop} {F : List Fl} {V : List UInt8 → Value} {D : DataW Value} (h : Seen w d m S F V D room) (hx : Ext w w') : Seen w' d m S F V D room := h.kept fun k _ hl => hx.block k hl
theorem Disk.seen {w : World} {S : Nat → Prop} {B d room : Nat} {F : List Fl} (h : Disk w S B d room F) : ∃ m D V, Seen w d m S F V D room ∧ (∀ f ∈ F, FileAt w S B f (V f.name)) ∧ B ≤ m ∧
    (∀ f ∈ F, ∀ g ∈ F, f.name ≠ g.name → ∀ b, blk (V f.name) = some b → blk (V g.name) ≠ some b) := by
  obtain ⟨⟨m, D, V, h1, h2, h3, h4, h5, h6, h7⟩, a, _⟩ := h
  exact ⟨m, D, V, ⟨h1, h2, h3, a, h6⟩, h4, h7, h5⟩
theorem ext_alloc (w : World) (o : Obj) : Ext w (w.alloc o) := (Below.refl _ _).alloc (Nat.le_refl _) _

/-- ErrNone, where a file is not there. -/
def lackN : Bool → Int | true => 0 | false => 6
/-- The answer of a name's being there. -/
theorem lacks_is {w : World} {d m bd bn room : Nat} {S : Nat → Prop} {F : List Fl} {V : List UInt8 → Value} {D : DataW Value} {s : ByteArray} (h : Seen w d m S F V D room)
    (hd : w.cell? ⟨bd, 0, none⟩ = some (.pointer (some ⟨d, 0, none⟩))) (hn : w.cell? ⟨bn, 0, none⟩ = some (.string s)) {A : Option Addr} {n c : Nat} {x : Int} {b : Bool}
    (hl : ∀ w', Ext w w' → (Instr.lookup 78 (.map (some m)) (.string s) true).run Try.prog w' = .ok (.tuple #[fv A n c x, .bool b]) w') :
    Calls Try.prog 65 #[.pointer (some ⟨bd, 0, none⟩), .pointer (some ⟨bn, 0, none⟩)] w fun e w' => e = .returned (.int .i64 (lackN b)) ∧ Below w.heap.size w w' := by
  unfold fv at hl
  have hc := h.c1
  have hl1 := fun (o : Obj) => hl (w.alloc o).drew ((ext_alloc w o).trans (Ext.drew _))
  have hl2 := hl w.drew (Ext.drew w)
  have hd1 := fun (o : Obj) => cell_new hd o
  have hn1 := fun (o : Obj) => cell_new hn o
  have hc1 := fun (o : Obj) => cell_new hc o
  clear hl h
  cases b
  all_goals
    go_enter Try.func65, Try.ntmps65
    go_wp2
    go_region
    all_goals
      go_wp2
      go_ret
      refine ⟨rfl, ?_⟩
      exact ((Below.refl _ w).alloc (Nat.le_refl _) _).drew

/-- Is there a file of that name? -/
def there (F : List Fl) (n : List UInt8) : Bool := F.any fun f => f.name == n
theorem there_yes {F : List Fl} {n : List UInt8} (h : there F n = true) : ∃ f ∈ F, f.name = n := by
  obtain ⟨f, hf, e⟩ := List.any_eq_true.1 h
  exact ⟨f, hf, by simpa using e⟩
theorem there_no {F : List Fl} {n : List UInt8} (h : there F n = false) : ¬ ∃ f ∈ F, f.name = n := by
  rintro ⟨f, hf, e⟩
  have := List.any_eq_false.1 h f hf
  simp [e] at this

/-- What a look gives, whether or not the file is there. -/
theorem Seen.look {w : World} {d m room : Nat} {S : Nat → Prop} {F : List Fl} {V : List UInt8 → Value} {D : DataW Value} (h : Seen w d m S F V D room) {s : ByteArray} (hs : s.size ≤ maxLen) (hV : ∀ f ∈ F, ∃ A n c x, V f.name = fv A n c x) :
    ∃ A n c x, (∀ w', Ext w w' → (Instr.lookup 78 (.map (some m)) (.string s) true).run Try.prog w' = .ok (.tuple #[fv A n c x, .bool (there F s.data.toList)]) w') ∧
      (∀ w', Ext w w' → (Instr.lookup 78 (.map (some m)) (.string s) false).run Try.prog w' = .ok (fv A n c x) w') ∧
      (∀ f ∈ F, f.name = s.data.toList → V f.name = fv A n c x) ∧ (there F s.data.toList = false → A = none ∧ n = 0 ∧ c = 0 ∧ x = 0) := by
  cases ht : there F s.data.toList
  · have hn := there_no ht
    refine ⟨none, 0, 0, 0, fun w' hx => (look_no (h.ext hx).own h.con hs hn).2, fun w' hx => (look_no (h.ext hx).own h.con hs hn).1, fun f hf e => absurd ⟨f, hf, e⟩ hn, fun _ => ⟨rfl, rfl, rfl, rfl⟩⟩
  · obtain ⟨f, hf, e⟩ := there_yes ht
    obtain ⟨A, n, c, x, hv⟩ := hV f hf
    refine ⟨A, n, c, x, fun w' hx => ?_, fun w' hx => ?_, fun g hg e' => by rw [same_file h.con.nodup hg hf (e'.trans e.symm)]; exact hv, fun h => by cases h⟩
    · rw [← hv]; exact (look_yes (h.ext hx).own h.con hf hs e).2
    · rw [← hv]; exact (look_yes (h.ext hx).own h.con hf hs e).1
theorem FileAt.shape {w : World} {S : Nat → Prop} {B : Nat} {f : Fl} {v : Value} (h : FileAt w S B f v) : ∃ A n c x, v = fv A n c x := by
  obtain ⟨⟨u, rfl, hr, _⟩, _⟩ := h
  obtain ⟨A, c, rfl, _⟩ := Sl.of_own hr
  exact ⟨A, _, c, _, rfl⟩
end Go.Proofs.Ythcepihibnmgfaa
