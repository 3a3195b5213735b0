/- A disk, and beside it what none of its calls changes. -/
import Derived.Test.YthcepihibnmgfaaDcrash
namespace Go.Proofs.Ythcepihibnmgfaa
open Go.RowKit Go.Maps
set_option linter.unusedVariables false

theorem Disk.tight {w : World} {S : Nat → Prop} {B d room : Nat} {F : List Fl} (h : Disk w S B d room F) : Disk w (fun k => S k ∧ k < w.heap.size) B d room F := by
  have hlt := h.isDisk.lt
  obtain ⟨⟨m, D, V, h1, h2, h3, h4, h5, h6, h7⟩, a, b, c, e, f, g, i⟩ := h
  exact ⟨⟨m, D, V, h1, h2, h3, fun x hx => by obtain ⟨⟨u, q1, q2, q3⟩, q4, q5⟩ := h4 x hx; exact ⟨⟨u, q1, q2, fun g hg => ⟨q3 g hg, (row_lt q2 g hg).2⟩⟩, q4, q5⟩, h5, ⟨h6, h2.lt⟩, h7⟩, ⟨a, hlt⟩, b, c, e, f, g, i⟩

/-- A disk's block, its room, its files. -/
abbrev Dk := Nat × Nat × List Fl
/-- Disks that share no block, in the blocks S. -/
def Multi (B : Nat) : List Dk → World → (Nat → Prop) → Prop
  | [], _, S => ∀ k, ¬ S k
  | (d, room, F) :: L, w, S => ∃ S1 S2, Disk w S1 B d room F ∧ (∀ k, S1 k → k < w.heap.size) ∧ Multi B L w S2 ∧ (∀ k, S1 k → ¬ S2 k) ∧ ∀ k, S k ↔ S1 k ∨ S2 k
theorem Multi.lt {B : Nat} : ∀ {L : List Dk} {w : World} {S : Nat → Prop}, Multi B L w S → ∀ k, S k → k < w.heap.size
  | [], _, _, h, k, hk => absurd hk (h k)
  | (d, room, F) :: L, w, S, ⟨S1, S2, _, h2, h3, _, h5⟩, k, hk => ((h5 k).1 hk).elim (h2 k) (Multi.lt h3 k)
theorem Multi.kept {B : Nat} : ∀ {L : List Dk} {w w' : World} {S T : Nat → Prop}, Multi B L w S → Chg T w w' → (∀ k, S k → ¬ T k) → Multi B L w' S
  | [], _, _, _, _, h, _, _ => h
  | (d, room, F) :: L, w, w', S, T, ⟨S1, S2, h1, h2, h3, h4, h5⟩, hc, hd =>
    ⟨S1, S2, h1.kept hc (fun k hk => hd k ((h5 k).2 (.inl hk))), fun k hk => Nat.lt_of_lt_of_le (h2 k hk) hc.size, Multi.kept h3 hc (fun k hk => hd k ((h5 k).2 (.inr hk))), h4, h5⟩

/-- These are disks; and P holds, whatever their calls do. -/
def Lives (B : Nat) (L : List Dk) (P : World → Prop) (w : World) : Prop := ∃ S, Multi B L w S ∧ ∀ w', Chg S w w' → P w'

section
variable {B : Nat} {L : List Dk} {P Q : World → Prop} {w w' : World}
theorem Lives.here (h : Lives B L P w) : P w := by
  obtain ⟨S, _, hP⟩ := h
  exact hP w (Chg.refl _ _)
theorem Lives.imp (h : Lives B L P w) (hq : ∀ w, P w → Q w) : Lives B L Q w := by
  obtain ⟨S, h1, hP⟩ := h
  exact ⟨S, h1, fun w' hc => hq w' (hP w' hc)⟩
/-- Nothing that was there has changed; of what is new, Q. -/
theorem Lives.add (h : Lives B L P w) (hx : Ext w w') (hQ : ∀ w'', (∀ k, w.heap.size ≤ k → k < w'.heap.size → w''.heap[k]? = w'.heap[k]?) → w'.heap.size ≤ w''.heap.size → Q w'') : Lives B L (fun w => P w ∧ Q w) w' := by
  obtain ⟨S, h1, hP⟩ := h
  have hlt := h1.lt
  refine ⟨S, h1.kept (Chg.of_ext (S := fun _ => False) hx) (fun _ _ h => h), fun w'' hc => ⟨hP w'' ((Chg.of_ext hx).trans_new hc (fun _ _ h => h)), hQ w'' (fun k hk hl => hc.block k hl (fun hs => by have := hlt k hs; omega)) hc.size⟩⟩
theorem Lives.ext (h : Lives B L P w) (hx : Ext w w') : Lives B L P w' :=
  (h.add (Q := fun _ => True) hx (fun _ _ _ => trivial)).imp fun _ h => h.1
theorem Lives.drop {x : Dk} (h : Lives B (x :: L) P w) : Lives B L P w := by
  obtain ⟨S, ⟨S1, S2, h1, h2, h3, h4, h5⟩, hP⟩ := h
  exact ⟨S2, h3, fun w' hc => hP w' (hc.mono fun k _ hk => (h5 k).2 (.inr hk))⟩
theorem Lives.swap {x y : Dk} (h : Lives B (x :: y :: L) P w) : Lives B (y :: x :: L) P w := by
  obtain ⟨S, ⟨S1, S2, h1, h2, ⟨S3, S4, h6, h7, h8, h9, h10⟩, h4, h5⟩, hP⟩ := h
  refine ⟨S, ⟨S3, fun k => S1 k ∨ S4 k, h6, h7, ⟨S1, S4, h1, h2, h8, fun k hk h => h4 k hk ((h10 k).2 (.inr h)), fun k => Iff.rfl⟩, fun k hk h => h.elim (fun h => h4 k h ((h10 k).2 (.inl hk))) (h9 k hk), fun k => ?_⟩, hP⟩
  rw [h5, h10]
  exact ⟨fun h => h.elim (fun h => .inr (.inl h)) (fun h => h.elim .inl (fun h => .inr (.inr h))), fun h => h.elim (fun h => .inr (.inl h)) (fun h => h.elim .inl (fun h => .inr (.inr h)))⟩
/-- No disk yet. -/
theorem Lives.none (B : Nat) {w : World} (hP : ∀ w', Ext w w' → P w') : Lives B [] P w := ⟨fun _ => False, fun _ h => h, fun w' hc => hP w' hc.nothing⟩
/-- Another disk beside these. -/
theorem Lives.other {d room : Nat} {F : List Fl} (h : Lives B L P w) (hx : Ext w w') (hd : Disk w' (Frm w.heap.size) w.heap.size d room F) (hB : B ≤ w.heap.size) : Lives B ((d, room, F) :: L) P w' := by
  obtain ⟨S, h1, hP⟩ := h
  have hlt := h1.lt
  refine ⟨fun k => (Frm w.heap.size k ∧ k < w'.heap.size) ∨ S k, ⟨_, S, (hd.low hB).tight, fun _ h => h.2, h1.kept (Chg.of_ext (S := fun _ => False) hx) (fun _ _ h => h), fun k hk hs => by have := hlt k hs; have : w.heap.size ≤ k := hk.1; omega, fun k => Iff.rfl⟩, fun w'' hc => hP w'' ?_⟩
  exact (Chg.of_ext (S := S) hx).trans_new hc (fun i hi h => h.elim (fun hf => by have : w.heap.size ≤ i := hf.1; omega) id)
/-- The first one's call. -/
theorem Lives.disk' {d room : Nat} {F : List Fl} (h : Lives B ((d, room, F) :: L) P w) :
    ∃ S, Disk w S B d room F ∧ ∀ F' x e w', Did w S B d room F' x e w' → e = .returned (.int .i64 x) ∧ Lives B ((d, room, F') :: L) P w' := by
  obtain ⟨S, ⟨S1, S2, h1, h2, h3, h4, h5⟩, hP⟩ := h
  refine ⟨S1, h1, fun F' x e w' ⟨he, S', k1, k2, k3⟩ => ⟨he, fun k => (S' k ∧ k < w'.heap.size) ∨ S2 k, ⟨_, S2, k1.tight, fun _ h => h.2, h3.kept k2 (fun k hk h => h4 k h hk), fun k hk hs => ?_, fun k => Iff.rfl⟩, fun w'' hc => hP w'' ?_⟩⟩
  · rcases k3 k hk.1 with h | h
    · exact h4 k h hs
    · have := h3.lt k hs; omega
  · exact (k2.mono (S' := S) fun k _ h => (h5 k).2 (.inl h)).trans_new hc (fun i hi h => h.elim (fun hs => (h5 i).2 (.inl ((k3 i hs.1).resolve_right (by omega)))) (fun hs => (h5 i).2 (.inr hs)))
theorem Lives.disk {d room : Nat} {F : List Fl} (h : Lives B ((d, room, F) :: L) P w) : ∃ S, Disk w S B d room F := by
  obtain ⟨S, ⟨S1, S2, h1, _⟩, _⟩ := h
  exact ⟨S1, h1⟩
theorem Lives.le {d room : Nat} {F : List Fl} (h : Lives B ((d, room, F) :: L) P w) : B ≤ w.heap.size := by
  obtain ⟨S, h1⟩ := h.disk
  exact Nat.le_trans h1.base (Nat.le_of_lt h1.isDisk.lt)
/-- What all of them and all else say of old memory. -/
theorem Lives.below {w0 : World} (h : Lives B L P w) (hP : ∀ w, P w → Below w0.heap.size w0 w) : Below w0.heap.size w0 w := hP w h.here
end

section
variable {B d room : Nat} {F : List Fl} {L : List Dk} {P : World → Prop} {w : World}
/-- A call's number, and the disk then. -/
def Then (B d room : Nat) (F : List Fl) (L : List Dk) (P : World → Prop) (x : Int) (e : Ending) (w' : World) : Prop := e = .returned (.int .i64 x) ∧ Lives B ((d, room, F) :: L) P w'

theorem append_live (h : Lives B ((d, room, F) :: L) P w) {s : ByteArray} (hs : s.size ≤ maxLen) {vb : Value} {bs : List Nat} {lo hi : Nat} (hb : Bs w lo hi vb bs) (hhi : hi ≤ w.heap.size) (hbs : ∀ b ∈ bs, b < 256) {x : Int} (hx : x = appN F room bs.length s.data.toList) {F' : List Fl} (hF : F' = match x == 0 with | true => app F s.data.toList bs | false => F) :
    Calls Try.prog 27 #[.pointer (some ⟨d, 0, none⟩), .string s, vb] w (Then B d room F' L P x) := by
  subst hF
  obtain ⟨S, h1⟩ := h.disk'
  exact (append_any h1.1 hs hb hhi hbs hx).mono fun e w' hd => h1.2 _ _ _ _ hd
theorem sync_live (h : Lives B ((d, room, F) :: L) P w) {s : ByteArray} (hs : s.size ≤ maxLen) {x : Int} (hx : x = seekN F s.data.toList) {F' : List Fl} (hF : F' = match x == 0 with | true => syn F s.data.toList | false => F) :
    Calls Try.prog 25 #[.pointer (some ⟨d, 0, none⟩), .string s] w (Then B d room F' L P x) := by
  subst hF
  obtain ⟨S, h1⟩ := h.disk'
  exact (sync_any h1.1 hs hx).mono fun e w' hd => h1.2 _ _ _ _ hd
theorem remove_live (h : Lives B ((d, room, F) :: L) P w) {s : ByteArray} (hs : s.size ≤ maxLen) {x : Int} (hx : x = seekN F s.data.toList) {F' : List Fl} (hF : F' = match x == 0 with | true => del F s.data.toList | false => F) :
    Calls Try.prog 24 #[.pointer (some ⟨d, 0, none⟩), .string s] w (Then B d room F' L P x) := by
  subst hF
  obtain ⟨S, h1⟩ := h.disk'
  exact (remove_any h1.1 hs hx).mono fun e w' hd => h1.2 _ _ _ _ hd
theorem rename_live (h : Lives B ((d, room, F) :: L) P w) {s t : ByteArray} (hs : s.size ≤ maxLen) (ht : t.size ≤ maxLen) {x : Int} (hx : x = seek2 F s.data.toList t.data.toList) {F' : List Fl} (hF : F' = match x == 0 with | true => ren F s.data.toList t.data.toList | false => F) :
    Calls Try.prog 30 #[.pointer (some ⟨d, 0, none⟩), .string s, .string t] w (Then B d room F' L P x) := by
  subst hF
  obtain ⟨S, h1⟩ := h.disk'
  exact (rename_any h1.1 hs ht hx).mono fun e w' hd => h1.2 _ _ _ _ hd
theorem lasting_live (h : Lives B ((d, room, F) :: L) P w) {s : ByteArray} (hs : s.size ≤ maxLen) {x : Int} (hx : x = seekN F s.data.toList) {n : Int} (hn : n = match x == 0 with | true => ((cur F s.data.toList).lasts : Int) | false => 0) :
    Calls Try.prog 31 #[.pointer (some ⟨d, 0, none⟩), .string s] w fun e w' => e = .returned (.tuple #[.int .i64 n, .int .i64 x]) ∧ Lives B ((d, room, F) :: L) P w' := by
  have hL := h
  obtain ⟨S, h1⟩ := h.disk
  subst hn
  exact (lasting_any h1 hs hx).mono fun e w' ⟨he, hb⟩ => ⟨he, hL.ext hb⟩
theorem used_live (h : Lives B ((d, room, F) :: L) P w) : Calls Try.prog 32 #[.pointer (some ⟨d, 0, none⟩)] w fun e w' => e = .returned (.int .i64 (tot F : Int)) ∧ Lives B ((d, room, F) :: L) P w' := by
  have hL := h
  obtain ⟨S, h1⟩ := h.disk
  exact (Used_any h1).mono fun e w' ⟨he, hb⟩ => ⟨he, hL.ext hb⟩
theorem room_live (h : Lives B ((d, room, F) :: L) P w) : Calls Try.prog 39 #[.pointer (some ⟨d, 0, none⟩)] w fun e w' => e = .returned (.int .i64 (room : Int)) ∧ w = w' := by
  obtain ⟨S, h1⟩ := h.disk
  exact room_any h1

/-- A slice of bytes that reads as bs. -/
def IsBytes (v : Value) (bs : List Nat) (w : World) : Prop := Bs w 0 w.heap.size v bs
/-- A slice of texts. -/
def IsTexts (v : Value) (xs : List (List UInt8)) (w : World) : Prop := ∃ A c, v = .slice A xs.length c ∧ Sl w 0 w.heap.size A (xs.map encStr)
theorem IsBytes.of_row {w1 w' w'' : World} {v : Value} {bs : List Nat} (h : w'.ownsRow w1.heap.size 5 1 v bs.length (bv bs)) (hk : ∀ k, w1.heap.size ≤ k → k < w'.heap.size → w''.heap[k]? = w'.heap[k]?) : IsBytes v bs w'' :=
  (Bs.of_own (row_kept h fun g hg => hk g (row_lt h g hg).1 (row_lt h g hg).2)).wide (Nat.zero_le _) (Nat.le_refl _)
theorem IsTexts.of_row {w1 w' w'' : World} {v : Value} {xs : List (List UInt8)} {n : Nat} (h : w'.ownsRow w1.heap.size 9 1 v n (xs.map encStr)) (hn : n = xs.length) (hk : ∀ k, w1.heap.size ≤ k → k < w'.heap.size → w''.heap[k]? = w'.heap[k]?) : IsTexts v xs w'' := by
  obtain ⟨A, c, rfl, _, _, _, hs⟩ := Sl.of_own (row_kept h fun g hg => hk g (row_lt h g hg).1 (row_lt h g hg).2)
  exact ⟨A, c, by rw [hn], hs.wide (Nat.zero_le _) (Nat.le_refl _)⟩

theorem read_live (h : Lives B ((d, room, F) :: L) P w) {s : ByteArray} (hs : s.size ≤ maxLen) {x : Int} (hx : x = seekN F s.data.toList) {bs : List Nat} (hbs : bs = match x == 0 with | true => (cur F s.data.toList).data | false => []) :
    Calls Try.prog 21 #[.pointer (some ⟨d, 0, none⟩), .string s] w fun e w' => ∃ v, e = .returned (.tuple #[v, .int .i64 x]) ∧ Lives B ((d, room, F) :: L) (fun w => P w ∧ IsBytes v bs w) w' := by
  have hL := h
  obtain ⟨S, h1⟩ := h.disk
  subst hbs
  exact (read_any h1 hs hx).mono fun e w' ⟨v, he, hr, hb⟩ => ⟨v, he, hL.add hb fun w'' hk _ => IsBytes.of_row hr hk⟩
theorem names_live (h : Lives B ((d, room, F) :: L) P w) : Calls Try.prog 37 #[.pointer (some ⟨d, 0, none⟩)] w fun e w' => ∃ v, e = .returned v ∧ Lives B ((d, room, F) :: L) (fun w => P w ∧ IsTexts v (snames F) w) w' := by
  have hL := h
  obtain ⟨S, h1⟩ := h.disk
  exact (names_any h1).mono fun e w' ⟨v, he, hr, hb⟩ => ⟨v, he, hL.add hb fun w'' hk _ => IsTexts.of_row hr (snames_length F).symm hk⟩
theorem copy_live (h : Lives B ((d, room, F) :: L) P w) : Calls Try.prog 35 #[.pointer (some ⟨d, 0, none⟩)] w fun e w' => ∃ d', e = .returned (.pointer (some ⟨d', 0, none⟩)) ∧ Lives B ((d', room, F) :: (d, room, F) :: L) P w' := by
  have hL := h
  obtain ⟨S, h1⟩ := h.disk
  exact (copy_any h1).mono fun e w' ⟨d', he, hd, hb⟩ => ⟨d', he, hL.other hb hd hL.le⟩
/-- What a crash answers. -/
def CrashThen (B d room : Nat) (F : List Fl) (L : List Dk) (P : World → Prop) (ks : List (ByteArray × Int)) (x : Int) (e : Ending) (w' : World) : Prop :=
  (x ≠ 0 ∧ e = .returned (.tuple #[.pointer none, .int .i64 x]) ∧ Lives B ((d, room, F) :: L) P w') ∨ (x = 0 ∧ ∃ d', e = .returned (.tuple #[.pointer (some ⟨d', 0, none⟩), .int .i64 0]) ∧ Lives B ((d', room, F.map (crashed ks)) :: (d, room, F) :: L) P w')
theorem crash_live (h : Lives B ((d, room, F) :: L) P w) {A : Option Addr} {c n : Nat} {ks : List (ByteArray × Int)} (hk : Kepts w A ks) (hn : n = ks.length) {x : Int} (hx : x = crashN F ks) :
    Calls Try.prog 20 #[.pointer (some ⟨d, 0, none⟩), .slice A n c] w (CrashThen B d room F L P ks x) := by
  have hL := h
  obtain ⟨S, h1⟩ := h.disk
  subst hn
  refine (crash_any h1 hk).mono fun e w' hc => ?_
  rcases hc with ⟨h3, h4, h5⟩ | ⟨h3, d', h4, h5, h6⟩
  · exact .inl ⟨by rw [hx]; exact h3, by rw [hx]; exact h4, hL.ext h5⟩
  · exact .inr ⟨by rw [hx]; exact h3, d', h4, hL.other h6 h5 hL.le⟩
end
end Go.Proofs.Ythcepihibnmgfaa
