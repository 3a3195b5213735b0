/- Dkeep, joined. -/
import Derived.Test.YtenhfphgobalfaaMa12

/- What is kept of a file, step by step. Plain mathematics; and a file read into bytes of one's own. -/
namespace Go.Proofs.Ytenhfphgobalfaa
open Go.RowKit Go.Maps
set_option linter.unusedVariables false

theorem cur_upd_ne (F : List Fl) {f : Fl} {n : List UInt8} (h : n ≠ f.name) : cur (upd F f) n = cur F n := by
  have h1 : cur (upd F f) n = cur (del F f.name) n := by
    unfold cur upd
    rw [List.find?_cons_of_neg (by simpa using fun e => h e.symm)]
  rw [h1, cur_del_ne F h]
theorem there_upd_ne (F : List Fl) {f : Fl} {n : List UInt8} (h : n ≠ f.name) : there (upd F f) n = there F n := by
  have h1 : there (upd F f) n = there (del F f.name) n := by
    unfold there upd
    rw [List.any_cons]
    have : (f.name == n) = false := by simpa using fun e => h e.symm
    rw [this, Bool.false_or]
  rw [h1, there_del_ne F h]
theorem there_map (F : List Fl) (g : Fl → Fl) (hg : ∀ f, (g f).name = f.name) (n : List UInt8) : there (F.map g) n = there F n := by
  unfold there
  rw [List.any_map]
  congr 1
  funext f
  simp [hg]
theorem cur_map (F : List Fl) (g : Fl → Fl) (hg : ∀ f, (g f).name = f.name) {n : List UInt8} (h : there F n = true) : cur (F.map g) n = g (cur F n) := by
  unfold there at h
  unfold cur
  rw [List.find?_map]
  have e : ((fun f : Fl => f.name == n) ∘ g) = fun f => f.name == n := by funext f; simp [hg]
  rw [e]
  cases hf : F.find? (fun f => f.name == n) with
  | none =>
    rw [List.find?_eq_none] at hf
    obtain ⟨f, h1, h2⟩ := List.any_eq_true.1 h
    exact absurd h2 (hf f h1)
  | some f => rfl
/-- So much of the file n is kept: D stands at its beginning, and lasts. -/
structure Kp (F : List Fl) (n : List UInt8) (D : List Nat) : Prop where
  th : there F n = true
  lo : D.length ≤ (cur F n).lasts
  ll : (cur F n).lasts ≤ (cur F n).data.length
  eq : (cur F n).data.take D.length = D
theorem Kp.le {F : List Fl} {n : List UInt8} {D : List Nat} (h : Kp F n D) : D.length ≤ (cur F n).data.length := Nat.le_trans h.lo h.ll
theorem Kp.of_cur {F F' : List Fl} {n : List UInt8} {D : List Nat} (h : Kp F n D) (e1 : there F' n = there F n) (e2 : cur F' n = cur F n) : Kp F' n D := ⟨by rw [e1]; exact h.th, by rw [e2]; exact h.lo, by rw [e2]; exact h.ll, by rw [e2]; exact h.eq⟩
/-- What was had of it, with what a step appends. -/
def hadB (x : Stp) (n : List UInt8) (H : List Nat) : List Nat := if x.kind = 1 ∧ x.a.data.toList = n then H ++ nat8 x.dat else H
theorem iff0_or (x : Int) (F' F : List Fl) : iff0 x F' F = F' ∨ iff0 x F' F = F := by
  unfold iff0
  cases x == 0
  · exact .inr rfl
  · exact .inl rfl
theorem take_self_len (l : List Nat) : l.take l.length = l := List.take_length
theorem take_pre {l m : List Nat} : (l ++ m).take l.length = l := List.take_left
/-- A step that doesn't touch it keeps it. -/
theorem keep_step {F : List Fl} {n : List UInt8} {D : List Nat} (h : Kp F n D) (room : Nat) (x : Stp) (h2 : x.kind = 2 → x.a.data.toList ≠ n) (h34 : 2 < x.kind ∧ x.kind < 5 → x.a.data.toList ≠ n ∧ x.b.data.toList ≠ n) :
    Kp (stepF room x F) n D ∧ (cur (stepF room x F) n).data.length ≤ (hadB x n (cur F n).data).length ∧ (hadB x n (cur F n).data).take (cur (stepF room x F) n).data.length = (cur (stepF room x F) n).data := by
  have hsame : ∀ F', there F' n = there F n → cur F' n = cur F n → Kp F' n D ∧ (cur F' n).data.length ≤ (hadB x n (cur F n).data).length ∧ (hadB x n (cur F n).data).take (cur F' n).data.length = (cur F' n).data := fun F' e1 e2 => by
    refine ⟨h.of_cur e1 e2, ?_, ?_⟩
    · rw [e2]; unfold hadB; split
      · rw [List.length_append]; omega
      · exact Nat.le_refl _
    · rw [e2]; unfold hadB; split
      · exact take_pre
      · exact take_self_len _
  unfold stepF
  by_cases k1 : x.kind = 1
  · rw [if_pos k1]
    rcases iff0_or (appN F room x.dat.length x.a.data.toList) (app F x.a.data.toList (nat8 x.dat)) F with e | e <;> rw [e]
    · by_cases ha : x.a.data.toList = n
      · have ec : cur (app F x.a.data.toList (nat8 x.dat)) n = ⟨n, (cur F n).data ++ nat8 x.dat, (cur F n).lasts⟩ := by
          rw [ha]; exact cur_upd F ⟨n, (cur F n).data ++ nat8 x.dat, (cur F n).lasts⟩
        have et : there (app F x.a.data.toList (nat8 x.dat)) n = true := by
          rw [ha]; exact there_upd F ⟨n, (cur F n).data ++ nat8 x.dat, (cur F n).lasts⟩
        have eh : hadB x n (cur F n).data = (cur F n).data ++ nat8 x.dat := if_pos ⟨k1, ha⟩
        rw [eh, ec]
        refine ⟨⟨et, by rw [ec]; exact h.lo, by rw [ec]; have := h.ll; simp; omega, ?_⟩, Nat.le_refl _, take_self_len _⟩
        rw [ec]
        show ((cur F n).data ++ nat8 x.dat).take D.length = D
        rw [List.take_append_of_le_length h.le]
        exact h.eq
      · exact hsame _ (there_upd_ne F fun e => ha e.symm) (cur_upd_ne F fun e => ha e.symm)
    · exact hsame F rfl rfl
  rw [if_neg k1]
  by_cases k2 : x.kind = 2
  · rw [if_pos k2]
    have ha := h2 k2
    rcases iff0_or (seekN F x.a.data.toList) (syn F x.a.data.toList) F with e | e <;> rw [e]
    · exact hsame _ (there_upd_ne F fun e => ha e.symm) (cur_upd_ne F fun e => ha e.symm)
    · exact hsame F rfl rfl
  rw [if_neg k2]
  by_cases k3 : x.kind = 3
  · rw [if_pos k3]
    have hab := h34 (by omega)
    rcases iff0_or (seek2 F x.a.data.toList x.b.data.toList) (ren F x.a.data.toList x.b.data.toList) F with e | e <;> rw [e]
    · refine hsame _ ?_ ?_
      · exact (there_upd_ne (del F x.a.data.toList) fun e => hab.2 e.symm).trans (there_del_ne F fun e => hab.1 e.symm)
      · exact (cur_upd_ne (del F x.a.data.toList) fun e => hab.2 e.symm).trans (cur_del_ne F fun e => hab.1 e.symm)
    · exact hsame F rfl rfl
  rw [if_neg k3]
  by_cases k4 : x.kind = 4
  · rw [if_pos k4]
    have hab := h34 (by omega)
    rcases iff0_or (seekN F x.a.data.toList) (del F x.a.data.toList) F with e | e <;> rw [e]
    · exact hsame _ (there_del_ne F fun e => hab.1 e.symm) (cur_del_ne F fun e => hab.1 e.symm)
    · exact hsame F rfl rfl
  rw [if_neg k4]
  by_cases k5 : x.kind = 5
  · rw [if_pos k5]
    rcases iff0_or (crashN F x.keep) (F.map (crashed x.keep)) F with e | e <;> rw [e]
    · have ec : cur (F.map (crashed x.keep)) n = crashed x.keep (cur F n) := cur_map F (crashed x.keep) (fun _ => rfl) h.th
      have et : there (F.map (crashed x.keep)) n = true := by rw [there_map F (crashed x.keep) (fun _ => rfl)]; exact h.th
      have hll := leftN_le (ks := x.keep) h.ll
      have hge : (cur F n).lasts ≤ leftN x.keep (cur F n) := by unfold leftN; omega
      have eh : hadB x n (cur F n).data = (cur F n).data := if_neg fun q => k1 q.1
      have el := crashed_len (ks := x.keep) h.ll
      refine ⟨⟨et, by rw [ec]; exact Nat.le_trans h.lo hge, by rw [ec, el]; exact Nat.le_refl _, ?_⟩, ?_, ?_⟩
      · rw [ec]
        show ((cur F n).data.take (leftN x.keep (cur F n))).take D.length = D
        rw [List.take_take, Nat.min_eq_left (Nat.le_trans h.lo hge)]
        exact h.eq
      · rw [ec, eh, el]; exact hll
      · rw [ec, eh, el]; rfl
    · exact hsame F rfl rfl
  rw [if_neg k5]
  exact hsame F rfl rfl
section
variable {B d room : Nat} {F : List Fl} {L : List Dk} {P : World → Prop} {w : World}
theorem read_own (h : Lives B ((d, room, F) :: L) P w) {s : ByteArray} (hs : s.size ≤ maxLen) {x : Int} (hx : x = seekN F s.data.toList) {bs : List Nat} (hbs : bs = match x == 0 with | true => (cur F s.data.toList).data | false => []) :
    Calls Try.prog 19 #[.pointer (some ⟨d, 0, none⟩), .string s] w fun e w' => ∃ A c, e = .returned (.tuple #[.slice A bs.length c, .int .i64 x]) ∧ Own w.heap.size bs (.slice A bs.length c) w' ∧ Ext w w' := by
  obtain ⟨S, h1⟩ := h.disk
  subst hbs
  refine (read_any h1 hs hx).mono ?_
  rintro e w' ⟨v, rfl, hr, hb⟩
  have ho : Own w.heap.size _ v w' := hr
  obtain ⟨A, c, rfl⟩ := ho.slice
  exact ⟨A, c, rfl, ho, hb⟩
theorem live_ll (h : Lives B ((d, room, F) :: L) P w) {n : List UInt8} (ht : there F n = true) : (cur F n).lasts ≤ (cur F n).data.length := by
  obtain ⟨S, ⟨m, D, V, h1, h2, h3, h4, _⟩, _⟩ := h.disk
  exact (h4 _ (there_cur ht)).lasts
theorem isBytes_take {A : Option Addr} {n c : Nat} {l : List Nat} {w : World} (h : IsBytes (.slice A n c) l w) {j : Nat} (hj : j ≤ l.length) : IsBytes (.slice A j c) (l.take j) w := by
  obtain ⟨A', c', e, h1, h2, h3, h4⟩ := h
  injection e with e1 e2 e3
  subst e1 e3
  have hl : (l.take j).length = j := by rw [List.length_take]; omega
  refine ⟨A, c, by rw [hl], by rw [hl]; omega, h2, h3, ?_⟩
  rcases h4 with h4 | ⟨b, o, he, hlo, hlt, h5⟩
  · have : l = [] := by simpa [bv] using h4
    subst this
    exact .inl (by simp [bv])
  · refine .inr ⟨b, o, he, hlo, hlt, fun i q hq => h5 i q ?_⟩
    unfold bv at hq ⊢
    rw [List.map_take, List.getElem?_take] at hq
    split at hq
    · exact hq
    · cases hq
end
end Go.Proofs.Ytenhfphgobalfaa
