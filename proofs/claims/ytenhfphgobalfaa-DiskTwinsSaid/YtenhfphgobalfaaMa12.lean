/- Dren, joined. -/
import Derived.Test.YtenhfphgobalfaaMa11

/- What a file's new name makes of the others; files of the reference's, looked at, which stay. Plain mathematics. -/
namespace Go.Proofs.Ytenhfphgobalfaa
open Go.RowKit Go.Maps
set_option linter.unusedVariables false

theorem cur_upd (F : List Fl) (f : Fl) : cur (upd F f) f.name = f := by
  unfold cur upd
  simp
theorem there_upd (F : List Fl) (f : Fl) : there (upd F f) f.name = true := by unfold there upd; simp
theorem cur_ren (F : List Fl) (a b : List UInt8) : cur (ren F a b) b = ⟨b, (cur F a).data, (cur F a).lasts⟩ := cur_upd (del F a) ⟨b, (cur F a).data, (cur F a).lasts⟩
theorem there_ren (F : List Fl) (a b : List UInt8) : there (ren F a b) b = true := there_upd (del F a) ⟨b, (cur F a).data, (cur F a).lasts⟩
theorem there_del (F : List Fl) (n : List UInt8) : there (del F n) n = false := by
  unfold there del
  rw [List.any_eq_false]
  intro f hf
  have := (List.mem_filter.1 hf).2
  simpa using this
theorem there_del_ne (F : List Fl) {n k : List UInt8} (h : k ≠ n) : there (del F n) k = there F k := by
  rw [Bool.eq_iff_iff]
  unfold there del
  simp only [List.any_eq_true, List.mem_filter, beq_iff_eq, bne_iff_ne]
  constructor
  · rintro ⟨f, ⟨h1, _⟩, h2⟩; exact ⟨f, h1, h2⟩
  · rintro ⟨f, h1, rfl⟩; exact ⟨f, ⟨h1, h⟩, rfl⟩
theorem cur_del_ne (F : List Fl) {n k : List UInt8} (h : k ≠ n) : cur (del F n) k = cur F k := by
  unfold cur del
  congr 1
  induction F with
  | nil => rfl
  | cons f F ih =>
    by_cases hf : f.name = n
    · have h1 : (f.name != n) = false := by simp [hf]
      have h2 : (f.name == k) = false := by simp only [beq_eq_false_iff_ne]; rw [hf]; exact fun e => h e.symm
      rw [List.filter_cons_of_neg (by simp [hf]), List.find?_cons_of_neg (by simp [h2]), ih]
    · rw [List.filter_cons_of_pos (by simpa using hf)]
      by_cases h2 : f.name = k
      · rw [List.find?_cons_of_pos (by simp [h2]), List.find?_cons_of_pos (by simp [h2])]
      · rw [List.find?_cons_of_neg (by simp [h2]), List.find?_cons_of_neg (by simp [h2]), ih]
theorem there_ren_gone (F : List Fl) {a b : List UInt8} (h : a ≠ b) : there (ren F a b) a = false := by
  unfold ren upd there
  rw [List.any_cons, Bool.or_eq_false_iff]
  refine ⟨by simpa using fun e => h e.symm, ?_⟩
  show there (del (del F a) b) a = false
  rw [there_del_ne _ h]
  exact there_del F a
theorem tot_delx {F : List Fl} (h : (F.map Fl.name).Nodup) (n : List UInt8) : tot (del F n) + (cur F n).data.length = tot F := by
  cases ht : there F n with
  | false =>
    rw [del_none (there_no ht), cur_none ht]
    simp
  | true =>
    have hm := there_cur ht
    have hp := del_perm h hm
    rw [cur_name] at hp
    rw [tot_perm hp]
    unfold tot
    simp
    omega
theorem tot_ren {F : List Fl} (h : (F.map Fl.name).Nodup) {a b : List UInt8} (hab : a ≠ b) : tot (ren F a b) + (cur F b).data.length = tot F := by
  have h1 := tot_upd (del_nodup (n := a) h) ⟨b, (cur F a).data, (cur F a).lasts⟩
  have h2 := tot_delx h a
  have h3 : cur (del F a) b = cur F b := cur_del_ne F fun e => hab e.symm
  have e : ren F a b = upd (del F a) ⟨b, (cur F a).data, (cur F a).lasts⟩ := rfl
  rw [e]
  simp only [h3] at h1
  omega
theorem tot_ren_self {F : List Fl} (h : (F.map Fl.name).Nodup) (a : List UInt8) : tot (ren F a a) = tot F := by
  have h1 := tot_upd (del_nodup (n := a) h) ⟨a, (cur F a).data, (cur F a).lasts⟩
  have h2 := tot_delx h a
  have h3 : cur (del F a) a = ⟨a, [], 0⟩ := cur_none (there_del F a)
  have e : ren F a a = upd (del F a) ⟨a, (cur F a).data, (cur F a).lasts⟩ := rfl
  rw [e]
  simp only [h3, List.length_nil] at h1
  omega
theorem del_del (F : List Fl) (n k : List UInt8) : del (del F n) k = del (del F k) n := by
  unfold del
  rw [List.filter_filter, List.filter_filter]
  congr 1
  funext f
  exact Bool.and_comm _ _
theorem del_twice (F : List Fl) (n : List UInt8) : del (del F n) n = del F n := by
  unfold del
  rw [List.filter_filter]
  congr 1
  funext f
  exact Bool.and_self _
/-- Named anew, and back. -/
theorem ren_back {F : List Fl} (h : (F.map Fl.name).Nodup) {a b : List UInt8} (hab : a ≠ b) (ha : there F a = true) : (ren (ren F a b) b a).Perm (del F b) := by
  have e0 : (⟨a, (cur F a).data, (cur F a).lasts⟩ : Fl) = cur F a := by
    have := cur_name F a
    cases hc : cur F a
    rw [hc] at this
    simp_all
  have e1 : ren (ren F a b) b a = cur F a :: del (del (ren F a b) b) a := by
    unfold ren
    rw [show cur (upd (del F a) ⟨b, (cur F a).data, (cur F a).lasts⟩) b = ⟨b, (cur F a).data, (cur F a).lasts⟩ from cur_ren F a b]
    show (⟨a, (cur F a).data, (cur F a).lasts⟩ : Fl) :: _ = _
    rw [e0, cur_name]
  have e2 : del (ren F a b) b = del (del F a) b := by
    unfold ren upd
    have h1 : del (⟨b, (cur F a).data, (cur F a).lasts⟩ :: del (del F a) b) b = del (del (del F a) b) b := List.filter_cons_of_neg (by simp)
    rw [h1, del_twice]
  rw [e1, e2, del_del F a b, del_twice]
  have hm : cur F a ∈ del F b := mem_del.2 ⟨there_cur ha, by rw [cur_name]; exact hab⟩
  have hp := del_perm (del_nodup (n := b) h) hm
  rw [cur_name] at hp
  exact hp.symm
theorem seek_there {F : List Fl} {n : List UInt8} (h : good n = true) (ht : there F n = true) : (0 : Int) = seekN F n := by unfold seekN; rw [h, ht]; rfl
theorem seek_gone {F : List Fl} {n : List UInt8} (h : good n = true) (ht : there F n = false) : (6 : Int) = seekN F n := by unfold seekN; rw [h, ht]; rfl
section
variable {w0 w w' : World} {d r room : Nat} {F : List Fl} {G : List RFl} {L : List Dk} {P Q : World → Prop}
theorem Wnt.fresh {w w' w'' : World} {v : Value} {R : List RFl} (h : w'.ownsRow w.heap.size 45 3 v R.length (R.flatMap rcells)) (hs : ∀ f ∈ R, f.sure.length + f.loose.length ≤ 1048576) (hk : ∀ k, w.heap.size ≤ k → k < w'.heap.size → w''.heap[k]? = w'.heap[k]?) : Wnt w'' v R := by
  refine Wnt.of_row (rowF_kept h fun g hg => hk g ?_ (row_notF h hg).1) hs
  rcases h.2 with ⟨rfl, _⟩ | ⟨g', cap, cur, hv, hb, hh, _⟩
  · cases hg
  · rw [hv] at hg
    injection hg with hg
    have hg : g' = g := hg
    omega
/-- The reference's files, looked at: they stay. -/
theorem files_keep (h : Bo w0 d r room F G L P w) : Calls Try.prog 16 #[.pointer (some ⟨r, 0, none⟩)] w fun e w' => ∃ A c R, e = .returned (.slice A R.length c) ∧ Bo w0 d r room F G L (fun u => P u ∧ Wnt u (.slice A R.length c) R) w' ∧ Tie F R ∧ SdF R ∧ R.Perm G ∧ Ext w w' := by
  refine (filesRef_any h.rd).mono ?_
  rintro e w' ⟨v, R, h1, h2, rfl, h3, h4⟩
  have hs : ∀ f ∈ R, f.sure.length + f.loose.length ≤ 1048576 := fun f hf => (h.rd.sz f (h1.mem_iff.1 hf)).2
  obtain ⟨A, c, rfl⟩ := rowN_any h3
  exact ⟨A, c, R, rfl, h.add h4 fun w'' hk _ => Wnt.fresh h3 hs hk, h.tie.turn h1.symm, h2, h1, h4⟩
theorem lives_has {B : Nat} (h : Lives B ((d, room, F) :: L) P w) {R : List RFl} {v : Value} (hw : Wnt w v R) (ht : Tie F R) (hs : SdF R) {x : Int} (hx : x = (room : Int)) :
    Calls Try.prog 14 #[.pointer (some ⟨d, 0, none⟩), .int .i64 x, v] w fun e w' => e = .returned (.bool true) ∧ Ext w w' := by
  subst hx
  obtain ⟨S, hd⟩ := h.disk
  exact has_any hd ht (snames_eq ht hs) hw
end
end Go.Proofs.Ytenhfphgobalfaa
