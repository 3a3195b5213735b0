/- Plain mathematics of entries: which may be, their order, their bytes (no function of the program). -/
import Derived.Test.YtcofnbeemfhcpaaWyes
namespace Go.Proofs.Ytcofnbeemfhcpaa

/-- An entry. -/
structure Ent where
  key : List Nat
  seq : Int
  kind : Int
  val : List Nat
/-- May it be, by how long its parts are? -/
def mayN (kn : Nat) (s d : Int) (vn : Nat) : Bool := decide (1 ≤ kn) && decide (kn ≤ 32) && decide (1 ≤ s) && decide (s ≤ 2147483647) && (decide (d = 1) && decide (vn ≤ 65536) || decide (d = 2) && decide (vn = 0))
def Ent.may (e : Ent) : Bool := mayN e.key.length e.seq e.kind e.val.length
theorem mayN_iff {kn : Nat} {s d : Int} {vn : Nat} : mayN kn s d vn = true ↔ 1 ≤ kn ∧ kn ≤ 32 ∧ 1 ≤ s ∧ s ≤ 2147483647 ∧ (d = 1 ∧ vn ≤ 65536 ∨ d = 2 ∧ vn = 0) := by
  unfold mayN
  simp only [Bool.and_eq_true, Bool.or_eq_true, decide_eq_true_eq, and_assoc]
/-- An entry's bytes. -/
def Ent.form (e : Ent) : List Nat := bytesForm e.key ++ (Go.Proofs.Ytcofnbeemfhcpaa.form e.seq.toNat ++ (Go.Proofs.Ytcofnbeemfhcpaa.form e.kind.toNat ++ (if e.kind = 1 then bytesForm e.val else [])))

theorem bytesForm_cut {a b r r' : List Nat} (ha : U64 a.length) (hb : U64 b.length) (h : bytesForm a ++ r = bytesForm b ++ r') : a = b ∧ r = r' := by
  unfold bytesForm at h
  rw [List.append_assoc, List.append_assoc] at h
  obtain ⟨e1, e2⟩ := Begins.unique (l := form a.length ++ (a ++ r)) ⟨ha, rfl⟩ ⟨hb, h⟩
  exact List.append_inj e2 e1
theorem form_cut {a b : Nat} {r r' : List Nat} (ha : U64 a) (hb : U64 b) (h : form a ++ r = form b ++ r') : a = b ∧ r = r' :=
  Begins.unique (l := form a ++ r) ⟨ha, rfl⟩ ⟨hb, h⟩

/-- The entry of which these are the bytes. -/
def IsE (b : List Nat) (e : Ent) : Prop := e.may = true ∧ e.form = b
theorem Ent.may_u64 {e : Ent} (h : e.may = true) : U64 e.key.length ∧ U64 e.seq.toNat ∧ U64 e.kind.toNat ∧ U64 e.val.length := by
  obtain ⟨h1, h2, h3, h4, h5⟩ := mayN_iff.1 h
  refine ⟨⟨by omega⟩, ⟨by omega⟩, ⟨?_⟩, ⟨?_⟩⟩ <;> rcases h5 with ⟨h5, h6⟩ | ⟨h5, h6⟩ <;> omega
theorem IsE.unique {b : List Nat} {e e' : Ent} (h : IsE b e) (h' : IsE b e') : e = e' := by
  obtain ⟨u1, u2, u3, u4⟩ := Ent.may_u64 h.1
  obtain ⟨v1, v2, v3, v4⟩ := Ent.may_u64 h'.1
  have hh := h.2.trans h'.2.symm
  unfold Ent.form at hh
  obtain ⟨e1, hh⟩ := bytesForm_cut u1 v1 hh
  obtain ⟨e2, hh⟩ := form_cut u2 v2 hh
  obtain ⟨e3, hh⟩ := form_cut u3 v3 hh
  obtain ⟨a1, a2, a3, a4, a5⟩ := mayN_iff.1 h.1
  obtain ⟨b1, b2, b3, b4, b5⟩ := mayN_iff.1 h'.1
  have k0 : e.kind = e'.kind := by rcases a5 with ⟨a, _⟩ | ⟨a, _⟩ <;> rcases b5 with ⟨b, _⟩ | ⟨b, _⟩ <;> omega
  have s0 : e.seq = e'.seq := by omega
  have w0 : e.val = e'.val := by
    rcases a5 with ⟨a, _⟩ | ⟨a, an⟩
    · rw [if_pos a, if_pos (k0.symm.trans a)] at hh
      exact (bytesForm_cut (r := []) (r' := []) u4 v4 (by simpa using hh)).1
    · rcases b5 with ⟨b, _⟩ | ⟨b, bn⟩
      · omega
      · rw [List.eq_nil_of_length_eq_zero an, List.eq_nil_of_length_eq_zero bn]
  cases e; cases e'; simp_all
theorem bytesForm_len {l : List Nat} (h : U64 l.length) : (bytesForm l).length ≤ l.length + 10 ∧ l.length < (bytesForm l).length := by
  have h1 := form_len64 h
  have h2 : (form l.length) ≠ [] := by
    by_cases h0 : l.length < 128
    · rw [form_lo h0]; simp
    · rw [form_hi h0]; simp
  have h3 : 0 < (form l.length).length := List.length_pos_iff.2 h2
  unfold bytesForm
  rw [List.length_append]
  omega
theorem Ent.form_len {e : Ent} (h : e.may = true) : e.form.length ≤ 65700 := by
  obtain ⟨u1, u2, u3, u4⟩ := Ent.may_u64 h
  obtain ⟨h1, h2, h3, h4, h5⟩ := mayN_iff.1 h
  have a1 := (bytesForm_len u1).1
  have a2 := form_len64 u2
  have a3 := form_len64 u3
  have a4 := (bytesForm_len u4).1
  unfold Ent.form
  split <;> simp only [List.length_append, List.length_nil] <;> rcases h5 with ⟨h5, h6⟩ | ⟨h5, h6⟩ <;> omega
theorem Ent.form_lt {e : Ent} (hk : ∀ x ∈ e.key, x < 256) (hv : ∀ x ∈ e.val, x < 256) : ∀ x ∈ e.form, x < 256 := by
  intro x hx
  unfold Ent.form bytesForm at hx
  simp only [List.mem_append] at hx
  rcases hx with (hx | hx) | hx | hx | hx
  · exact form_bytes _ x hx
  · exact hk x hx
  · exact form_bytes _ x hx
  · exact form_bytes _ x hx
  · split at hx
    · rcases List.mem_append.1 hx with hx | hx
      · exact form_bytes _ x hx
      · exact hv x hx
    · cases hx

/-- Two keys, by their bytes. -/
def cmpK : List Nat → List Nat → Int
  | [], [] => 0
  | [], _ :: _ => -1
  | _ :: _, [] => 1
  | a :: l, b :: bs => if a < b then -1 else if b < a then 1 else cmpK l bs
theorem cmpK_self (a : List Nat) : cmpK a a = 0 := by
  induction a with
  | nil => rfl
  | cons a l ih => simp [cmpK, ih]
theorem cmpK_zero {a b : List Nat} (h : cmpK a b = 0) : a = b := by
  induction a generalizing b with
  | nil => cases b with
    | nil => rfl
    | cons b bs => simp [cmpK] at h
  | cons a l ih =>
    cases b with
    | nil => simp [cmpK] at h
    | cons b bs =>
      simp only [cmpK] at h
      split at h
      · omega
      · split at h
        · omega
        · rw [ih h, show a = b by omega]
theorem cmpK_turn (a b : List Nat) : cmpK b a = -cmpK a b := by
  induction a generalizing b with
  | nil => cases b <;> simp [cmpK]
  | cons a l ih =>
    cases b with
    | nil => simp [cmpK]
    | cons b bs =>
      simp only [cmpK]
      rcases Nat.lt_trichotomy a b with h | h | h
      · rw [if_neg (by omega), if_pos h, if_pos h]; rfl
      · rw [if_neg (by omega), if_neg (by omega), if_neg (by omega), if_neg (by omega)]; exact ih bs
      · rw [if_pos h, if_neg (by omega), if_pos h]
theorem cmpK_range (a b : List Nat) : cmpK a b = -1 ∨ cmpK a b = 0 ∨ cmpK a b = 1 := by
  induction a generalizing b with
  | nil => cases b <;> simp [cmpK]
  | cons a l ih =>
    cases b with
    | nil => simp [cmpK]
    | cons b bs =>
      simp only [cmpK]
      split
      · exact .inl rfl
      · split
        · exact .inr (.inr rfl)
        · exact ih bs
theorem cmpK_lt_trans {a b c : List Nat} (h : cmpK a b = -1) (k : cmpK b c = -1) : cmpK a c = -1 := by
  induction a generalizing b c with
  | nil => cases c with
    | nil => cases b <;> simp [cmpK] at h k
    | cons c cs => rfl
  | cons a l ih =>
    cases b with
    | nil => simp [cmpK] at h
    | cons b bs =>
      cases c with
      | nil => simp [cmpK] at k
      | cons c cs =>
        simp only [cmpK] at h k ⊢
        split at h
        · split at k
          · rw [if_pos (by omega)]
          · split at k
            · omega
            · rw [if_pos (by omega)]
        · split at h
          · omega
          · split at k
            · rw [if_pos (by omega)]
            · split at k
              · omega
              · rw [if_neg (by omega), if_neg (by omega)]; exact ih h k

/-- Two numbers, the greater one first. -/
def cmpS (s t : Int) : Int := if t < s then -1 else if s < t then 1 else 0
/-- Two entries, by their places. -/
def cmpE (a b : Ent) : Int := if cmpK a.key b.key = 0 then cmpS a.seq b.seq else cmpK a.key b.key
theorem cmpE_range (a b : Ent) : cmpE a b = -1 ∨ cmpE a b = 0 ∨ cmpE a b = 1 := by
  unfold cmpE
  split
  · unfold cmpS; split
    · exact .inl rfl
    · split
      · exact .inr (.inr rfl)
      · exact .inr (.inl rfl)
  · exact cmpK_range _ _
theorem cmpE_turn (a b : Ent) : cmpE b a = -cmpE a b := by
  unfold cmpE
  rw [cmpK_turn a.key b.key]
  by_cases h : cmpK a.key b.key = 0
  · rw [if_pos (by omega), if_pos h]
    unfold cmpS
    repeat' split
    all_goals omega
  · rw [if_neg (by omega), if_neg h]
theorem cmpE_zero {a b : Ent} : cmpE a b = 0 ↔ a.key = b.key ∧ a.seq = b.seq := by
  unfold cmpE
  constructor
  · intro h
    split at h
    · rename_i hk
      refine ⟨cmpK_zero hk, ?_⟩
      unfold cmpS at h
      split at h
      · omega
      · split at h
        · omega
        · omega
    · contradiction
  · rintro ⟨h1, h2⟩
    rw [h1, h2, cmpK_self, if_pos rfl]
    simp [cmpS]
theorem cmpE_lt_trans {a b c : Ent} (h : cmpE a b = -1) (k : cmpE b c = -1) : cmpE a c = -1 := by
  unfold cmpE at *
  by_cases h1 : cmpK a.key b.key = 0
  · rw [if_pos h1] at h
    rw [cmpK_zero h1]
    by_cases k1 : cmpK b.key c.key = 0
    · rw [if_pos k1] at k ⊢
      unfold cmpS at *
      split at h <;> split at k <;> (try split at h) <;> (try split at k) <;> (try omega)
    · rw [if_neg k1] at k ⊢
      exact k
  · rw [if_neg h1] at h
    by_cases k1 : cmpK b.key c.key = 0
    · rw [← cmpK_zero k1, if_neg h1]; exact h
    · rw [if_neg k1] at k
      have := cmpK_lt_trans h k
      rw [if_neg (by omega)]; exact this
/-- Three in a row. -/
theorem cmpE_row {a b c : Ent} (h : cmpE a b ≤ 0) (k : cmpE b c ≤ 0) : cmpE a c ≤ 0 := by
  by_cases h1 : cmpE a b = 0
  · obtain ⟨e1, e2⟩ := cmpE_zero.1 h1
    have : cmpE a c = cmpE b c := by unfold cmpE; rw [e1, e2]
    omega
  · by_cases k1 : cmpE b c = 0
    · obtain ⟨e1, e2⟩ := cmpE_zero.1 k1
      have : cmpE a c = cmpE a b := by unfold cmpE; rw [e1, e2]
      omega
    · have h2 := cmpE_range a b
      have k2 := cmpE_range b c
      have := cmpE_lt_trans (a := a) (b := b) (c := c) (by omega) (by omega)
      omega
end Go.Proofs.Ytcofnbeemfhcpaa
