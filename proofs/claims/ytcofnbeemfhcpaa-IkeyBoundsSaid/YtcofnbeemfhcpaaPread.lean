/- Plain arithmetic of what begins with the form of a number: nothing of the program stands here. -/
import Derived.Test.YtcofnbeemfhcpaaPlain
namespace Go.Proofs.Ytcofnbeemfhcpaa

/-- What digits of seven bits come to, the first one weighing least. -/
def val : List Nat → Nat
  | [] => 0
  | b :: r => b % 128 + 128 * val r
theorem val_append (p r : List Nat) : val (p ++ r) = val p + 128 ^ p.length * val r := by
  induction p with
  | nil => simp [val]
  | cons b p ih =>
    simp only [List.cons_append, val, ih, List.length_cons, Nat.pow_succ, Nat.mul_add]
    rw [Nat.add_assoc, ← Nat.mul_assoc, Nat.mul_comm 128 (128 ^ p.length)]
theorem val_lt (p : List Nat) : val p < 128 ^ p.length := by
  induction p with
  | nil => simp [val]
  | cons b p ih =>
    simp only [val, List.length_cons, Nat.pow_succ]
    have : b % 128 < 128 := Nat.mod_lt _ (by omega)
    omega
theorem val_form (n : Nat) : val (form n) = n := by
  induction n using Nat.strongRecOn with
  | ind n ih =>
    by_cases h : n < 128
    · rw [form_lo h]; simp [val]; omega
    · rw [form_hi h, val, ih _ (by omega)]; omega

/-- Digits that say that more follow. -/
def More (p : List Nat) : Prop := ∀ b ∈ p, 128 ≤ b ∧ b < 256

theorem form_shape (n : Nat) : ∃ p q, form n = p ++ [q] ∧ More p ∧ q < 128 ∧ (p ≠ [] → q ≠ 0) := by
  induction n using Nat.strongRecOn with
  | ind n ih =>
    by_cases h : n < 128
    · exact ⟨[], n, by rw [form_lo h]; rfl, by intro b hb; simp at hb, h, fun h => absurd rfl h⟩
    · obtain ⟨p, q, he, hp, hq, hz⟩ := ih (n / 128) (by omega)
      refine ⟨(n % 128 + 128) :: p, q, by rw [form_hi h, he]; rfl, ?_, hq, fun _ => ?_⟩
      · intro b hb
        rcases List.mem_cons.1 hb with rfl | hb
        · omega
        · exact hp b hb
      · by_cases hpe : p = []
        · subst hpe
          have h2 := val_form (n / 128)
          rw [he] at h2
          simp [val] at h2
          omega
        · exact hz hpe

theorem form_of_val (p : List Nat) : ∀ q, More p → q < 128 → (p ≠ [] → q ≠ 0) → form (val (p ++ [q])) = p ++ [q] := by
  induction p with
  | nil => intro q _ hq _; simp [val]; rw [form_lo (by omega), Nat.mod_eq_of_lt hq]
  | cons b p ih =>
    intro q hp hq hz
    have hb := hp b (by simp)
    have hq0 := hz (by simp)
    have h1 := ih q (fun c hc => hp c (by simp [hc])) hq (fun _ => hq0)
    have hv : 1 ≤ val (p ++ [q]) := by
      rw [val_append]
      have h2 : val [q] = q := by simp [val]; omega
      rw [h2]
      have h3 : 1 * 1 ≤ 128 ^ p.length * q := Nat.mul_le_mul (Nat.pow_pos (by omega)) (by omega)
      omega
    simp only [List.cons_append, val]
    rw [form_hi (by omega)]
    have e1 : (b % 128 + 128 * val (p ++ [q])) / 128 = val (p ++ [q]) := by omega
    have e2 : (b % 128 + 128 * val (p ++ [q])) % 128 + 128 = b := by omega
    rw [e1, e2, h1]

theorem shape_unique : ∀ (p p' : List Nat) (q q' : Nat) (r r' : List Nat), More p → More p' → q < 128 → q' < 128 → p ++ q :: r = p' ++ q' :: r' → p = p' ∧ q = q' ∧ r = r' := by
  intro p
  induction p with
  | nil =>
    intro p' q q' r r' _ hp' hq hq' h
    cases p' with
    | nil => simp at h; exact ⟨rfl, h.1, h.2⟩
    | cons b p' =>
      simp at h
      have := hp' b (by simp)
      omega
  | cons b p ih =>
    intro p' q q' r r' hp hp' hq hq' h
    cases p' with
    | nil =>
      simp at h
      have := hp b (by simp)
      omega
    | cons b' p' =>
      simp only [List.cons_append, List.cons.injEq] at h
      obtain ⟨rfl, h⟩ := h
      obtain ⟨rfl, rfl, rfl⟩ := ih p' q q' r r' (fun c hc => hp c (by simp [hc])) (fun c hc => hp' c (by simp [hc])) hq hq' h
      exact ⟨rfl, rfl, rfl⟩

/-- These bytes begin with the form of n, behind which r stands. -/
structure Begins (l : List Nat) (n : Nat) (r : List Nat) : Prop where
  n64 : U64 n
  eq : l = form n ++ r

theorem Begins.unique {l : List Nat} {n n' : Nat} {r r' : List Nat} (h : Begins l n r) (h' : Begins l n' r') : n = n' ∧ r = r' := by
  obtain ⟨p, q, he, hp, hq, _⟩ := form_shape n
  obtain ⟨p', q', he', hp', hq', _⟩ := form_shape n'
  have hh : p ++ q :: r = p' ++ q' :: r' := by
    have h1 := h.eq
    have h2 := h'.eq
    rw [he, List.append_assoc] at h1
    rw [he', List.append_assoc] at h2
    exact h1.symm.trans h2
  obtain ⟨rfl, rfl, rfl⟩ := shape_unique p p' q q' r r' hp hp' hq hq' hh
  exact ⟨by rw [← val_form n, ← val_form n', he, he'], rfl⟩

/-- A form is read: all ahead of its last digit say that more follow. -/
theorem begins_of {l : List Nat} {i : Nat} (hi : i < l.length) (hm : More (l.take i)) (hq : l[i] < 128) (hz : i ≠ 0 → l[i] ≠ 0) (h9 : i < 9 ∨ i = 9 ∧ l[i] ≤ 1) :
    Begins l (val (l.take i) + 128 ^ i * l[i]) (l.drop (i + 1)) := by
  have hlen : (l.take i).length = i := by simp; omega
  have hv : val (l.take i ++ [l[i]]) = val (l.take i) + 128 ^ i * l[i] := by
    rw [val_append, hlen]
    have : val [l[i]] = l[i] := by simp [val]; omega
    rw [this]
  have hne : l.take i ≠ [] → l[i] ≠ 0 := fun h => hz (by rintro rfl; simp at h)
  have hf := form_of_val (l.take i) l[i] hm hq hne
  rw [hv] at hf
  refine ⟨⟨?_⟩, ?_⟩
  · have h1 := val_lt (l.take i)
    rw [hlen] at h1
    rcases h9 with h9 | ⟨rfl, h9⟩
    · have h2 : 128 ^ (i + 1) ≤ 128 ^ 9 := Nat.pow_le_pow_right (by omega) (by omega)
      have h3 : 128 ^ i * l[i] ≤ 128 ^ i * 127 := Nat.mul_le_mul_left _ (by omega)
      rw [Nat.pow_succ] at h2
      have h4 : (128 : Nat) ^ 9 = 9223372036854775808 := by decide
      omega
    · have h4 : (128 : Nat) ^ 9 = 9223372036854775808 := by decide
      have h3 : 128 ^ 9 * l[9] ≤ 128 ^ 9 * 1 := Nat.mul_le_mul_left _ h9
      omega
  · rw [hf, List.append_assoc]
    have h1 := List.take_append_drop i l
    rw [List.drop_eq_getElem_cons hi] at h1
    exact h1.symm

/-- Of digits that all say that more follow none is the last one. -/
theorem not_begins_more {l : List Nat} (hm : More l) (n : Nat) (r : List Nat) : ¬ Begins l n r := by
  intro h
  obtain ⟨p, q, he, hp, hq, _⟩ := form_shape n
  have := hm q (by rw [h.eq, he]; simp)
  omega

theorem begins_at {l : List Nat} {n : Nat} {r : List Nat} (h : Begins l n r) {i : Nat} (hi : i < l.length) (hm : More (l.take i)) : 
    (128 ≤ l[i] ∧ i + 1 < (form n).length) ∨ (l[i] < 128 ∧ (form n).length = i + 1 ∧ n = val (l.take i) + 128 ^ i * l[i] ∧ (i ≠ 0 → l[i] ≠ 0)) := by
  obtain ⟨p, q, he, hp, hq, hz⟩ := form_shape n
  have hl : l = p ++ q :: r := by rw [h.eq, he, List.append_assoc]; rfl
  have hlen : (l.take i).length = i := by simp; omega
  rcases Nat.lt_or_ge l[i] 128 with hlt | hge
  · right
    have h1 := List.take_append_drop i l
    rw [List.drop_eq_getElem_cons hi] at h1
    obtain ⟨e1, e2, e3⟩ := shape_unique _ p _ q _ r hm hp hlt hq (h1.trans hl)
    have hn := val_form n
    rw [he, ← e1, ← e2, val_append, hlen] at hn
    have : val [l[i]] = l[i] := by simp [val]; omega
    rw [this] at hn
    refine ⟨hlt, by rw [he, ← e1]; simp [hlen], hn.symm, fun h0 => ?_⟩
    rw [e2]
    apply hz
    rw [← e1]
    intro hh
    rw [hh] at hlen
    exact h0 hlen.symm
  · left
    refine ⟨hge, ?_⟩
    rw [he]
    simp only [List.length_append, List.length_cons, List.length_nil]
    rcases Nat.lt_or_ge i p.length with h2 | h2
    · omega
    · rcases Nat.eq_or_lt_of_le h2 with h3 | h3
      · subst h3
        exfalso
        have : l[p.length] = q := by simp [hl]
        omega
      · exfalso
        have hp2 : p.length < (l.take i).length := by omega
        have h4 := hm ((l.take i)[p.length]) (List.getElem_mem hp2)
        have h5 : (l.take i)[p.length] = q := by simp [hl]
        omega

theorem not_begins_zero {l : List Nat} {i : Nat} (hi : i < l.length) (hm : More (l.take i)) (h0 : i ≠ 0) (hz : l[i] = 0) (n : Nat) (r : List Nat) : ¬ Begins l n r := by
  intro h
  rcases begins_at h hi hm with ⟨h1, _⟩ | ⟨_, _, _, h4⟩
  · omega
  · exact h4 h0 hz

theorem not_begins_nine {l : List Nat} (hi : 9 < l.length) (hm : More (l.take 9)) (hz : 1 < l[9]) (n : Nat) (r : List Nat) : ¬ Begins l n r := by
  intro h
  have h10 := form_len64 h.n64
  rcases begins_at h hi hm with ⟨_, h2⟩ | ⟨_, _, h3, _⟩
  · omega
  · have h4 : (128 : Nat) ^ 9 = 9223372036854775808 := by decide
    have h5 : 128 ^ 9 * 2 ≤ 128 ^ 9 * l[9] := Nat.mul_le_mul_left _ hz
    have := h.n64.lt
    omega
end Go.Proofs.Ytcofnbeemfhcpaa
namespace Go.Proofs.Ytcofnbeemfhcpaa
theorem more_nil (l : List Nat) : More (l.take 0) := by intro b hb; simp at hb
theorem more_succ {l : List Nat} {k : Nat} (h : k < l.length) (hm : More (l.take k)) (h1 : 128 ≤ l[k]) (h2 : l[k] < 256) : More (l.take (k + 1)) := by
  intro b hb
  rw [List.take_succ_eq_append_getElem h, List.mem_append] at hb
  rcases hb with hb | hb
  · exact hm b hb
  · simp at hb; subst hb; exact ⟨h1, h2⟩
theorem val_succ {l : List Nat} {k : Nat} (h : k < l.length) : val (l.take (k + 1)) = val (l.take k) + 128 ^ k * (l[k] % 128) := by
  rw [List.take_succ_eq_append_getElem h, val_append]
  have : (l.take k).length = k := by simp; omega
  rw [this]
  simp [val]
theorem val_take_lt {l : List Nat} {k : Nat} (h : k ≤ l.length) : val (l.take k) < 128 ^ k := by
  have h1 := val_lt (l.take k)
  have : (l.take k).length = k := by simp; omega
  rwa [this] at h1
end Go.Proofs.Ytcofnbeemfhcpaa
namespace Go.Proofs.Ytcofnbeemfhcpaa
theorem form_mono (n : Nat) : ∀ m, n ≤ m → (form n).length ≤ (form m).length := by
  induction n using Nat.strongRecOn with
  | ind n ih =>
    intro m h
    by_cases h0 : n < 128
    · rw [form_lo h0]
      by_cases h1 : m < 128
      · rw [form_lo h1]; simp
      · rw [form_hi h1]; simp
    · rw [form_hi h0, form_hi (show ¬ m < 128 by omega)]
      have := ih (n / 128) (by omega) (m / 128) (Nat.div_le_div_right h)
      simp only [List.length_cons]; omega
theorem form_no_prefix {n m : Nat} (hn : U64 n) (hm : U64 m) (h : n ≠ m) : (form m).take (form n).length ≠ form n := by
  intro he
  have h1 : Begins (form m) n ((form m).drop (form n).length) := ⟨hn, by
    have := List.take_append_drop (form n).length (form m)
    rw [he] at this
    exact this.symm⟩
  have h2 : Begins (form m) m [] := ⟨hm, by simp⟩
  exact h (h1.unique h2).1
end Go.Proofs.Ytcofnbeemfhcpaa
