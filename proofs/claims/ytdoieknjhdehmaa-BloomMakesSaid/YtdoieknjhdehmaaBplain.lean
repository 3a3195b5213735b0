/- Bloom filters, plain mathematics on numbers: nothing of the program stands here. -/
import Derived.Test.YtdoieknjhdehmaaCplain
namespace Go.Proofs.Ytdoieknjhdehmaa

/-- How many bytes a filter of n keys has. -/
def bsize (n : Nat) : Nat := (n / 8 + 1) * 8
theorem bsize_pos (n : Nat) : 8 ≤ bsize n := by unfold bsize; omega
theorem bsize_mod (n : Nat) : bsize n % 8 = 0 := by unfold bsize; omega
theorem bsize_le {n : Nat} (h : n ≤ 65536) : bsize n ≤ 65544 := by unfold bsize; omega

/-- The way between a key's bits. -/
def way (l : List Nat) : Nat := crc (l ++ [1]) ||| 1
/-- A key's bit number i among m. -/
def kb (l : List Nat) (m i : Nat) : Nat := (crc l + i * way l) % 4294967296 % m
/-- A key's five bits. -/
def kbs (l : List Nat) (m : Nat) : List Nat := [kb l m 0, kb l m 1, kb l m 2, kb l m 3, kb l m 4]
theorem kbs_length (l : List Nat) (m : Nat) : (kbs l m).length = 5 := rfl
theorem kbs_get (l : List Nat) (m i : Nat) (h : i < (kbs l m).length) : (kbs l m)[i] = kb l m i := by
  have h' : i < 5 := h
  match i, h' with
  | 0, _ => rfl
  | 1, _ => rfl
  | 2, _ => rfl
  | 3, _ => rfl
  | 4, _ => rfl
theorem kb_lt {l : List Nat} {m i : Nat} (h : 0 < m) : kb l m i < m := Nat.mod_lt _ h
theorem kbs_lt {l : List Nat} {m j : Nat} (h : 0 < m) (hj : j ∈ kbs l m) : j < m := by
  unfold kbs at hj
  simp only [List.mem_cons, List.not_mem_nil, or_false] at hj
  rcases hj with rfl | rfl | rfl | rfl | rfl <;> exact kb_lt h
theorem or_lt {a b : Nat} (h : a < 4294967296) (k : b < 4294967296) : a ||| b < 4294967296 := Nat.or_lt_two_pow (n := 32) h k

/-- Is a bit 1? -/
def bitOf (F : List Nat) (j : Nat) : Bool := F.getD (j / 8) 0 / 2 ^ (j % 8) % 2 == 1
/-- A bit made 1. -/
def setB (F : List Nat) (j : Nat) : List Nat := F.set (j / 8) (F.getD (j / 8) 0 ||| 2 ^ (j % 8))
/-- A key more. -/
def addK (F l : List Nat) : List Nat := (kbs l (8 * F.length)).foldl setB F
def mk (ls : List (List Nat)) : List Nat := ls.foldl addK (List.replicate (bsize ls.length) 0)
/-- Is it a filter, by its length? -/
def okF (n : Nat) : Bool := decide (n ≠ 0 ∧ n % 8 = 0 ∧ n ≤ 131072)
def mayB (F l : List Nat) : Bool := (kbs l (8 * F.length)).all (bitOf F)

theorem setB_length (F : List Nat) (j : Nat) : (setB F j).length = F.length := by simp [setB]
theorem setBs_length (js F : List Nat) : (js.foldl setB F).length = F.length := by
  induction js generalizing F with
  | nil => rfl
  | cons j js ih => rw [List.foldl_cons, ih, setB_length]
theorem addK_length (F l : List Nat) : (addK F l).length = F.length := setBs_length _ _
theorem addKs_length (ls : List (List Nat)) (F : List Nat) : (ls.foldl addK F).length = F.length := by
  induction ls generalizing F with
  | nil => rfl
  | cons l ls ih => rw [List.foldl_cons, ih, addK_length]
theorem mk_length (ls : List (List Nat)) : (mk ls).length = bsize ls.length := by unfold mk; rw [addKs_length, List.length_replicate]

theorem byte_or : ∀ x, x < 256 → ∀ k, k < 8 → x ||| 2 ^ k < 256 := by decide +kernel
theorem byte_set : ∀ x, x < 256 → ∀ k, k < 8 → (x ||| 2 ^ k) = if x / 2 ^ k % 2 = 1 then x else x + 2 ^ k := by decide +kernel
theorem byte_and : ∀ x, x < 256 → ∀ k, k < 8 → (x &&& 2 ^ k == 0) = !(x / 2 ^ k % 2 == 1) := by decide +kernel

theorem getD_lt {F : List Nat} (h : ∀ x ∈ F, x < 256) (i : Nat) : F.getD i 0 < 256 := by
  rcases Nat.lt_or_ge i F.length with hi | hi
  · rw [List.getD_eq_getElem?_getD, List.getElem?_eq_getElem hi]; exact h _ (List.getElem_mem hi)
  · rw [List.getD_eq_getElem?_getD, List.getElem?_eq_none hi]; decide
theorem setB_lt {F : List Nat} (h : ∀ x ∈ F, x < 256) (j : Nat) : ∀ x ∈ setB F j, x < 256 := by
  intro x hx
  unfold setB at hx
  rcases List.mem_or_eq_of_mem_set hx with hx | rfl
  · exact h x hx
  · exact byte_or _ (getD_lt h _) _ (Nat.mod_lt _ (by decide))
theorem setBs_lt {js F : List Nat} (h : ∀ x ∈ F, x < 256) : ∀ x ∈ js.foldl setB F, x < 256 := by
  induction js generalizing F with
  | nil => exact h
  | cons j js ih => exact ih (setB_lt h j)
theorem addK_lt {F : List Nat} (h : ∀ x ∈ F, x < 256) (l : List Nat) : ∀ x ∈ addK F l, x < 256 := setBs_lt h
theorem addKs_lt {ls : List (List Nat)} {F : List Nat} (h : ∀ x ∈ F, x < 256) : ∀ x ∈ ls.foldl addK F, x < 256 := by
  induction ls generalizing F with
  | nil => exact h
  | cons l ls ih => exact ih (addK_lt h l)
theorem zeros_lt (n : Nat) : ∀ x ∈ List.replicate n 0, x < 256 := fun x hx => by rw [List.mem_replicate] at hx; omega
theorem mk_lt (ls : List (List Nat)) : ∀ x ∈ mk ls, x < 256 := addKs_lt (zeros_lt _)

/-- What a bit is when another one was set. -/
theorem testBit_bit (x k : Nat) : (x / 2 ^ k % 2 == 1) = x.testBit k := by
  rw [Nat.testBit_eq_decide_div_mod_eq]
  rfl
theorem bitOf_test (F : List Nat) (j : Nat) : bitOf F j = (F.getD (j / 8) 0).testBit (j % 8) := testBit_bit _ _
theorem bitOf_setB (F : List Nat) (i j : Nat) (hi : i < 8 * F.length) : bitOf (setB F i) j = (bitOf F j || decide (i = j)) := by
  rw [bitOf_test, bitOf_test]
  unfold setB
  have hb : i / 8 < F.length := by omega
  by_cases h : i / 8 = j / 8
  · rw [← h]
    rw [List.getD_eq_getElem?_getD, List.getElem?_set_self hb, Option.getD_some, Nat.testBit_or, Nat.testBit_two_pow]
    congr 1
    rw [decide_eq_decide]
    omega
  · rw [List.getD_eq_getElem?_getD, List.getElem?_set_ne h, ← List.getD_eq_getElem?_getD]
    have : ¬ i = j := fun e => h (by rw [e])
    simp [this]
theorem bitOf_setBs (js F : List Nat) (j : Nat) (hj : ∀ i ∈ js, i < 8 * F.length) : bitOf (js.foldl setB F) j = (bitOf F j || js.contains j) := by
  induction js generalizing F with
  | nil => simp
  | cons i js ih =>
    rw [List.foldl_cons, ih (setB F i) (fun k hk => by rw [setB_length]; exact hj k (by simp [hk])), bitOf_setB F i j (hj i (by simp)), Bool.or_assoc]
    congr 1
    rw [List.contains_cons]
    by_cases h : i = j
    · simp [h]
    · simp [h, Ne.symm h]
theorem ext_bits {F G : List Nat} (hl : F.length = G.length) (hF : ∀ x ∈ F, x < 256) (hG : ∀ x ∈ G, x < 256) (h : ∀ j, bitOf F j = bitOf G j) : F = G := by
  apply List.ext_getElem hl
  intro i h1 h2
  apply Nat.eq_of_testBit_eq
  intro k
  by_cases hk : k < 8
  · have := h (8 * i + k)
    rw [bitOf_test, bitOf_test, show (8 * i + k) / 8 = i by omega, show (8 * i + k) % 8 = k by omega] at this
    rw [List.getD_eq_getElem?_getD, List.getElem?_eq_getElem h1, List.getD_eq_getElem?_getD, List.getElem?_eq_getElem h2] at this
    exact this
  · have e1 : F[i] < 2 ^ k := Nat.lt_of_lt_of_le (hF _ (List.getElem_mem h1)) (by have : 2 ^ 8 ≤ 2 ^ k := Nat.pow_le_pow_right (by decide) (by omega); omega)
    have e2 : G[i] < 2 ^ k := Nat.lt_of_lt_of_le (hG _ (List.getElem_mem h2)) (by have : 2 ^ 8 ≤ 2 ^ k := Nat.pow_le_pow_right (by decide) (by omega); omega)
    rw [Nat.testBit_lt_two_pow e1, Nat.testBit_lt_two_pow e2]

/-- A filter's bits are those of all keys. -/
theorem bitOf_addK (F l : List Nat) (j : Nat) (h : 0 < F.length) : bitOf (addK F l) j = (bitOf F j || (kbs l (8 * F.length)).contains j) :=
  bitOf_setBs _ _ _ fun _ hi => kbs_lt (by omega) hi
theorem bitOf_addKs (ls : List (List Nat)) (F : List Nat) (j : Nat) (h : 0 < F.length) : bitOf (ls.foldl addK F) j = (bitOf F j || ls.any fun l => (kbs l (8 * F.length)).contains j) := by
  induction ls generalizing F with
  | nil => simp
  | cons l ls ih => rw [List.foldl_cons, ih (addK F l) (by rw [addK_length]; exact h), bitOf_addK F l j h, addK_length, List.any_cons, Bool.or_assoc]
/-- A key that was added may be there. -/
theorem may_added {ls : List (List Nat)} {F l : List Nat} (h : 0 < F.length) (hl : l ∈ ls) : mayB (ls.foldl addK F) l = true := by
  unfold mayB
  rw [List.all_eq_true, addKs_length]
  intro j hj
  rw [bitOf_addKs ls F j h, Bool.or_eq_true]
  right
  rw [List.any_eq_true]
  exact ⟨l, hl, by simpa using hj⟩
theorem may_mk {ls : List (List Nat)} {l : List Nat} (hl : l ∈ ls) : mayB (mk ls) l = true :=
  may_added (by rw [List.length_replicate]; have := bsize_pos ls.length; omega) hl
theorem may_addK {F l : List Nat} (h : 0 < F.length) : mayB (addK F l) l = true := may_added (ls := [l]) h (by simp)
/-- The order of keys changes nothing. -/
theorem addKs_perm {ls rs : List (List Nat)} {F : List Nat} (h : 0 < F.length) (hF : ∀ x ∈ F, x < 256) (hp : ∀ l, l ∈ ls ↔ l ∈ rs) : ls.foldl addK F = rs.foldl addK F := by
  refine ext_bits (by rw [addKs_length, addKs_length]) (addKs_lt hF) (addKs_lt hF) fun j => ?_
  rw [bitOf_addKs ls F j h, bitOf_addKs rs F j h]
  congr 1
  rw [Bool.eq_iff_iff, List.any_eq_true, List.any_eq_true]
  exact ⟨fun ⟨l, h1, h2⟩ => ⟨l, (hp l).1 h1, h2⟩, fun ⟨l, h1, h2⟩ => ⟨l, (hp l).2 h1, h2⟩⟩
theorem mk_reverse (ls : List (List Nat)) : mk ls.reverse = mk ls := by
  unfold mk
  rw [List.length_reverse]
  exact addKs_perm (by rw [List.length_replicate]; have := bsize_pos ls.length; omega) (zeros_lt _) fun l => List.mem_reverse

/-- How many bits of a byte are 1. -/
def pop (b : Nat) : Nat := (List.range 8).countP fun k => b / 2 ^ k % 2 == 1
/-- How many bits are 1. -/
def cnt (F : List Nat) : Nat := (F.map pop).sum
/-- How many of the first n bits are 1. -/
def cntTo (F : List Nat) (n : Nat) : Nat := (List.range n).countP (bitOf F)
theorem pop_le (b : Nat) : pop b ≤ 8 := by unfold pop; exact Nat.le_trans List.countP_le_length (by simp)
theorem cnt_le (F : List Nat) : cnt F ≤ 8 * F.length := by
  unfold cnt
  induction F with
  | nil => simp
  | cons b F ih => have := pop_le b; simp only [List.map_cons, List.sum_cons, List.length_cons]; omega
theorem cnt_take {F : List Nat} {k : Nat} (h : k < F.length) : cnt (F.take (k + 1)) = cnt (F.take k) + pop F[k] := by
  unfold cnt
  rw [List.take_succ_eq_append_getElem h, List.map_append, List.sum_append]
  simp
theorem cntTo_succ (F : List Nat) (n : Nat) : cntTo F (n + 1) = cntTo F n + (bitOf F n).toNat := by
  unfold cntTo
  rw [List.range_succ, List.countP_append]
  rw [List.countP_cons, List.countP_nil, Nat.zero_add]
  cases h : bitOf F n <;> rfl
theorem cntTo_le (F : List Nat) (n : Nat) : cntTo F n ≤ n := by unfold cntTo; exact Nat.le_trans List.countP_le_length (by simp)
theorem cntTo_byte (F : List Nat) (i n : Nat) (hn : n ≤ 8) : cntTo F (8 * i + n) = cntTo F (8 * i) + (List.range n).countP (fun k => F.getD i 0 / 2 ^ k % 2 == 1) := by
  induction n with
  | zero => simp
  | succ n ih =>
    rw [show 8 * i + (n + 1) = (8 * i + n) + 1 by omega, cntTo_succ, ih (by omega), List.range_succ, List.countP_append, Nat.add_assoc]
    congr 2
    have e : bitOf F (8 * i + n) = (F.getD i 0 / 2 ^ n % 2 == 1) := by unfold bitOf; rw [show (8 * i + n) / 8 = i by omega, show (8 * i + n) % 8 = n by omega]
    rw [e, List.countP_cons, List.countP_nil, Nat.zero_add]
    cases (F.getD i 0 / 2 ^ n % 2 == 1) <;> rfl
theorem cntTo_all (F : List Nat) (k : Nat) (h : k ≤ F.length) : cntTo F (8 * k) = cnt (F.take k) := by
  induction k with
  | zero => rfl
  | succ k ih =>
    rw [show 8 * (k + 1) = 8 * k + 8 by omega, cntTo_byte F k 8 (by omega), ih (by omega), cnt_take (by omega)]
    unfold pop
    rw [List.getD_eq_getElem?_getD, List.getElem?_eq_getElem (by omega : k < F.length), Option.getD_some]
theorem cntTo_cnt (F : List Nat) : cntTo F (8 * F.length) = cnt F := by rw [cntTo_all F _ (Nat.le_refl _), List.take_length]

/-- A key and one byte more: its second sum goes on from the first. -/
theorem crc_more (l : List Nat) : more (crc l) [1] = crc (l ++ [1]) := by
  unfold crc more
  rw [reg_append, Nat.xor_assoc, Nat.xor_self, Nat.xor_zero]
end Go.Proofs.Ytdoieknjhdehmaa
