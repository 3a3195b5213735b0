/- Where frames end, one behind the other; cut at any place, or with a bit turned there: plain mathematics. -/
import Derived.Test.YtkaammdekalgnaaMtorn
import Derived.Laws.BitsLemmas
namespace Go.Proofs.Ytkaammdekalgnaa

theorem i64_and7 (n : Int) : bits .and .i64 n 7 = n % 8 := by
  have h7 : (BitVec.ofInt 64 7).toNat = 2 ^ 3 - 1 := by decide
  have key : (BitVec.ofInt 64 n &&& BitVec.ofInt 64 7).toNat = (n % ((2 ^ 64 : Nat) : Int)).toNat % 2 ^ 3 := by
    rw [BitVec.toNat_and, BitVec.toNat_ofInt, h7, Nat.and_two_pow_sub_one_eq_mod]
  show IntKind.i64.wrap ((BitVec.ofInt 64 n &&& BitVec.ofInt 64 7).toNat : Nat) = n % 8
  rw [key, IntKind.wrap_i64]
  omega
theorem shl8 (p : Nat) : (2 : Int) ^ (p % 8) % 256 = ((2 ^ (p % 8) : Nat) : Int) := by
  have h : 2 ^ (p % 8) < 256 := Nat.pow_lt_pow_right (a := 2) (m := p % 8) (n := 8) (by omega) (by omega)
  have e : ((2 ^ (p % 8) : Nat) : Int) = (2 : Int) ^ (p % 8) := by simp
  rw [← e]
  generalize 2 ^ (p % 8) = y at h
  omega

/-- Where each of them ends. -/
def ends (ps : List (List Nat)) : List Nat := (List.range ps.length).map fun j => (row (ps.take (j + 1))).length
theorem ends_length (ps : List (List Nat)) : (ends ps).length = ps.length := by simp [ends]
theorem ends_get (ps : List (List Nat)) {k : Nat} (h : k < ps.length) : (ends ps)[k]'(by rw [ends_length]; exact h) = (row (ps.take (k + 1))).length := by simp [ends]
theorem ends_snoc (ps : List (List Nat)) (p : List Nat) : ends (ps ++ [p]) = ends ps ++ [(row (ps ++ [p])).length] := by
  unfold ends
  rw [List.length_append, List.length_singleton, List.range_succ, List.map_append]
  congr 1
  · apply List.map_congr_left
    intro j hj
    rw [List.mem_range] at hj
    rw [List.take_append_of_le_length (by omega)]
  · rw [List.map_singleton, List.take_of_length_le (by simp)]
/-- The payloads that may be, of the first so many. -/
def nz (ls : List (List Nat)) (k : Nat) : List (List Nat) := (ls.take k).filter fun p => !p.isEmpty
theorem nz_zero (ls : List (List Nat)) : nz ls 0 = [] := by simp [nz]
theorem nz_none {ls : List (List Nat)} {k : Nat} (h : k < ls.length) (e : ls[k].length = 0) : nz ls (k + 1) = nz ls k := by
  have : ls[k] = [] := List.eq_nil_of_length_eq_zero e
  unfold nz; rw [List.take_succ_eq_append_getElem h, List.filter_append, this]; simp
theorem nz_some {ls : List (List Nat)} {k : Nat} (h : k < ls.length) (e : 1 ≤ ls[k].length) : nz ls (k + 1) = nz ls k ++ [ls[k]] := by
  unfold nz; rw [List.take_succ_eq_append_getElem h, List.filter_append]
  congr 1
  rw [List.filter_cons_of_pos]
  · rfl
  · cases hq : ls[k] with
    | nil => rw [hq] at e; simp at e
    | cons a b => rfl

theorem row_split {ps : List (List Nat)} {k : Nat} (h : k < ps.length) : row ps = row (ps.take k) ++ (frame ps[k] ++ row (ps.drop (k + 1))) := by
  have e : ps = ps.take k ++ (ps[k] :: ps.drop (k + 1)) := by rw [← List.drop_eq_getElem_cons h, List.take_append_drop]
  have e2 : row ps = row (ps.take k ++ (ps[k] :: ps.drop (k + 1))) := congrArg row e
  rw [e2]
  unfold row
  rw [List.map_append, List.map_cons, List.flatten_append, List.flatten_cons]
theorem row_len_succ {ps : List (List Nat)} {k : Nat} (h : k < ps.length) : (row (ps.take (k + 1))).length = (row (ps.take k)).length + (ps[k].length + 8) := by
  rw [List.take_succ_eq_append_getElem h, row_snoc, List.length_append, frame_length]
theorem torn_cut {ps : List (List Nat)} (hp : ∀ p ∈ ps, mayP p) {k a : Nat} (h : k < ps.length) (h1 : (row (ps.take k)).length ≤ a) (h2 : a < (row (ps.take (k + 1))).length) :
    (frs ((row ps).take a) 0).length = k ∧ fend ((row ps).take a) 0 = (row (ps.take k)).length ∧ odd ((row ps).take a) = false := by
  rw [row_len_succ h] at h2
  have e : (row ps).take a = row (ps.take k) ++ (frame ps[k]).take (a - (row (ps.take k)).length) := by
    rw [row_split h, List.take_append, List.take_of_length_le h1, List.take_append_of_le_length (by rw [frame_length]; omega)]
  have h3 := row_cut (ps := ps.take k) (fun p hx => hp p (List.mem_of_mem_take hx)) (hp ps[k] (List.getElem_mem h)) (j := a - (row (ps.take k)).length) (by omega)
  rw [e]
  have hl : (ps.take k).length = k := by rw [List.length_take]; omega
  rw [hl] at h3
  exact h3
theorem torn_turned {ps : List (List Nat)} (hp : ∀ p ∈ ps, mayP p) {k a x : Nat} (h : k < ps.length) (h1 : (row (ps.take k)).length + 4 ≤ a) (h2 : a < (row (ps.take (k + 1))).length) (hx : 0 < x) (hx2 : x < 256) (hal : a < (row ps).length) :
    (frs ((row ps).set a ((row ps)[a] ^^^ x)) 0).length = k ∧ fend ((row ps).set a ((row ps)[a] ^^^ x)) 0 = (row (ps.take k)).length ∧ odd ((row ps).set a ((row ps)[a] ^^^ x)) = true := by
  rw [row_len_succ h] at h2
  obtain ⟨j, rfl⟩ : ∃ j, a = (row (ps.take k)).length + j := ⟨a - (row (ps.take k)).length, by omega⟩
  have hl : (ps.take k).length = k := by rw [List.length_take]; omega
  have hlt : (row (ps.take k)).length + j < (row (ps.take k) ++ (frame ps[k] ++ row (ps.drop (k + 1)))).length := by rw [← row_split h]; exact hal
  have h3 := row_turned (ps := ps.take k) (fun p hx => hp p (List.mem_of_mem_take hx)) (hp ps[k] (List.getElem_mem h)) (row (ps.drop (k + 1))) (j := j) (x := x) (by omega) (by omega) hx hx2 hlt
  rw [hl] at h3
  have e := row_split h
  simp only [e]
  exact h3
theorem rows_lt {ps : List (List Nat)} (hp : ∀ p ∈ ps, mayP p) : ∀ c ∈ row ps, c < 256 := by
  intro c hc
  unfold row at hc
  obtain ⟨f, hf, hcf⟩ := List.mem_flatten.1 hc
  obtain ⟨p, hpp, rfl⟩ := List.mem_map.1 hf
  exact frame_lt (hp p hpp).2.2 c hcf
theorem row_all {ps : List (List Nat)} (hp : ∀ p ∈ ps, mayP p) : (frs (row ps) 0).length = ps.length ∧ fend (row ps) 0 = (row ps).length := by
  have h := row_then hp whole1_nil
  rwa [List.append_nil] at h
end Go.Proofs.Ytkaammdekalgnaa
