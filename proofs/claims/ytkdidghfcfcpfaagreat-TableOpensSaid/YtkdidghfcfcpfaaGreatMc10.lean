import Derived.Test.YtkdidghfcfcpfaaGreatMc9
import Derived.Test.YtkdidghfcfcpfaaGreatMc4
import Derived.Test.YtkdidghfcfcpfaaGreatMc6
import Derived.Test.YtkdidghfcfcpfaaGreatMc5
import Derived.Test.YtkdidghfcfcpfaaGreatMc1
import Derived.WalkLawsBesides
import Derived.WalkSpells
import Derived.ProofKit
import Derived.Outline
import Derived.Laws.Rows
import Derived.Laws.Tables
import Derived.Deep.WholeRow
import Derived.Test.YtkdidghfcfcpfaaGreatMc0
namespace Go.Proofs.YtkdidghfcfcpfaaGreat.Bl
def bsize (n : Nat) : Nat := (n / 8 + 1) * 8
theorem bsize_pos (n : Nat) : 8 ≤ bsize n := by unfold bsize; omega
theorem bsize_mod (n : Nat) : bsize n % 8 = 0 := by unfold bsize; omega
theorem bsize_le {n : Nat} (h : n ≤ 65536) : bsize n ≤ 65544 := by unfold bsize; omega
def way (l : List Nat) : Nat := crc (l ++ [1]) ||| 1
def kb (l : List Nat) (m i : Nat) : Nat := (crc l + i * way l) % 4294967296 % m
def kbs (l : List Nat) (m : Nat) : List Nat := [kb l m 0, kb l m 1, kb l m 2, kb l m 3, kb l m 4]
theorem kbs_length (l : List Nat) (m : Nat) : (kbs l m).length = 5 := rfl
theorem kbs_get (l : List Nat) (m i : Nat) (h : i < (kbs l m).length) : (kbs l m)[i] = kb l m i := by
 have h' : i < 5 := h
 match i, h' with
 | 0, _ => rfl
 | 1, _ => rfl
 | 2, _ => rfl
 | 3, _ => rfl
 | 4, _ => rfl
theorem kb_lt {l : List Nat} {m i : Nat} (h : 0 < m) : kb l m i < m := Nat.mod_lt _ h
theorem kbs_lt {l : List Nat} {m j : Nat} (h : 0 < m) (hj : j ∈ kbs l m) : j < m := by
 unfold kbs at hj
 simp only [List.mem_cons, List.not_mem_nil, or_false] at hj
 rcases hj with rfl | rfl | rfl | rfl | rfl <;> exact kb_lt h
theorem or_lt {a b : Nat} (h : a < 4294967296) (k : b < 4294967296) : a ||| b < 4294967296 := Nat.or_lt_two_pow (n := 32) h k
def bitOf (F : List Nat) (j : Nat) : Bool := F.getD (j / 8) 0 / 2 ^ (j % 8) % 2 == 1
def setB (F : List Nat) (j : Nat) : List Nat := F.set (j / 8) (F.getD (j / 8) 0 ||| 2 ^ (j % 8))
def addK (F l : List Nat) : List Nat := (kbs l (8 * F.length)).foldl setB F
def mk (ls : List (List Nat)) : List Nat := ls.foldl addK (List.replicate (bsize ls.length) 0)
def okF (n : Nat) : Bool := decide (n ≠ 0 ∧ n % 8 = 0 ∧ n ≤ 131072)
def mayB (F l : List Nat) : Bool := (kbs l (8 * F.length)).all (bitOf F)
theorem setB_length (F : List Nat) (j : Nat) : (setB F j).length = F.length := by simp [setB]
theorem setBs_length (js F : List Nat) : (js.foldl setB F).length = F.length := by
 induction js generalizing F with
 | nil => rfl
 | cons j js ih => rw [List.foldl_cons, ih, setB_length]
theorem addK_length (F l : List Nat) : (addK F l).length = F.length := setBs_length _ _
theorem addKs_length (ls : List (List Nat)) (F : List Nat) : (ls.foldl addK F).length = F.length := by
 induction ls generalizing F with
 | nil => rfl
 | cons l ls ih => rw [List.foldl_cons, ih, addK_length]
theorem mk_length (ls : List (List Nat)) : (mk ls).length = bsize ls.length := by unfold mk; rw [addKs_length, List.length_replicate]
theorem byte_or : ∀ x, x < 256 → ∀ k, k < 8 → x ||| 2 ^ k < 256 := by decide +kernel
theorem byte_set : ∀ x, x < 256 → ∀ k, k < 8 → (x ||| 2 ^ k) = if x / 2 ^ k % 2 = 1 then x else x + 2 ^ k := by decide +kernel
theorem byte_and : ∀ x, x < 256 → ∀ k, k < 8 → (x &&& 2 ^ k == 0) = !(x / 2 ^ k % 2 == 1) := by decide +kernel
theorem getD_lt {F : List Nat} (h : ∀ x ∈ F, x < 256) (i : Nat) : F.getD i 0 < 256 := by
 rcases Nat.lt_or_ge i F.length with hi | hi
 · rw [List.getD_eq_getElem?_getD, List.getElem?_eq_getElem hi]; exact h _ (List.getElem_mem hi)
 · rw [List.getD_eq_getElem?_getD, List.getElem?_eq_none hi]; decide
theorem setB_lt {F : List Nat} (h : ∀ x ∈ F, x < 256) (j : Nat) : ∀ x ∈ setB F j, x < 256 := by
 intro x hx
 unfold setB at hx
 rcases List.mem_or_eq_of_mem_set hx with hx | rfl
 · exact h x hx
 · exact byte_or _ (getD_lt h _) _ (Nat.mod_lt _ (by decide))
theorem setBs_lt {js F : List Nat} (h : ∀ x ∈ F, x < 256) : ∀ x ∈ js.foldl setB F, x < 256 := by
 induction js generalizing F with
 | nil => exact h
 | cons j js ih => exact ih (setB_lt h j)
theorem addK_lt {F : List Nat} (h : ∀ x ∈ F, x < 256) (l : List Nat) : ∀ x ∈ addK F l, x < 256 := setBs_lt h
theorem addKs_lt {ls : List (List Nat)} {F : List Nat} (h : ∀ x ∈ F, x < 256) : ∀ x ∈ ls.foldl addK F, x < 256 := by
 induction ls generalizing F with
 | nil => exact h
 | cons l ls ih => exact ih (addK_lt h l)
theorem zeros_lt (n : Nat) : ∀ x ∈ List.replicate n 0, x < 256 := fun x hx => by rw [List.mem_replicate] at hx; omega
theorem mk_lt (ls : List (List Nat)) : ∀ x ∈ mk ls, x < 256 := addKs_lt (zeros_lt _)
theorem testBit_bit (x k : Nat) : (x / 2 ^ k % 2 == 1) = x.testBit k := by
 rw [Nat.testBit_eq_decide_div_mod_eq]
 rfl
theorem bitOf_test (F : List Nat) (j : Nat) : bitOf F j = (F.getD (j / 8) 0).testBit (j % 8) := testBit_bit _ _
theorem bitOf_setB (F : List Nat) (i j : Nat) (hi : i < 8 * F.length) : bitOf (setB F i) j = (bitOf F j || decide (i = j)) := by
 rw [bitOf_test, bitOf_test]
 unfold setB
 have hb : i / 8 < F.length := by omega
 by_cases h : i / 8 = j / 8
 · rw [← h]
   rw [List.getD_eq_getElem?_getD, List.getElem?_set_self hb, Option.getD_some, Nat.testBit_or, Nat.testBit_two_pow]
   congr 1
   rw [decide_eq_decide]
   omega
 · rw [List.getD_eq_getElem?_getD, List.getElem?_set_ne h, ← List.getD_eq_getElem?_getD]
   have : ¬ i = j := fun e => h (by rw [e])
   simp [this]
theorem bitOf_setBs (js F : List Nat) (j : Nat) (hj : ∀ i ∈ js, i < 8 * F.length) : bitOf (js.foldl setB F) j = (bitOf F j || js.contains j) := by
 induction js generalizing F with
 | nil => simp
 | cons i js ih =>
  rw [List.foldl_cons, ih (setB F i) (fun k hk => by rw [setB_length]; exact hj k (by simp [hk])), bitOf_setB F i j (hj i (by simp)), Bool.or_assoc]
  congr 1
  rw [List.contains_cons]
  by_cases h : i = j
  · simp [h]
  · simp [h, Ne.symm h]
theorem bitOf_addK (F l : List Nat) (j : Nat) (h : 0 < F.length) : bitOf (addK F l) j = (bitOf F j || (kbs l (8 * F.length)).contains j) :=
 bitOf_setBs _ _ _ fun _ hi => kbs_lt (by omega) hi
theorem bitOf_addKs (ls : List (List Nat)) (F : List Nat) (j : Nat) (h : 0 < F.length) : bitOf (ls.foldl addK F) j = (bitOf F j || ls.any fun l => (kbs l (8 * F.length)).contains j) := by
 induction ls generalizing F with
 | nil => simp
 | cons l ls ih => rw [List.foldl_cons, ih (addK F l) (by rw [addK_length]; exact h), bitOf_addK F l j h, addK_length, List.any_cons, Bool.or_assoc]
theorem may_added {ls : List (List Nat)} {F l : List Nat} (h : 0 < F.length) (hl : l ∈ ls) : mayB (ls.foldl addK F) l = true := by
 unfold mayB
 rw [List.all_eq_true, addKs_length]
 intro j hj
 rw [bitOf_addKs ls F j h, Bool.or_eq_true]
 right
 rw [List.any_eq_true]
 exact ⟨l, hl, by simpa using hj⟩
theorem may_mk {ls : List (List Nat)} {l : List Nat} (hl : l ∈ ls) : mayB (mk ls) l = true :=
 may_added (by rw [List.length_replicate]; have := bsize_pos ls.length; omega) hl
def pop (b : Nat) : Nat := (List.range 8).countP fun k => b / 2 ^ k % 2 == 1
def cnt (F : List Nat) : Nat := (F.map pop).sum
theorem crc_more (l : List Nat) : more (crc l) [1] = crc (l ++ [1]) := by
 unfold crc more
 rw [reg_append, Nat.xor_assoc, Nat.xor_self, Nat.xor_zero]
end Go.Proofs.YtkdidghfcfcpfaaGreat.Bl
namespace Go.Proofs.YtkdidghfcfcpfaaGreat
open Bl (crc mk)
def Piece (p : List Ent) : Prop := p ≠ [] ∧ ∀ m, 1 ≤ m → m < p.length → (wr (p.take (m + 1))).length ≤ 512
def Link (p : List Ent) (e : Ent) : Prop := 512 < (wr (p ++ [e])).length
def Cuts : List (List Ent) → Prop
 | [] => True
 | p :: C => Piece p ∧ (∀ q C', C = q :: C' → ∃ e q', q = e :: q' ∧ Link p e) ∧ Cuts C
theorem piece_short {p p' : List Ent} {e : Ent} {F : List Ent} (hl : Link p e) (h' : Piece p') (hp : p ≠ []) (hlt : p.length < p'.length) (he : ∃ F', p' ++ F' = p ++ e :: F) : False := by
 obtain ⟨F', he⟩ := he
 have h1 := h'.2 p.length (by cases p with | nil => exact absurd rfl hp | cons a l => simp) hlt
 have e1 : p'.take (p.length + 1) = p ++ [e] := by
  have h2 := congrArg (List.take (p.length + 1)) he
  rw [List.take_append_of_le_length (by omega)] at h2
  rw [h2, List.take_append, List.take_of_length_le (by omega), show p.length + 1 - p.length = 1 by omega]; rfl
 rw [e1] at h1
 unfold Link at hl
 omega
theorem cut_unique : ∀ {C C' : List (List Ent)}, Cuts C → Cuts C' → C.flatten = C'.flatten → C = C'
 | [], [], _, _, _ => rfl
 | [], p :: C', _, h', e => by
  have := h'.1.1
  cases p with
  | nil => exact absurd rfl this
  | cons a l => simp at e
 | p :: C, [], h, _, e => by
  have := h.1.1
  cases p with
  | nil => exact absurd rfl this
  | cons a l => simp at e
 | p :: C, p' :: C', h, h', e => by
  have side : ∀ {p p' : List Ent} {C C' : List (List Ent)}, Cuts (p :: C) → Cuts (p' :: C') → p ++ C.flatten = p' ++ C'.flatten → p.length < p'.length → False := by
   intro p p' C C' h h' e hlt
   cases C with
   | nil =>
    have := congrArg List.length e
    simp at this; omega
   | cons q C2 =>
    obtain ⟨a, q', rfl, hl⟩ := h.2.1 q C2 rfl
    exact piece_short hl h'.1 h.1.1 hlt ⟨C'.flatten, by rw [← e]; simp [List.flatten_cons]; rfl⟩
  simp only [List.flatten_cons] at e
  have hn : p.length = p'.length := by
   rcases Nat.lt_trichotomy p.length p'.length with h1 | h1 | h1
   · exact (side h h' e h1).elim
   · exact h1
   · exact (side h' h e.symm h1).elim
  obtain ⟨e1, e2⟩ := List.append_inj e hn
  rw [e1, cut_unique h.2.2 h'.2.2 e2]
theorem cuts_snoc : ∀ {C : List (List Ent)} {q : List Ent}, Cuts C → Piece q → (∀ p, C.getLast? = some p → ∃ e q', q = e :: q' ∧ Link p e) → Cuts (C ++ [q])
 | [], q, _, hq, _ => ⟨hq, fun _ _ h => (by cases h), trivial⟩
 | p :: C, q, h, hq, hl => by
  refine ⟨h.1, fun r C' e => ?_, ?_⟩
  · cases C with
    | nil =>
     injection e with e1 _
     subst e1
     exact hl p rfl
    | cons r' C2 =>
     injection e with e1 _
     subst e1
     exact h.2.1 r' C2 rfl
  · refine cuts_snoc h.2.2 hq fun r hr => hl r ?_
    cases C with
    | nil => cases hr
    | cons r' C2 => rw [List.getLast?_cons_cons]; exact hr
theorem cuts_piece : ∀ {C : List (List Ent)}, Cuts C → ∀ p ∈ C, Piece p
 | [], _, _, hp => by cases hp
 | p :: C, h, q, hq => by
  rcases List.mem_cons.1 hq with rfl | hq
  · exact h.1
  · exact cuts_piece h.2.2 q hq
theorem tcuts_len : ∀ {C : List (List Ent)}, Cuts C → C.length ≤ C.flatten.length
 | [], _ => zNr _
 | p :: C, h => by
  have h1 := tcuts_len h.2.2
  have h2 : 0 < p.length := List.length_pos_iff.2 h.1.1
  simp only [List.flatten_cons, List.length_append, List.length_cons]; omega
def MayT (L : List Ent) : Prop := 1 ≤ L.length ∧ L.length ≤ 4096 ∧ Rise L ∧ ∀ e ∈ L, e.may = true
def idx1 (p : List Ent) (at_ n : Nat) : List Nat := ((p.getLast?).map fun e => bytesForm e.key ++ (form e.seq.toNat ++ (form at_ ++ form n))).getD []
def idxs : Nat → List (List Ent) → List Nat
 | _, [] => []
 | a, p :: C => idx1 p a (wr p).length ++ idxs (a + (wr p).length) C
def blks (C : List (List Ent)) : List Nat := C.flatMap wr
def index (C : List (List Ent)) : List Nat := form C.length ++ idxs 0 C
def keyAt (L : List Ent) (i : Nat) : List (List Nat) := ((L[i]?).map fun e => if i = 0 ∨ (L[i - 1]?).map Ent.key ≠ some e.key then [e.key] else []).getD []
def keysTo (L : List Ent) (k : Nat) : List (List Nat) := (List.range k).flatMap (keyAt L)
def keysT (L : List Ent) : List (List Nat) := keysTo L L.length
def ahd (C : List (List Ent)) (L : List Ent) : List Nat := blks C ++ (index C ++ mk (keysT L))
def foot24 (C : List (List Ent)) (L : List Ent) : List Nat := be4 (blks C).length ++ (be4 (index C).length ++ (be4 ((blks C).length + (index C).length) ++ (be4 (mk (keysT L)).length ++ (be4 L.length ++ be4 (crc (ahd C L))))))
def tb (C : List (List Ent)) (L : List Ent) : List Nat := ahd C L ++ (foot24 C L ++ be4 (crc (foot24 C L)))
def IsT (b : List Nat) (L : List Ent) : Prop := MayT L ∧ ∃ C, C.flatten = L ∧ Cuts C ∧ tb C L = b
theorem foot24_len (C : List (List Ent)) (L : List Ent) : (foot24 C L).length = 24 := by unfold foot24; simp [be4_length]
theorem tb_len (C : List (List Ent)) (L : List Ent) : (tb C L).length = (ahd C L).length + 28 := by unfold tb; rw [List.length_append, List.length_append, foot24_len, be4_length]
theorem keysTo_succ (L : List Ent) (k : Nat) : keysTo L (k + 1) = keysTo L k ++ keyAt L k := by
 unfold keysTo; rw [List.range_succ, List.flatMap_append]; simp
theorem keyAt_mem {L : List Ent} {i : Nat} {k : List Nat} (h : k ∈ keyAt L i) : ∃ e ∈ L, e.key = k := by
 unfold keyAt at h
 cases he : L[i]? with
 | none => rw [he] at h; cases h
 | some e =>
  rw [he] at h
  simp only [Option.map_some, Option.getD_some] at h
  split at h
  · rw [List.mem_singleton] at h; exact ⟨e, List.mem_of_getElem? he, h.symm⟩
  · cases h
theorem keysTo_mem {L : List Ent} {n : Nat} {k : List Nat} (h : k ∈ keysTo L n) : ∃ e ∈ L, e.key = k := by
 unfold keysTo at h
 obtain ⟨i, _, hi⟩ := List.mem_flatMap.1 h
 exact keyAt_mem hi
theorem keyAt_len (L : List Ent) (i : Nat) : (keyAt L i).length ≤ 1 := by
 unfold keyAt
 cases L[i]? with
 | none => simp
 | some e => simp only [Option.map_some, Option.getD_some]; split <;> simp
theorem keysTo_len (L : List Ent) (k : Nat) : (keysTo L k).length ≤ k := by
 induction k with
 | zero => exact zNr _
 | succ k ih => rw [keysTo_succ, List.length_append]; have := keyAt_len L k; omega
theorem keysTo_has {L : List Ent} : ∀ {i n : Nat} {e : Ent}, L[i]? = some e → i < n → e.key ∈ keysTo L n := by
 intro i
 induction i with
 | zero =>
  intro n e he hn
  exact List.mem_flatMap.2 ⟨0, List.mem_range.2 hn, by
   unfold keyAt
   rw [he]
   simp only [Option.map_some, Option.getD_some]
   rw [if_pos (Or.inl trivial)]
   exact List.mem_singleton.2 rfl⟩
 | succ i ih =>
  intro n e he hn
  by_cases h : (L[i]?).map Ent.key = some e.key
  · cases hi : L[i]? with
    | none => rw [hi] at h; cases h
    | some e' =>
     rw [hi] at h
     injection h with h
     rw [← h]
     exact ih hi (by omega)
  · exact List.mem_flatMap.2 ⟨i + 1, List.mem_range.2 hn, by
      unfold keyAt
      rw [he]
      simp only [Option.map_some, Option.getD_some, Nat.add_sub_cancel]
      rw [if_pos (.inr h)]
      exact List.mem_singleton.2 rfl⟩
theorem wr_pos (p : List Ent) : 4 ≤ (wr p).length := by rw [wr_len]; omega
theorem wr_most {p : List Ent} (hm : ∀ e ∈ p, e.may = true) : (wr p).length ≤ 65701 * p.length + 8 := by
 have h1 := upto_le hm p.length
 have h2 := ats_len p p.length
 rw [wr_len]; omega
theorem blks_most : ∀ {C : List (List Ent)}, Cuts C → (∀ e ∈ C.flatten, e.may = true) → (blks C).length ≤ 65709 * C.flatten.length
 | [], _, _ => zNr _
 | p :: C, h, hm => by
  have h1 := blks_most h.2.2 (fun e he => hm e (by rw [List.flatten_cons]; exact List.mem_append_right _ he))
  have h2 := wr_most (p := p) (fun e he => hm e (by rw [List.flatten_cons]; exact List.mem_append_left _ he))
  have h3 : 0 < p.length := List.length_pos_iff.2 h.1.1
  unfold blks at h1 ⊢
  simp only [List.flatMap_cons, List.flatten_cons, List.length_append]
  omega
theorem idx1_most {p : List Ent} {a n : Nat} (hm : ∀ e ∈ p, e.may = true) (ha : a < 1000000000000) (hn : n < 1000000000000) : (idx1 p a n).length ≤ 72 := by
 unfold idx1
 cases h : p.getLast? with
 | none => simp
 | some e =>
  obtain ⟨u1, u2, u3, u4⟩ := Ent.may_u64 (hm e (List.mem_of_getLast? h))
  obtain ⟨h1, h2, h3, h4, h5⟩ := mayN_iff.1 (hm e (List.mem_of_getLast? h))
  have a1 := (bytesForm_len u1).1
  have a2 := form_len64 u2
  have a3 := form_len64 (n := a) ⟨by omega⟩
  have a4 := form_len64 (n := n) ⟨by omega⟩
  simp only [Option.map_some, Option.getD_some, List.length_append]
  omega
theorem idxs_most : ∀ {C : List (List Ent)} {a : Nat}, Cuts C → (∀ e ∈ C.flatten, e.may = true) → a + (blks C).length < 1000000000000 → (idxs a C).length ≤ 72 * C.length
 | [], _, _, _, _ => zNr _
 | p :: C, a, h, hm, hb => by
  unfold blks at hb
  simp only [List.flatMap_cons, List.length_append] at hb
  have h1 := idxs_most (a := a + (wr p).length) h.2.2 (fun e he => hm e (by rw [List.flatten_cons]; exact List.mem_append_right _ he)) (by unfold blks; omega)
  have h2 := idx1_most (p := p) (a := a) (n := (wr p).length) (fun e he => hm e (by rw [List.flatten_cons]; exact List.mem_append_left _ he)) (by omega) (by omega)
  unfold idxs
  simp only [List.length_append, List.length_cons]
  omega
structure Few (C : List (List Ent)) (L : List Ent) : Prop where
 b : (blks C).length ≤ 269144064
 c : C.length ≤ 4096
 i : (index C).length ≤ 294922
 f : (mk (keysT L)).length ≤ 65544
 a : (ahd C L).length ≤ 300000000
theorem few {C : List (List Ent)} {L : List Ent} (h : MayT L) (hc : Cuts C) (hf : C.flatten = L) : Few C L := by
 have h1 := blks_most hc (fun e he => h.2.2.2 e (hf ▸ he))
 have h2 := tcuts_len hc
 rw [hf] at h1 h2
 have h3 := h.2.1
 have h4 := idxs_most (a := 0) hc (fun e he => h.2.2.2 e (hf ▸ he)) (by omega)
 have h5 := form_len64 (n := C.length) ⟨by omega⟩
 have h6 : (mk (keysT L)).length ≤ 65544 := by
  rw [Bl.mk_length]
  exact Bl.bsize_le (zNt (keysTo_len L L.length) (by omega))
 have h7 : (index C).length ≤ 294922 := by unfold index; rw [List.length_append]; omega
 exact ⟨by omega, by omega, h7, h6, by unfold ahd; rw [List.length_append, List.length_append]; omega⟩
theorem kform_zero {ah : List Nat} {e : Ent} {r r' : List Nat} (h : e.may = true) (he : kform ah e ++ r = 0 :: 0 :: r') : False := by
 obtain ⟨h1, h2, h3, h4, h5⟩ := mayN_iff.1 h
 have hs := shr_le_r ah e.key
 unfold kform at he
 rw [form_lo (show shr ah e.key < 128 by omega)] at he
 simp only [List.append_assoc, List.cons_append, List.nil_append] at he
 injection he with e1 e2
 unfold bytesForm at e2
 rw [e1, List.drop_zero, form_lo (show e.key.length < 128 by omega)] at e2
 simp only [List.cons_append, List.nil_append] at e2
 injection e2 with e3 _
 omega
def tailB (L : List Ent) : List Nat := (ats L L.length).flatMap be4 ++ be4 (ats L L.length).length
theorem tailB_zero {L : List Ent} (h : 1 ≤ L.length) : ∃ r, tailB L = 0 :: 0 :: r := by
 have h1 := ats_get L L.length 0 (by omega)
 unfold tailB
 cases ha : ats L L.length with
 | nil => rw [ha] at h1; cases h1
 | cons a l =>
  rw [ha] at h1
  have h2 : a = 0 := by simpa [upto_zero] using h1
  subst h2
  exact ⟨_, rfl⟩
theorem wr_split (L : List Ent) : wr L = fromK L 0 ++ tailB L := by rw [fromK_zero]; rfl
theorem cut_at {L M : List Ent} {R R' : List Nat} (h : MayB L) (k : MayB M) (he : wr L ++ R = wr M ++ R') : ∀ n, n ≤ L.length → n ≤ M.length ∧ L.take n = M.take n ∧ fromK L n ++ (tailB L ++ R) = fromK M n ++ (tailB M ++ R') := by
 intro n
 induction n with
 | zero =>
  intro _
  refine ⟨Nat.zero_le _, rfl, ?_⟩
  rw [wr_split, wr_split, List.append_assoc, List.append_assoc] at he
  exact he
 | succ n ih =>
  intro hn
  obtain ⟨h1, h2, h3⟩ := ih (by omega)
  have hk : n < L.length := by omega
  have hah : ahOf L n = ahOf M n := by
   unfold ahOf
   split
   · rfl
   · have e1 : L[n - 1]? = (L.take n)[n - 1]? := by rw [List.getElem?_take, if_pos (by omega)]
     have e2 : M[n - 1]? = (M.take n)[n - 1]? := by rw [List.getElem?_take, if_pos (by omega)]
     rw [e1, e2, h2]
  have hm : n < M.length := by
   rcases Nat.lt_or_ge n M.length with hx | hx
   · exact hx
   · exfalso
     obtain ⟨r, hr⟩ := tailB_zero k.1
     rw [fromK_end M hx, fromK_at hk, piece_at (List.getElem?_eq_getElem hk), List.nil_append, hr, List.append_assoc] at h3
     exact kform_zero (h.2.2.2 _ (List.getElem_mem hk)) h3
  have h4 := h3
  rw [fromK_at hk, fromK_at hm, piece_at (List.getElem?_eq_getElem hk), piece_at (List.getElem?_eq_getElem hm), hah, List.append_assoc, List.append_assoc] at h4
  have s1 := stands_kform (ah := ahOf M n) (h.2.2.2 _ (List.getElem_mem hk)) (fromK L (n + 1) ++ (tailB L ++ R))
  have s2 := stands_kform (ah := ahOf M n) (k.2.2.2 _ (List.getElem_mem hm)) (fromK M (n + 1) ++ (tailB M ++ R'))
  rw [h4] at s1
  obtain ⟨e1, e2⟩ := s1.unique s2
  refine ⟨hm, ?_, e2⟩
  rw [List.take_add_one, List.take_add_one, h2, List.getElem?_eq_getElem hk, List.getElem?_eq_getElem hm, e1]
theorem wr_cut {L M : List Ent} {R R' : List Nat} (h : MayB L) (k : MayB M) (he : wr L ++ R = wr M ++ R') : L = M ∧ R = R' := by
 obtain ⟨h1, h2, _⟩ := cut_at h k he L.length (zNr _)
 obtain ⟨k1, _, _⟩ := cut_at k h he.symm M.length (zNr _)
 have e : L.length = M.length := by omega
 rw [List.take_length, e, List.take_length] at h2
 subst h2
 exact ⟨rfl, List.append_cancel_left he⟩
theorem kform_four {ah : List Nat} {e : Ent} (h : e.may = true) : 4 ≤ (kform ah e).length := by
 obtain ⟨u1, u2, u3, u4⟩ := Ent.may_u64 h
 have := form_pos (shr ah e.key)
 have := form_pos e.seq.toNat
 have := form_pos e.kind.toNat
 have h2 : 0 < (bytesForm (e.key.drop (shr ah e.key))).length := by
  have := form_pos (e.key.drop (shr ah e.key)).length
  unfold bytesForm; rw [List.length_append]; omega
 unfold kform
 simp only [List.length_append]
 omega
theorem upto_four {L : List Ent} (hm : ∀ e ∈ L, e.may = true) (k : Nat) (hk : k ≤ L.length) : 4 * k ≤ (upto L k).length := by
 induction k with
 | zero => exact Nat.zero_le _
 | succ k ih =>
  have := ih (by omega)
  rw [upto_succ, List.length_append, piece_at (List.getElem?_eq_getElem (show k < L.length by omega))]
  have := kform_four (ah := ahOf L k) (hm _ (List.getElem_mem (show k < L.length by omega)))
  omega
theorem piece_few {p : List Ent} (h : Piece p) (hm : ∀ e ∈ p, e.may = true) : p.length ≤ 128 := by
 rcases Nat.lt_or_ge 1 p.length with h1 | h1
 · have h2 := h.2 (p.length - 1) (by omega) (by omega)
   rw [show p.length - 1 + 1 = p.length by omega, List.take_length, wr_len] at h2
   have := upto_four hm p.length (zNr _)
   omega
 · omega
theorem rise_part {L A B D : List Ent} (h : Rise L) (he : L = A ++ (B ++ D)) : Rise B := by
 subst he
 intro j a b ha hb
 have hj : j < B.length := (zLg.1 ha).1
 have hj1 : j + 1 < B.length := (zLg.1 hb).1
 refine h (A.length + j) a b ?_ ?_
 · rw [List.getElem?_append_right (by omega), show A.length + j - A.length = j by omega, List.getElem?_append_left hj]; exact ha
 · rw [List.getElem?_append_right (by omega), show A.length + j + 1 - A.length = j + 1 by omega, List.getElem?_append_left hj1]; exact hb
theorem pieces_mayB {C : List (List Ent)} (hr : Rise C.flatten) (hm : ∀ e ∈ C.flatten, e.may = true) (hc : Cuts C) : ∀ p ∈ C, MayB p := by
 intro p hp
 obtain ⟨A, B, rfl⟩ := List.append_of_mem hp
 have hmp : ∀ e ∈ p, e.may = true := fun e he => hm e (List.mem_flatten.2 ⟨p, hp, he⟩)
 have h1 := cuts_piece hc p hp
 have h2 := piece_few h1 hmp
 have h3 : 0 < p.length := List.length_pos_iff.2 h1.1
 refine ⟨by omega, by omega, ?_, hmp⟩
 exact rise_part (A := A.flatten) (D := B.flatten) hr (by simp)
theorem wr_head {p : List Ent} (h : MayB p) : ∃ r, wr p = 0 :: r := by
 have hl := h.1
 rw [wr_split, fromK_at (by omega), piece_at (List.getElem?_eq_getElem (by omega))]
 unfold kform
 have : ahOf p 0 = [] := rfl
 rw [this, shr_nil, form_lo (by omega)]
 exact ⟨_, rfl⟩
theorem blks_cut : ∀ {C C' : List (List Ent)} {a a' : Nat} {R R' : List Nat}, (∀ p ∈ C, MayB p) → (∀ p ∈ C', MayB p) → a ≠ 0 → a' ≠ 0 → blks C ++ a :: R = blks C' ++ a' :: R' → C = C' ∧ a :: R = a' :: R'
 | [], [], _, _, _, _, _, _, _, _, h => ⟨rfl, h⟩
 | [], p :: C', _, _, _, _, _, h', ha, _, h => by
  obtain ⟨r, hr⟩ := wr_head (h' p (List.mem_cons_self ..))
  unfold blks at h
  rw [List.flatMap_cons, hr] at h
  injection h with h _
  exact absurd h ha
 | p :: C, [], _, _, _, _, h', _, _, ha, h => by
  obtain ⟨r, hr⟩ := wr_head (h' p (List.mem_cons_self ..))
  unfold blks at h
  rw [List.flatMap_cons, hr] at h
  injection h with h _
  exact absurd h.symm ha
 | p :: C, p' :: C', _, _, _, _, h1, h2, ha, ha', h => by
  unfold blks at h
  rw [List.flatMap_cons, List.flatMap_cons, List.append_assoc, List.append_assoc] at h
  obtain ⟨rfl, h4⟩ := wr_cut (h1 p (List.mem_cons_self ..)) (h2 p' (List.mem_cons_self ..)) h
  obtain ⟨rfl, h3⟩ := blks_cut (fun q hq => h1 q (List.mem_cons_of_mem _ hq)) (fun q hq => h2 q (List.mem_cons_of_mem _ hq)) ha ha' h4
  exact ⟨rfl, h3⟩
theorem form_head {n : Nat} (h : n ≠ 0) : ∃ a r, form n = a :: r ∧ a ≠ 0 := by
 by_cases hn : n < 128
 · exact ⟨n, [], form_lo hn, h⟩
 · exact ⟨_, _, form_hi hn, by omega⟩
theorem tb_cut {C C' : List (List Ent)} {L L' : List Ent} {more : List Nat} (h : MayT L) (h' : MayT L') (hc : Cuts C) (hc' : Cuts C') (hf : C.flatten = L) (hf' : C'.flatten = L') (he : tb C L ++ more = tb C' L') : C = C' ∧ L = L' ∧ more = [] := by
 have hn : C.length ≠ 0 := fun e => by
  have := List.eq_nil_of_length_eq_zero e
  subst this; subst hf
  have := h.1; simp at this
 have hn' : C'.length ≠ 0 := fun e => by
  have := List.eq_nil_of_length_eq_zero e
  subst this; subst hf'
  have := h'.1; simp at this
 obtain ⟨a, r, ha, ha0⟩ := form_head hn
 obtain ⟨a', r', ha', ha0'⟩ := form_head hn'
 have hm := pieces_mayB (hf ▸ h.2.2.1) (hf ▸ h.2.2.2) hc
 have hm' := pieces_mayB (hf' ▸ h'.2.2.1) (hf' ▸ h'.2.2.2) hc'
 have he2 := he
 unfold tb ahd index at he2
 rw [ha, ha'] at he2
 simp only [List.append_assoc, List.cons_append] at he2
 obtain ⟨e1, _⟩ := blks_cut hm hm' ha0 ha0' he2
 subst e1
 have e2 : L = L' := hf.symm.trans hf'
 subst e2
 refine ⟨rfl, rfl, ?_⟩
 have := congrArg List.length he
 rw [List.length_append] at this
 exact List.eq_nil_of_length_eq_zero (by omega)
theorem IsT.unique {b : List Nat} {L M : List Ent} (h : IsT b L) (k : IsT b M) : L = M := by
 obtain ⟨h1, C, h2, h3, h4⟩ := h
 obtain ⟨k1, D, k2, k3, k4⟩ := k
 exact (tb_cut (more := []) h1 k1 h3 k3 h2 k2 (by rw [List.append_nil, h4, k4])).2.1
end Go.Proofs.YtkdidghfcfcpfaaGreat
namespace Go.Proofs.YtkdidghfcfcpfaaGreat
open Go.ChangeShapes Go.WideShapes Go.ChangeAt Go.RowKit
def Fit (L : List Ent) (n : Nat) : Prop := 1 ≤ n ∧ n ≤ L.length ∧ Piece (L.take n) ∧ ∀ e, L[n]? = some e → Link (L.take n) e
theorem piece_drop (L : List Ent) (k i : Nat) : pieceOf (L.drop (4 * k)) i = pieceOf L (4 * k + i) := by
 unfold pieceOf
 rw [List.getElem?_drop]
 have h : ahOf (L.drop (4 * k)) i = ahOf L (4 * k + i) := by
  unfold ahOf
  by_cases hi : i % 4 = 0
  · rw [if_pos hi, if_pos (by omega)]
  · rw [if_neg hi, if_neg (by omega), List.getElem?_drop, show 4 * k + (i - 1) = 4 * k + i - 1 by omega]
 rw [h]
theorem upto_drop (L : List Ent) (k : Nat) : ∀ j, upto L (4 * k + j) = upto L (4 * k) ++ upto (L.drop (4 * k)) j
 | 0 => by rw [upto_zero, List.append_nil]; rfl
 | j + 1 => by rw [show 4 * k + (j + 1) = 4 * k + j + 1 by omega, upto_succ, upto_drop L k j, upto_succ, piece_drop, List.append_assoc]
theorem piece_take {L : List Ent} {n i : Nat} (h : i < n) : pieceOf (L.take n) i = pieceOf L i := by
 unfold pieceOf
 rw [List.getElem?_take, if_pos h]
 have h2 : ahOf (L.take n) i = ahOf L i := by
  unfold ahOf
  split
  · rfl
  · rw [List.getElem?_take, if_pos (by omega)]
 rw [h2]
theorem upto_take (L : List Ent) (n : Nat) : ∀ j, j ≤ n → upto (L.take n) j = upto L j
 | 0, _ => rfl
 | j + 1, h => by rw [upto_succ, upto_succ, upto_take L n j (by omega), piece_take (by omega)]
theorem wr_take_len {L : List Ent} {n : Nat} (h : n ≤ L.length) : (wr (L.take n)).length = (upto L n).length + 4 * ((n + 3) / 4) + 4 := by
 have hl : (L.take n).length = n := by rw [List.length_take]; omega
 rw [wr_len, hl, upto_take L n n (zNr _), ats_len]
theorem wr_part {L : List Ent} {n : Nat} (h : n < L.length) : (wr (L.take (n + 1))).length = (upto L (4 * (n / 4))).length + 4 * (n / 4) + (wr ((L.take (n + 1)).drop (4 * (n / 4)))).length := by
 have hp : (L.take (n + 1)).drop (4 * (n / 4)) = (L.drop (4 * (n / 4))).take (n + 1 - 4 * (n / 4)) := List.drop_take
 rw [hp, wr_take_len (by omega), wr_take_len (by rw [List.length_drop]; omega)]
 have h1 := congrArg List.length (upto_drop L (n / 4) (n + 1 - 4 * (n / 4)))
 rw [List.length_append, show 4 * (n / 4) + (n + 1 - 4 * (n / 4)) = n + 1 by omega] at h1
 omega
theorem part_may {L : List Ent} {n : Nat} (hr : Rise L) (hm : ∀ e ∈ L, e.may = true) (h : n < L.length) : MayB ((L.take (n + 1)).drop (4 * (n / 4))) := by
 refine ⟨by simp only [List.length_drop, List.length_take]; omega, by simp only [List.length_drop, List.length_take]; omega, ?_, fun e he => hm e (List.mem_of_mem_take (List.mem_of_mem_drop he))⟩
 refine rise_part (A := L.take (4 * (n / 4))) (D := L.drop (n + 1)) hr ?_
 have e1 : (L.take (n + 1)).take (4 * (n / 4)) = L.take (4 * (n / 4)) := by rw [List.take_take]; congr 1; omega
 rw [← e1, ← List.append_assoc, List.take_append_drop, List.take_append_drop]
def wholeN (L : List Ent) (n : Nat) : Nat := (upto L (4 * (n / 4))).length + 4 * (n / 4)
theorem wholeN_part {L : List Ent} {n : Nat} (h : n < L.length) : (wr (L.take (n + 1))).length = wholeN L n + (wr ((L.take (n + 1)).drop (n / 4 * 4))).length := by
 rw [Nat.mul_comm (n / 4) 4]
 exact wr_part h
theorem wholeN_next {L : List Ent} {n : Nat} (h : n < L.length) (h3 : n % 4 = 3) : (wr (L.take (n + 1))).length = wholeN L (n + 1) + 4 := by
 rw [wr_take_len (by omega)]
 unfold wholeN
 rw [show 4 * ((n + 1) / 4) = n + 1 by omega]
 omega
theorem wholeN_stay {L : List Ent} {n : Nat} (h3 : n % 4 ≠ 3) : wholeN L (n + 1) = wholeN L n := by
 unfold wholeN
 rw [show (n + 1) / 4 = n / 4 by omega]
theorem wr_few {L : List Ent} {n : Nat} (hm : ∀ e ∈ L, e.may = true) (h : n ≤ L.length) (hl : L.length ≤ 4096) : (wr (L.take n)).length ≤ 300000000 := by
 rw [wr_take_len h]
 have := upto_le hm n
 omega
set_option maxRecDepth 100000 in
set_option maxHeartbeats 4000000 in
theorem fit_any {w : World} {lo hi c : Nat} {A : Option Addr} {L : List (Ent × Hd)} (h : Es w lo hi A L) (hhi : hi ≤ w.heap.size) (hlc : L.length ≤ c) (hlen : L.length ≤ 4096) (h1 : 1 ≤ L.length) (hr : Rise (L.map Prod.fst)) (hm : ∀ e ∈ L.map Prod.fst, e.may = true) :
    Calls Tryz.prog 121 #[.slice A L.length c] w fun x w' => ∃ n : Nat, x = .returned (.int .i64 (n : Int)) ∧ Fit (L.map Prod.fst) n ∧ Ext w w' := by
 have HE := zHd h
 have HHI := zHd hhi
 have HLC := zHd hlc
 obtain ⟨Ls, hLs⟩ : ∃ Ls, Ls = L.map Prod.fst := ⟨_, rfl⟩
 have HLS := zHd hLs
 have HN : Hid (Ls.length = L.length) := by rw [hLs]; simp [Hid]
 rw [← hLs] at hr hm ⊢
 have HR := zHd hr
 have HM := zHd hm
 have HL := zHd hlen
 have H1 := zHd h1
 have hlI : (L.length : Int) ≤ 4096 := by omega
 clear h hhi hlc hLs hr hm hlen h1
 go_enter Tryz.func121, Tryz.ntmps121
 go_wp2_with fail
 go_loopw [3, 4, 5, 6, 9] (fun whole _ _ _ i wr => ∃ k : Nat, k ≤ L.length ∧ i = .int .i64 (k : Int) ∧ whole = .int .i64 (wholeN Ls k : Int) ∧ Hid (∀ m, 1 ≤ m → m < k → (_root_.Go.Proofs.YtkdidghfcfcpfaaGreat.wr (Ls.take (m + 1))).length ≤ 512) ∧ Hid (Ext w wr)) (fun _ _ _ _ i _ => L.length - (intOf i).toNat)
 case atStart => exact ⟨0, Nat.zero_le _, rfl, rfl, fun m h1 h2 => absurd h2 (by omega), Ext.refl _⟩
 case round =>
  obtain ⟨k, hk, rfl, rfl, HP, HX⟩ := hrel
  by_cases hlt : k < L.length
  rotate_left
  · have d : decide ((k : Int) < (L.length : Int)) = false := decide_eq_false (by omega)
    have dn : decide (k < L.length) = false := decide_eq_false hlt
    have hkl : k = L.length := by omega
    have HF : Hid (Fit Ls L.length) := by
     have hT : Ls.take L.length = Ls := List.take_of_length_le (by rw [HN.out]; exact zNr _)
     refine ⟨H1.out, by rw [HN.out]; exact zNr _, ⟨fun e => ?_, fun m m1 m2 => ?_⟩, fun e he => ?_⟩
     · have h5 := congrArg List.length e
       rw [hT, HN.out] at h5
       have := H1.out
       have h6 : L.length = 0 := h5
       omega
     · rw [hT] at m2 ⊢
       rw [HN.out] at m2
       exact HP.out m m1 (by omega)
     · rw [List.getElem?_eq_none (by rw [HN.out]; exact zNr _)] at he; cases he
    clear hlt hk hkl
    go_wp2_with fail
    go_ret
    exact ⟨L.length, rfl, HF.out, HX.out⟩
  have d : decide ((k : Int) < (L.length : Int)) = true := decide_eq_true (by omega)
  have dn : decide (k < L.length) = true := decide_eq_true hlt
  have HLT := zHd hlt
  have kI : (k : Int) ≤ 4095 := by omega
  have k0 : (0 : Int) ≤ (k : Int) := by omega
  have hkc : (k : Int) + 1 ≤ (c : Int) := by have := HLC.out; omega
  have hkcN : k + 1 ≤ c := by have := HLC.out; omega
  have hne : ¬ c = k / 4 * 4 := by omega
  obtain ⟨S, hS⟩ : ∃ S, S = (_root_.Go.Proofs.YtkdidghfcfcpfaaGreat.wr ((Ls.take (k + 1)).drop (k / 4 * 4))).length := ⟨_, rfl⟩
  have HT : Hid ((_root_.Go.Proofs.YtkdidghfcfcpfaaGreat.wr (Ls.take (k + 1))).length = wholeN Ls k + S) := by rw [hS]; exact wholeN_part (by rw [HN.out]; exact hlt)
  have hT3 : wholeN Ls k + S ≤ 300000000 := by rw [← HT.out]; exact wr_few HM.out (by rw [HN.out]; omega) (by rw [HN.out]; exact HL.out)
  have HSZ : Hid (Calls Tryz.prog 142 #[.slice (Option.map (fun x => x.add (k / 4 * 4 * 4)) A) (k + 1 - k / 4 * 4) (c - k / 4 * 4)] wr fun x w' => Ext wr w' ∧ x = .returned (.int .i64 (S : Int))) := by
   have hE := (HE.out.below HX.out HHI.out).take (k := k + 1) (by omega)
   have hE2 := hE.drop (k := k / 4 * 4) (c := c) (by rw [List.length_take]; omega) (by rw [List.length_take]; omega)
   rw [if_neg hne] at hE2
   have hb := bsize_any (c := c - k / 4 * 4) hE2 (zNt HHI.out HX.out.size) (by rw [List.length_drop, List.length_take]; omega) (by rw [List.length_drop, List.length_take]; have := HL.out; omega)
   have e1 : ((L.take (k + 1)).drop (k / 4 * 4)).length = k + 1 - k / 4 * 4 := by rw [List.length_drop, List.length_take]; omega
   have e2 : ((L.take (k + 1)).drop (k / 4 * 4)).map Prod.fst = (Ls.take (k + 1)).drop (k / 4 * 4) := by rw [List.map_drop, List.map_take, HLS.out]
   rw [e1, e2, ← hS] at hb
   refine hb.mono fun x w' hx => ⟨hx.1, hx.2.1 ?_⟩
   rw [Nat.mul_comm (k / 4) 4]
   exact part_may HR.out HM.out (by rw [HN.out]; exact hlt)
  have hA : (wholeN Ls k : Int) ≤ 300000000 := by omega
  have hSI : (S : Int) ≤ 300000000 := by omega
  obtain ⟨a, ha⟩ : ∃ a, a = wholeN Ls k := ⟨_, rfl⟩
  rw [← ha] at hA hT3 HT ⊢
  have HA := zHd ha
  have HT3 := zHd hT3
  clear hlt hk hS ha hT3
  go_wp2_with fail
  refine HSZ.out.mono ?_
  rintro x w2 ⟨hx2, rfl⟩
  have HX2 : Hid (Ext w w2) := zEt HX.out hx2
  clear hx2 HSZ
  by_cases hk0 : k = 0
  · have HPN : Hid (∀ m, 1 ≤ m → m < k + 1 → (_root_.Go.Proofs.YtkdidghfcfcpfaaGreat.wr (Ls.take (m + 1))).length ≤ 512) := fun m m1 m2 => absurd m2 (by omega)
    have e0 : decide ((0 : Int) < (k : Int)) = false := decide_eq_false (by omega)
    have e0n : decide (0 < k) = false := decide_eq_false (by omega)
    clear hk0
    by_cases h4 : k % 4 = 3
    · have e4 : (((k + 1 - k / 4 * 4 : Nat) : Int) == 4) = true := by rw [beq_iff_eq]; omega
      have e4n : (k + 1 - k / 4 * 4 == 4) = true := by rw [beq_iff_eq]; omega
      have HW : Hid (a + S = wholeN Ls (k + 1) + 4) := by rw [← HT.out]; exact wholeN_next (by rw [HN.out]; exact HLT.out) h4
      clear h4
      go_wp2_with fail
      go_roundw
      case rel => exact ⟨k + 1, HLT.out, by go_num, by have := HW.out; congr 1; omega, HPN, HX2⟩
      case measure => have := HLT.out; simp [intOf]; omega
    · have e4 : (((k + 1 - k / 4 * 4 : Nat) : Int) == 4) = false := by rw [beq_eq_false_iff_ne]; omega
      have e4n : (k + 1 - k / 4 * 4 == 4) = false := by rw [beq_eq_false_iff_ne]; omega
      have HW : Hid (a = wholeN Ls (k + 1)) := by rw [HA.out]; exact (wholeN_stay h4).symm
      clear h4
      go_wp2_with fail
      go_roundw
      case rel => exact ⟨k + 1, HLT.out, by go_num, by rw [← HW.out], HPN, HX2⟩
      case measure => have := HLT.out; simp [intOf]; omega
  have e0 : decide ((0 : Int) < (k : Int)) = true := decide_eq_true (by omega)
  have e0n : decide (0 < k) = true := decide_eq_true (by omega)
  by_cases hbig : 512 < a + S
  · have e1 : decide ((512 : Int) < (a : Int) + (S : Int)) = true := decide_eq_true (by omega)
    have e1n : decide (512 < a + S) = true := decide_eq_true hbig
    have HF : Hid (Fit Ls k) := by
     have hle : k ≤ Ls.length := by rw [HN.out]; have := HLT.out; omega
     have hl : (Ls.take k).length = k := by rw [List.length_take]; omega
     refine ⟨by omega, hle, ⟨fun e => ?_, fun m m1 m2 => ?_⟩, fun e he => ?_⟩
     · rw [e] at hl; simp at hl; omega
     · rw [hl] at m2
       rw [List.take_take, Nat.min_eq_left (by omega)]
       exact HP.out m m1 (by omega)
     · unfold Link
       obtain ⟨h9, rfl⟩ := zLg.1 he
       rw [← List.take_succ_eq_append_getElem h9, HT.out]
       exact hbig
    clear hbig hk0
    go_wp2_with fail
    go_ret
    exact ⟨k, rfl, HF.out, HX2.out⟩
  · have e1 : decide ((512 : Int) < (a : Int) + (S : Int)) = false := decide_eq_false (by omega)
    have e1n : decide (512 < a + S) = false := decide_eq_false hbig
    have HPN : Hid (∀ m, 1 ≤ m → m < k + 1 → (_root_.Go.Proofs.YtkdidghfcfcpfaaGreat.wr (Ls.take (m + 1))).length ≤ 512) := fun m m1 m2 => by
     by_cases h5 : m < k
     · exact HP.out m m1 h5
     · rw [show m = k by omega, HT.out]; omega
    clear hbig hk0
    by_cases h4 : k % 4 = 3
    · have e4 : (((k + 1 - k / 4 * 4 : Nat) : Int) == 4) = true := by rw [beq_iff_eq]; omega
      have e4n : (k + 1 - k / 4 * 4 == 4) = true := by rw [beq_iff_eq]; omega
      have HW : Hid (a + S = wholeN Ls (k + 1) + 4) := by rw [← HT.out]; exact wholeN_next (by rw [HN.out]; exact HLT.out) h4
      clear h4
      go_wp2_with fail
      go_roundw
      case rel => exact ⟨k + 1, HLT.out, by go_num, by have := HW.out; congr 1; omega, HPN, HX2⟩
      case measure => have := HLT.out; simp [intOf]; omega
    · have e4 : (((k + 1 - k / 4 * 4 : Nat) : Int) == 4) = false := by rw [beq_eq_false_iff_ne]; omega
      have e4n : (k + 1 - k / 4 * 4 == 4) = false := by rw [beq_eq_false_iff_ne]; omega
      have HW : Hid (a = wholeN Ls (k + 1)) := by rw [HA.out]; exact (wholeN_stay h4).symm
      clear h4
      go_wp2_with fail
      go_roundw
      case rel => exact ⟨k + 1, HLT.out, by go_num, by rw [← HW.out], HPN, HX2⟩
      case measure => have := HLT.out; simp [intOf]; omega
theorem fit_exists {L : List Ent} (h : 1 ≤ L.length) : ∃ n, Fit L n := by
 have up : ∀ d n, n + d = L.length → 1 ≤ n → (∀ m, 1 ≤ m → m < n → (wr (L.take (m + 1))).length ≤ 512) → ∃ n, Fit L n := by
  intro d
  induction d with
  | zero =>
   intro n hn h1 hp
   refine ⟨n, h1, by omega, ⟨fun e => ?_, fun m m1 m2 => ?_⟩, fun e he => ?_⟩
   · have h6 : (L.take n).length = 0 := by rw [e]; rfl
     rw [List.length_take] at h6
     omega
   · rw [List.length_take] at m2
     rw [List.take_take, Nat.min_eq_left (by omega)]
     exact hp m m1 (by omega)
   · rw [List.getElem?_eq_none (by omega)] at he; cases he
  | succ d ih =>
   intro n hn h1 hp
   by_cases hb : (wr (L.take (n + 1))).length ≤ 512
   · exact ih (n + 1) (by omega) (by omega) fun m m1 m2 => by
       by_cases h5 : m < n
       · exact hp m m1 h5
       · rw [show m = n by omega]; exact hb
   · refine ⟨n, h1, by omega, ⟨fun e => ?_, fun m m1 m2 => ?_⟩, fun e he => ?_⟩
     · have h6 : (L.take n).length = 0 := by rw [e]; rfl
       rw [List.length_take] at h6
       omega
     · rw [List.length_take] at m2
       rw [List.take_take, Nat.min_eq_left (by omega)]
       exact hp m m1 (by omega)
     · obtain ⟨h9, rfl⟩ := zLg.1 he
       unfold Link
       rw [← List.take_succ_eq_append_getElem h9]
       omega
 exact up (L.length - 1) 1 (by omega) (zNr _) (fun m m1 m2 => by omega)
theorem fit_cons {L : List Ent} {n : Nat} {C : List (List Ent)} (h : Fit L n) (hc : Cuts C) (hf : C.flatten = L.drop n) : Cuts (L.take n :: C) ∧ (L.take n :: C).flatten = L := by
 refine ⟨⟨h.2.2.1, fun q C' e => ?_, hc⟩, by rw [List.flatten_cons, hf, List.take_append_drop]⟩
 subst e
 cases q with
 | nil => exact absurd rfl hc.1.1
 | cons a q' =>
  refine ⟨a, q', rfl, h.2.2.2 a ?_⟩
  have h2 := congrArg (fun l => l[0]?) hf
  simp only [List.flatten_cons, List.cons_append, List.getElem?_cons_zero, List.getElem?_drop, Nat.add_zero] at h2
  exact h2.symm
theorem cuts_exists : ∀ (d : Nat) (L : List Ent), L.length ≤ d → ∃ C, Cuts C ∧ C.flatten = L
 | _, [], _ => ⟨[], trivial, rfl⟩
 | 0, _ :: _, h => by simp at h
 | d + 1, a :: l, h => by
  obtain ⟨n, hn⟩ := fit_exists (L := a :: l) (by simp)
  obtain ⟨C, h1, h2⟩ := cuts_exists d ((a :: l).drop n) (by rw [List.length_drop]; have := hn.1; omega)
  exact ⟨_, fit_cons hn h1 h2⟩
theorem fit_head {p : List Ent} {C : List (List Ent)} {n : Nat} (hc : Cuts (p :: C)) (h : Fit (p :: C).flatten n) : n = p.length := by
 obtain ⟨D, h1, h2⟩ := cuts_exists _ ((p :: C).flatten.drop n) (zNr _)
 obtain ⟨h3, h4⟩ := fit_cons h h1 h2
 have h5 := cut_unique h3 hc h4
 injection h5 with h5 _
 have := congrArg List.length h5
 rw [List.length_take] at this
 have := h.2.1
 omega
theorem cuts_drop : ∀ {C : List (List Ent)} (k : Nat), Cuts C → Cuts (C.drop k)
 | _, 0, h => h
 | [], _ + 1, _ => trivial
 | _ :: _, k + 1, h => cuts_drop k h.2.2
def offK (C : List (List Ent)) (k : Nat) : Nat := (C.take k).flatten.length
theorem offK_zero (C : List (List Ent)) : offK C 0 = 0 := rfl
theorem offK_succ {C : List (List Ent)} {k : Nat} {p : List Ent} (h : C[k]? = some p) : offK C (k + 1) = offK C k + p.length := by
 unfold offK
 obtain ⟨h1, rfl⟩ := zLg.1 h
 rw [List.take_succ_eq_append_getElem h1, List.flatten_append, List.length_append]; simp
theorem offK_all (C : List (List Ent)) : offK C C.length = C.flatten.length := by unfold offK; rw [List.take_length]
theorem flat_split (C : List (List Ent)) (k : Nat) : C.flatten = (C.take k).flatten ++ (C.drop k).flatten := by rw [← List.flatten_append, List.take_append_drop]
theorem flat_drop (C : List (List Ent)) (k : Nat) : C.flatten.drop (offK C k) = (C.drop k).flatten := by
 rw [flat_split C k]
 unfold offK
 rw [List.drop_append_of_le_length (zNr _), List.drop_length, List.nil_append]
theorem offK_le (C : List (List Ent)) (k : Nat) : offK C k ≤ C.flatten.length := by
 rw [flat_split C k, List.length_append]
 unfold offK
 omega
theorem offK_lt {C : List (List Ent)} (hc : Cuts C) {k : Nat} (hk : k < C.length) : offK C k < C.flatten.length := by
 have h1 := offK_succ (List.getElem?_eq_getElem hk)
 have h2 := offK_le C (k + 1)
 have h3 : 0 < (C[k]).length := List.length_pos_iff.2 (cuts_piece hc _ (List.getElem_mem hk)).1
 omega
theorem enters_pieces1 : ∀ args w, (callFunc 120 args).run Tryz.prog w = .ok (.enter 120 args) w := enters_of Tryz.func120 (by kernel_rfl) rfl
theorem pieces_any (A : Option Addr) (n c : Nat) (w : World) : Calls Tryz.prog 101 #[.slice A n c] w fun x w' => x = .returned (.func (.func 120) #[] #[.pointer (some ⟨w.heap.size, 0, none⟩)]) ∧ w' = w.alloc (.cells #[.slice A n c] 28) := by
 have hmf := mkf
 go_enter Tryz.func101, Tryz.ntmps101
 go_wp2_with fail
 go_ret
 simp
def PcOk (C : List (List Ent)) (_n₁ k : Nat) (x : Nat × Nat) (_w : World) : Prop := ∃ p, C[k]? = some p ∧ x = (offK C k, p.length)
def pcV (b o c : Nat) (x : Nat × Nat) : Array Value := #[.slice (some ⟨b, o + x.1 * 4, none⟩) x.2 (c - x.1)]
def PcC (pb lo hi : Nat) (A : Option Addr) (L : List (Ent × Hd)) (c : Nat) (w : World) : Prop := w.cell? ⟨pb, 0, none⟩ = some (.slice A L.length c) ∧ Es w lo hi A L ∧ hi ≤ w.heap.size
theorem pc_tail (b o r cc m : Nat) (h : m ≤ r) (hc : r ≤ cc) : ∃ A2, (∀ w, (Instr.slice 28 (.slice (some ⟨b, o, none⟩) r cc) (some (.int .i64 (m : Int))) none none).run Tryz.prog w = .ok (.slice A2 (r - m) (cc - m)) w) ∧ (m < r → A2 = some ⟨b, o + m * 4, none⟩) := by
 refine ⟨if cc = m then some ⟨b, o, none⟩ else (some (⟨b, o, none⟩ : Addr)).map (·.add (m * 4)), fun w => ?_, fun hm => ?_⟩
 · have he : Tryz.prog.underlying 28 = some (.slice (Tryz.prog.elem 28)) := by kernel_rfl
   rw [run_slice_l w 28 (some ⟨b, o, none⟩) r cc he .i64 (m : Int) (by omega) (by omega), esize w]
   simp [Result.andThen, sliced]
 · rw [if_neg (by omega)]
   show some (Addr.add _ _) = _
   rw [addr_add]
set_option maxRecDepth 100000 in
set_option maxHeartbeats 8000000 in
theorem pieces_iter {w : World} {pb lo hi c b o : Nat} {L : List (Ent × Hd)} {C : List (List Ent)} (hcu : Cuts C) (hf : C.flatten = L.map Prod.fst) (hc : L.length ≤ c) (hl : L.length ≤ 4096) (hr : Rise (L.map Prod.fst)) (hm : ∀ e ∈ L.map Prod.fst, e.may = true) :
    Iter Tryz.prog 120 #[.pointer (some ⟨pb, 0, none⟩)] C.length (pcV b o c) (PcOk C) (PcC pb lo hi (some ⟨b, o, none⟩) L c) w := by
 intro mm lab J Jx W hx hC hJ hJx h0 hY
 have HCU := zHd hcu
 have HFL := zHd hf
 have HCC := zHd hc
 have HL := zHd hl
 have HRM := zHd (And.intro hr hm)
 have HC := zHd hC
 have HJ := zHd hJ
 have HJ0 := zHd (h0 W (Ext.refl _))
 have HY := zHd hY
 obtain ⟨n, hn⟩ : ∃ n, n = L.length := ⟨_, rfl⟩
 have HN := zHd hn
 have HLF : Hid (C.flatten.length = n) := by rw [hf, hn]; exact List.length_map ..
 clear hcu hf hc hl hr hm hC hJ hJx h0 hY hx
 have HC2 : Hid (∀ n₁ k A, J n₁ k A → A.cell? ⟨pb, 0, none⟩ = some (.slice (some ⟨b, o, none⟩) n c)) := fun n₁ k A h => by rw [HN.out]; exact (HC.out n₁ k A h).1
 clear hn
 refine (callsIn_wide (n := 6)).1 ?_
 refine callsIn_of_wp Tryz.func120 rfl trivial ?_ rfl
 simp only [Tryz.ntmps120, List.size_toArray, List.length_cons, List.length_nil, Nat.reduceAdd, Nat.reduceSub, Array.replicate_succ, Array.replicate_zero, List.push_toArray, List.append_toArray, List.nil_append, List.cons_append]
 have c0 := HC2.out _ _ _ HJ0.out
 gi_wp2
 clear c0
 gi_loopw [3, 4] (fun x _ wr => ∃ (k off : Nat) (A2 : Option Addr), off = offK C k ∧ k ≤ C.length ∧ x = .slice A2 (n - off) (c - off) ∧ Hid (off < n → A2 = some ⟨b, o + off * 4, none⟩) ∧ Hid (J W.heap.size k wr) ∧ Hid (Step W.heap.size W.heap.size W wr))
  (fun x _ _ => match x with | .slice _ r _ => r | _ => 0)
 case atStart => exact ⟨0, 0, some ⟨b, o, none⟩, (offK_zero C).symm, Nat.zero_le _, rfl, fun _ => rfl, HJ0, Step.refl _ _ _⟩
 case round =>
  obtain ⟨k, off, A2, ho, hk, rfl, HA2, HJK, HST⟩ := hrel
  have HO := zHd (And.intro ho hk)
  clear ho hk
  obtain ⟨r, hr⟩ : ∃ r, r = n - off := ⟨_, rfl⟩
  obtain ⟨cc, hcc⟩ : ∃ cc, cc = c - off := ⟨_, rfl⟩
  have HRC : Hid (r = n - off ∧ cc = c - off) := ⟨hr, hcc⟩
  rw [← hr, ← hcc]
  clear hr hcc
  by_cases hlt : off < n
  · have d : decide ((0 : Int) < (r : Int)) = true := decide_eq_true (by have := HRC.out; omega)
    have dn : decide (0 < r) = true := decide_eq_true (by have := HRC.out; omega)
    have HLT := zHd hlt
    rw [HA2.out hlt]
    have hkC : k < C.length := by
     rcases Nat.lt_or_ge k C.length with h | h
     · exact h
     · have h1 : k = C.length := by have := HO.out.2; omega
       have h2 := offK_all C
       rw [← h1, HLF.out, ← HO.out.1] at h2
       omega
    have HKC := zHd hkC
    obtain ⟨p, hp⟩ : ∃ p, C[k]? = some p := ⟨_, List.getElem?_eq_getElem hkC⟩
    have HP := zHd hp
    have HFIT : Hid (∀ u, Ext wr u → Calls Tryz.prog 121 #[.slice (some ⟨b, o + off * 4, none⟩) r cc] u fun x w' => x = .returned (.int .i64 (p.length : Int)) ∧ Ext u w') := fun u hu => by
     have hju := HJ.out _ _ _ _ (zNr _) HJK.out (Chg.of_ext hu)
     have hE := (HC.out _ _ _ hju).2
     have hE2 := hE.1.drop (k := off) (c := c) (by rw [← HN.out]; omega) HCC.out
     rw [if_neg (by have := HCC.out; have := HN.out; omega)] at hE2
     have e0 : (some (⟨b, o, none⟩ : Addr)).map (·.add (off * 4)) = some ⟨b, o + off * 4, none⟩ := by show some (Addr.add _ _) = _; rw [addr_add]
     rw [e0] at hE2
     have e1 : (L.drop off).length = r := by rw [List.length_drop, ← HN.out]; exact HRC.out.1.symm
     have e2 : (L.drop off).map Prod.fst = (C.drop k).flatten := by rw [List.map_drop, ← HFL.out, HO.out.1, flat_drop]
     have hsub : ∃ P, L.map Prod.fst = P ++ ((C.drop k).flatten ++ []) := ⟨(C.take k).flatten, by rw [List.append_nil, ← HFL.out]; exact flat_split C k⟩
     have h := fit_any (c := cc) hE2 hE.2 (by rw [e1]; have := HRC.out; have := HCC.out; have := HN.out; omega) (by rw [e1]; have := HRC.out; have := HL.out; have := HN.out; omega) (by rw [e1]; have := HRC.out; omega) (by rw [e2]; obtain ⟨P, hP⟩ := hsub; exact rise_part HRM.out.1 hP) (fun e he => HRM.out.2 e (by rw [e2] at he; obtain ⟨P, hP⟩ := hsub; rw [hP]; simp [he]))
     rw [e1, e2] at h
     refine h.mono ?_
     rintro x w' ⟨m, rfl, hm, hx⟩
     refine ⟨?_, hx⟩
     have hd : C.drop k = p :: C.drop (k + 1) := by obtain ⟨h8, rfl⟩ := zLg.1 HP.out; exact List.drop_eq_getElem_cons h8
     rw [hd] at hm
     have hcd := cuts_drop k HCU.out
     rw [hd] at hcd
     rw [fit_head hcd hm]
    have hoff := offK_succ hp
    have hole := offK_le C (k + 1)
    obtain ⟨m, hm⟩ : ∃ m, m = p.length := ⟨_, rfl⟩
    rw [← hm] at HFIT hoff
    have hm1 : 1 ≤ m := by rw [hm]; exact List.length_pos_iff.2 (cuts_piece HCU.out _ (List.mem_of_getElem? hp)).1
    have HMM : Hid (1 ≤ m ∧ off + m = offK C (k + 1) ∧ off + m ≤ n ∧ n ≤ c ∧ n ≤ 4096) := ⟨hm1, by rw [hoff, HO.out.1], by have := HLF.out; have := HO.out.1; omega, by rw [HN.out]; exact HCC.out, by rw [HN.out]; exact HL.out⟩
    have HME := zHd hm
    clear hlt hkC hoff hole hm hm1 hp
    refine wpIn_wide.2 ?_
    go_wp2_with fail
    refine (HFIT.out wr (Ext.refl _)).mono ?_
    rintro x u ⟨rfl, hu⟩
    have HXU : Hid (Ext wr u) := hu
    have hj1 := HJ.out _ _ _ _ (zNr _) HJK.out (Chg.of_ext hu)
    clear hu HFIT
    obtain ⟨fn, tmps, assign, body, hy, hR⟩ := HY.out W.heap.size k (off, m) u (zNr _) (zNt HST.out.size HXU.out.size) hj1 HKC.out ⟨p, HP.out, by rw [HO.out.1, ← HME.out]⟩
    dsimp only [pcV] at hy
    rw [← HRC.out.2] at hy
    obtain ⟨A3, hA3, hA4⟩ := pc_tail b (o + off * 4) r cc m (by have := HRC.out; have := HMM.out; omega) (by have := HRC.out; have := HMM.out; omega)
    have HA4 := zHd hA4
    have mI : (m : Int) ≤ (cc : Int) := by have := HRC.out; have := HMM.out; omega
    have mN : m ≤ cc := by have := HRC.out; have := HMM.out; omega
    have HR := zHd (roundIn_any (m' := 5) hR)
    clear hR hj1 hA4
    go_upto_region 3 with (fail)
    refine (wpIn_wide (n := 6)).1 ?_
    gi_wp2
    refine RoundIn.mono HR.out ?_
    rintro e W3 ⟨hst, (⟨rfl, hj⟩ | ⟨rfl, hjx⟩)⟩
    · have HST3 := zHd ((HST.out.trans (Step.of_chg (S := fun _ => False) (Chg.of_ext HXU.out) HST.out.size (fun _ _ _ h => h))).trans hst)
      have HJ3 := zHd hj
      clear hst hj hy
      gi_wp2
      go_wp2_with fail
      refine ⟨⟨k + 1, off + m, A3, HMM.out.2.1, HKC.out, ?_, fun h => ?_, HJ3, HST3⟩, ?_⟩
      · rw [HRC.out.1, HRC.out.2, Nat.sub_sub, Nat.sub_sub]
      · rw [HA4.out (by have := HRC.out; omega), Nat.add_mul, Nat.add_assoc]
      · have := HRC.out; have := HMM.out; have := HLT.out
        simp
        try omega
    · have HX3 := zHd hjx
      clear hst hjx hy
      gi_wp2
      go_wp2_with fail
      refine bodyPost_ret (results_none rfl _ _ _) rfl ?_
      exact ⟨⟨_, rfl⟩, .inr HX3.out⟩
  · have d : decide ((0 : Int) < (r : Int)) = false := decide_eq_false (by have := HRC.out; omega)
    have dn : decide (0 < r) = false := decide_eq_false (by have := HRC.out; omega)
    have HLT := zHd hlt
    clear hlt
    gi_wp2
    refine ⟨rfl, _, results_none rfl _ _ _, ⟨_, rfl⟩, .inl ⟨W.heap.size, zNr _, ?_⟩⟩
    have h1 : k = C.length := by
     rcases Nat.lt_or_ge k C.length with h | h
     · have h2 := offK_lt HCU.out h
       rw [HLF.out, ← HO.out.1] at h2
       exact absurd h2 HLT.out
     · have := HO.out.2; omega
    rw [← h1]
    exact HJK.out
def plf (key : List Nat) (s b z : Nat) : List Nat := bytesForm key ++ (form s ++ (form b ++ form z))
theorem plf_len {key : List Nat} {s b z : Nat} (hk : key.length ≤ 32) (hs : U64 s) (hb : U64 b) (hz : U64 z) : (plf key s b z).length ≤ 72 := by
 have a1 := (bytesForm_len (l := key) ⟨by omega⟩).1
 have a2 := form_len64 hs
 have a3 := form_len64 hb
 have a4 := form_len64 hz
 unfold plf
 simp only [List.length_append]
 omega
set_option maxRecDepth 100000 in
set_option maxHeartbeats 8000000 in
theorem pform_any {w : World} {lo hi c : Nat} {A : Option Addr} {key : List Nat} {n b z : Nat} (hk : Bs w lo hi (.slice A key.length c) key) (hhi : hi ≤ w.heap.size) (hkl : key.length ≤ 32) (hn : n ≤ 9223372036854775807) (hb : b ≤ 9223372036854775807) (hz : z ≤ 9223372036854775807) :
    Calls Tryz.prog 104 #[.agg #[.slice A key.length c, .int .i64 (n : Int), .int .i64 0, .slice none 0 0, .int .i64 (b : Int), .int .i64 (z : Int)]] w (NewBy w (plf key n b z)) := by
 obtain ⟨w3, hw3⟩ : ∃ w3, w3 = w.alloc (.cells #[.slice A key.length c, .int .i64 (n : Int), .int .i64 0, .slice none 0 0, .int .i64 (b : Int), .int .i64 (z : Int)] 90) := ⟨_, rfl⟩
 have HX : Hid (Ext w w3) := by rw [hw3]; exact ext_alloc _ _
 have HB1 : Hid (w3.heap[w.heap.size]? = some (.cells #[.slice A key.length c, .int .i64 (n : Int), .int .i64 0, .slice none 0 0, .int .i64 (b : Int), .int .i64 (z : Int)] 90 (0, 0))) := by rw [hw3]; exact heap_at _ _ rfl
 have HK3 : Hid (Bs w3 lo hi (.slice A key.length c) key) := hk.below HX.out hhi
 have HZ3 : Hid (w.heap.size ≤ w3.heap.size ∧ hi ≤ w3.heap.size) := ⟨HX.out.size, zNt hhi HX.out.size⟩
 have HKL := zHd hkl
 have HN : Hid (U64 n) := ⟨by omega⟩
 have HS : Hid (U64 b) := ⟨by omega⟩
 have HD : Hid (U64 z) := ⟨by omega⟩
 have q1 : IntKind.u64.wrap (n : Int) = (n : Int) := by rw [IntKind.wrap_u64]; omega
 have q2 : IntKind.u64.wrap (b : Int) = (b : Int) := by rw [IntKind.wrap_u64]; omega
 have q3 : IntKind.u64.wrap (z : Int) = (z : Int) := by rw [IntKind.wrap_u64]; omega
 obtain ⟨F3, hF3⟩ : ∃ F, F = [bytesForm key, form n, form b, form z].flatten := ⟨_, rfl⟩
 have hpl : plf key n b z = F3 := by rw [hF3]; simp [plf]
 have hfl : F3.length ≤ 72 := by rw [← hpl]; exact plf_len hkl HN.out HS.out HD.out
 rw [hpl]
 have HF3 := zHd hF3
 have HFL := zHd hfl
 clear hk hhi hkl hn hb hz hpl hfl hF3
 have b0 := cell_of HB1.out (k := 0) rfl
 have b1 := cell_of HB1.out (k := 1) rfl
 have b4 := cell_of HB1.out (k := 4) rfl
 have b5 := cell_of HB1.out (k := 5) rfl
 go_enter Tryz.func104, Tryz.ntmps104
 go_upto_region 1 with (fail)
 rw [← hw3]
 clear hw3
 refine flow (by kernel_rfl) [Is (.pointer (some ⟨w.heap.size, 0, none⟩)), Is (.pointer (some ⟨w.heap.size, 0, none⟩)), Is (.slice A key.length c), Own w.heap.size (bytesForm key), Is (.pointer (some ⟨w.heap.size, 0, none⟩)), Is (.pointer (some ⟨w.heap.size, 1, none⟩)), Is (.int .i64 (n : Int)), Is (.int .u64 (n : Int)), Own w.heap.size (form n), Is (.pointer (some ⟨w.heap.size, 4, none⟩)), Is (.int .i64 (b : Int)), Is (.int .u64 (b : Int)), Own w.heap.size (form b), Is (.pointer (some ⟨w.heap.size, 5, none⟩)), Is (.int .i64 (z : Int)), Is (.int .u64 (z : Int)), Own w.heap.size (form z), Rws 4 [bytesForm key, form n, form b, form z], Own w.heap.size F3, Own w.heap.size F3] (by kernel_rfl) (by kernel_rfl) ?mono (fun f => ?obl) ?fin
 case mono =>
  simp only [List.forall_mem_cons, List.not_mem_nil, false_imp_iff, implies_true, and_true]
  exact ⟨.is _, .is _, .is _, .own _ _, .is _, .is _, .is _, .is _, .own _ _, .is _, .is _, .is _, .own _ _, .is _, .is _, .is _, .own _ _, .rws _ _, .own _ _, .own _ _⟩
 case fin =>
  intro g1 u hu hg
  simp only [puts, Act.put, zq]
  have h18 : Own w.heap.size F3 (g1 19) u := hg 19 (by decide)
  have hu2 := zEt (Ext.drew w3) hu
  obtain ⟨v, hv⟩ : ∃ v, v = g1 19 := ⟨_, rfl⟩
  rw [← hv] at h18 ⊢
  have HO := zHd h18
  have HXU : Hid (Ext w u) := zEt HX.out hu2
  clear h18 hv b0 b1 b4 b5 hg hu hu2
  go_wp2_with fail
  go_ret
  exact ⟨_, rfl, HO.out, HXU.out⟩
 case obl =>
  refine ⟨fun u hu hd => ?_, fun u hu hd => ?_, fun u hu hd => ?_, fun u hu hd => ?_, fun u hu hd => ?_, fun u hu hd => ?_, fun u hu hd => ?_, fun u hu hd => ?_, fun u hu hd => ?_, fun u hu hd => ?_, fun u hu hd => ?_, fun u hu hd => ?_, fun u hu hd => ?_, fun u hu hd => ?_, fun u hu hd => ?_, fun u hu hd => ?_, fun u hu hd => ?_, fun u hu hd => ?_, fun u hu hd => ?_, fun u hu hd => ?_, trivial⟩
  all_goals try simp only [Act.put, zq]
  · go_simp
    exact zEr
  · have e0 : f 0 = _ := hd 0 (by kernel_rfl)
    go_simp
    exact zEr
  · have e1 : f 1 = _ := hd 1 (by kernel_rfl)
    have q := ext_cell (zEt (Ext.drew w3) hu) b0
    go_simp
    exact zEr
  · have e2 : f 2 = _ := hd 2 (by kernel_rfl)
    go_simp
    refine (bytes_any _ lo hi key u (HK3.out.below (zEt (Ext.drew w3) hu) HZ3.out.2) (zNt HZ3.out.2 (zEt (Ext.drew w3) hu).size) (zNt HKL.out (by decide))).mono ?_
    rintro x w9 ⟨v, rfl, hown, hb9⟩
    exact ⟨v, rfl, hb9, ownsRow_base hown (zNt HZ3.out.1 (zEt (Ext.drew w3) hu).size)⟩
  · go_simp
    exact zEr
  · have e4 : f 4 = _ := hd 4 (by kernel_rfl)
    go_simp
    exact zEr
  · have e5 : f 5 = _ := hd 5 (by kernel_rfl)
    have q := ext_cell (zEt (Ext.drew w3) hu) b1
    go_simp
    exact zEr
  · have e6 : f 6 = _ := hd 6 (by kernel_rfl)
    go_simp
    exact zEr
  · have e7 : f 7 = _ := hd 7 (by kernel_rfl)
    go_simp
    refine (number_any n HN.out u).mono ?_
    rintro x w9 ⟨v, rfl, hown, hb9⟩
    exact ⟨v, rfl, hb9, ownsRow_base hown (zNt HZ3.out.1 (zEt (Ext.drew w3) hu).size)⟩
  · go_simp
    exact zEr
  · have e9 : f 9 = _ := hd 9 (by kernel_rfl)
    have q := ext_cell (zEt (Ext.drew w3) hu) b4
    go_simp
    exact zEr
  · have e10 : f 10 = _ := hd 10 (by kernel_rfl)
    go_simp
    exact zEr
  · have e11 : f 11 = _ := hd 11 (by kernel_rfl)
    go_simp
    refine (number_any b HS.out u).mono ?_
    rintro x w9 ⟨v, rfl, hown, hb9⟩
    exact ⟨v, rfl, hb9, ownsRow_base hown (zNt HZ3.out.1 (zEt (Ext.drew w3) hu).size)⟩
  · go_simp
    exact zEr
  · have e13 : f 13 = _ := hd 13 (by kernel_rfl)
    have q := ext_cell (zEt (Ext.drew w3) hu) b5
    go_simp
    exact zEr
  · have e14 : f 14 = _ := hd 14 (by kernel_rfl)
    go_simp
    exact zEr
  · have e15 : f 15 = _ := hd 15 (by kernel_rfl)
    go_simp
    refine (number_any z HD.out u).mono ?_
    rintro x w9 ⟨v, rfl, hown, hb9⟩
    exact ⟨v, rfl, hb9, ownsRow_base hown (zNt HZ3.out.1 (zEt (Ext.drew w3) hu).size)⟩
  · have h3 : Own w.heap.size (bytesForm key) (f 3) u := hd 3 (by kernel_rfl)
    have h8 : Own w.heap.size (form n) (f 8) u := hd 8 (by kernel_rfl)
    have h12 : Own w.heap.size (form b) (f 12) u := hd 12 (by kernel_rfl)
    have h16 : Own w.heap.size (form z) (f 16) u := hd 16 (by kernel_rfl)
    have hx0 := zHd h3.bs
    have hx1 := zHd h8.bs
    have hx2 := zHd h12.bs
    have hx3 := zHd h16.bs
    obtain ⟨v3, e3⟩ : ∃ v, v = f 3 := ⟨_, rfl⟩
    obtain ⟨v8, e8⟩ : ∃ v, v = f 8 := ⟨_, rfl⟩
    obtain ⟨v12, e12⟩ : ∃ v, v = f 12 := ⟨_, rfl⟩
    obtain ⟨v16, e16⟩ : ∃ v, v = f 16 := ⟨_, rfl⟩
    rw [← e3] at hx0 h3 ⊢
    rw [← e8] at hx1 h8 ⊢
    rw [← e12] at hx2 h12 ⊢
    rw [← e16] at hx3 h16 ⊢
    obtain ⟨A3', c3', rfl⟩ := h3.slice
    obtain ⟨A8', c8', rfl⟩ := h8.slice
    obtain ⟨A12', c12', rfl⟩ := h12.slice
    obtain ⟨A16', c16', rfl⟩ := h16.slice
    have hr := zHd (rws_lit u [.slice A3' (bytesForm key).length c3', .slice A8' (form n).length c8', .slice A12' (form b).length c12', .slice A16' (form z).length c16'] [bytesForm key, form n, form b, form z] 4 rfl rfl (fun i v l hv hl => by
     match i with
     | 0 => simp at hv hl; subst hv hl; exact ⟨_, _, hx0.out, zNr _⟩
     | 1 => simp at hv hl; subst hv hl; exact ⟨_, _, hx1.out, zNr _⟩
     | 2 => simp at hv hl; subst hv hl; exact ⟨_, _, hx2.out, zNr _⟩
     | 3 => simp at hv hl; subst hv hl; exact ⟨_, _, hx3.out, zNr _⟩
     | i + 4 => simp at hv))
    clear h3 e3 h8 e8 h12 e12 h16 e16
    go_simp
    exact ⟨below_new _ _, hr.out⟩
  · obtain ⟨hn, g1, h, e16, hh, x, hr⟩ := (show Rws 4 [bytesForm key, form n, form b, form z] (f 17) u from hd 17 (by kernel_rfl))
    have HR := zHd hr
    clear hr hn
    go_simp
    refine (join_any (some ⟨g1, 0, none⟩) 4 0 h x _ u HR.out hh (by simp [maxLen]) (by simp) (by rw [← HF3.out]; have := HFL.out; omega) 4 rfl).mono ?_
    rintro x w9 ⟨v, rfl, hown, hb9⟩
    rw [← HF3.out] at hown
    exact ⟨v, rfl, hb9, ownsRow_base hown (zNt HZ3.out.1 (zEt (Ext.drew w3) hu).size)⟩
  · have H17 := zHd (show Own w.heap.size F3 (f 18) u from hd 18 (by kernel_rfl))
    go_simp
    exact ⟨Ext.refl _, H17.out⟩
end Go.Proofs.YtkdidghfcfcpfaaGreat
namespace Go.Proofs.YtkdidghfcfcpfaaGreat
open Go.ChangeShapes Go.WideShapes Go.ChangeAt Go.RowKit
structure Pl where
 key : List Nat
 n : Nat
 b : Nat
 z : Nat
abbrev PHd := Option Addr × Nat
def Pl.form (p : Pl) : List Nat := plf p.key p.n p.b p.z
def Pl.ok (p : Pl) : Prop := p.key.length ≤ 32 ∧ p.n ≤ 9223372036854775807 ∧ p.b ≤ 9223372036854775807 ∧ p.z ≤ 9223372036854775807
theorem Pl.form_len (p : Pl) (h : p.ok) : p.form.length ≤ 72 := plf_len h.1 ⟨by have := h.2.1; omega⟩ ⟨by have := h.2.2.1; omega⟩ ⟨by have := h.2.2.2; omega⟩
def pcells (p : Pl × PHd) : List Value := [.slice p.2.1 p.1.key.length p.2.2, .int .i64 (p.1.n : Int), .int .i64 0, .slice none 0 0, .int .i64 (p.1.b : Int), .int .i64 (p.1.z : Int)]
def prow (L : List (Pl × PHd)) : List Value := L.flatMap pcells
theorem pcells_length (p : Pl × PHd) : (pcells p).length = 6 := rfl
theorem prow_length (L : List (Pl × PHd)) : (prow L).length = L.length * 6 := by
 unfold prow
 induction L with
 | nil => rfl
 | cons a l ih => rw [List.flatMap_cons, List.length_append, ih, pcells_length, List.length_cons]; omega
theorem prow_append (L R : List (Pl × PHd)) : prow (L ++ R) = prow L ++ prow R := by simp [prow]
theorem prow_at (L : List (Pl × PHd)) {k j : Nat} (hk : k < L.length) (hj : j < 6) : (prow L)[k * 6 + j]? = (pcells L[k])[j]? := by
 unfold prow
 induction L generalizing k with
 | nil => simp at hk
 | cons a l ih =>
  rw [List.flatMap_cons]
  cases k with
  | zero => rw [List.getElem?_append_left (by rw [pcells_length]; omega)]; simp
  | succ k =>
   rw [List.getElem?_append_right (by rw [pcells_length]; omega), pcells_length, show (k + 1) * 6 + j - 6 = k * 6 + j by omega]
   simpa using ih (k := k) (by simpa using hk)
theorem prow_one (L : List (Pl × PHd)) : ∀ u ∈ prow L, u.oneCell' = true := by
 intro u hu
 unfold prow at hu
 obtain ⟨p, _, h⟩ := List.mem_flatMap.1 hu
 simp only [pcells, List.mem_cons, List.not_mem_nil, or_false] at h
 rcases h with rfl | rfl | rfl | rfl | rfl | rfl <;> rfl
def PEm (w : World) (lo hi : Nat) (p : Pl × PHd) : Prop := Bs w lo hi (.slice p.2.1 p.1.key.length p.2.2) p.1.key
theorem PEm.below {w w' : World} {lo hi B : Nat} {p : Pl × PHd} (h : PEm w lo hi p) (hb : Below B w w') (hB : hi ≤ B) : PEm w' lo hi p := Bs.below h hb hB
structure Ps (w : World) (lo hi : Nat) (A : Option Addr) (L : List (Pl × PHd)) : Prop where
 outer : Sl w lo hi A (prow L)
 each : ∀ p ∈ L, PEm w lo hi p
theorem Ps.below {w w' : World} {lo hi B : Nat} {A : Option Addr} {L : List (Pl × PHd)} (h : Ps w lo hi A L) (hb : Below B w w') (hB : hi ≤ B) : Ps w' lo hi A L := ⟨h.outer.below hb hB, fun p hp => (h.each p hp).below hb hB⟩
theorem Ps.wide {w : World} {lo hi lo' hi' : Nat} {A : Option Addr} {L : List (Pl × PHd)} (h : Ps w lo hi A L) (h1 : lo' ≤ lo) (h2 : hi ≤ hi') : Ps w lo' hi' A L := ⟨h.outer.wide h1 h2, fun p hp => Bs.wide (h.each p hp) h1 h2⟩
theorem Ps.base {w : World} {lo hi : Nat} {A : Option Addr} {L : List (Pl × PHd)} (h : Ps w lo hi A L) (h0 : 0 < L.length) : ∃ b o, A = some ⟨b, o, none⟩ := by
 obtain ⟨b, o, e, _⟩ := Sl.at_ h.outer (i := 0) (by rw [prow_length]; omega)
 exact ⟨b, o, e⟩
theorem Ps.get {w : World} {lo hi b o : Nat} {L : List (Pl × PHd)} (h : Ps w lo hi (some ⟨b, o, none⟩) L) {k : Nat} {p : Pl × PHd} (hk : L[k]? = some p) :
    w.cell? ⟨b, o + k * 6, none⟩ = some (.slice p.2.1 p.1.key.length p.2.2) ∧ w.cell? ⟨b, o + k * 6 + 1, none⟩ = some (.int .i64 (p.1.n : Int)) ∧ w.cell? ⟨b, o + k * 6 + 2, none⟩ = some (.int .i64 0) ∧
     w.cell? ⟨b, o + k * 6 + 3, none⟩ = some (.slice none 0 0) ∧ w.cell? ⟨b, o + k * 6 + 4, none⟩ = some (.int .i64 (p.1.b : Int)) ∧ w.cell? ⟨b, o + k * 6 + 5, none⟩ = some (.int .i64 (p.1.z : Int)) := by
 obtain ⟨hlt, rfl⟩ := zLg.1 hk
 have hc : ∀ j u, (prow L)[j]? = some u → w.cell? ⟨b, o + j, none⟩ = some u := by
  rcases h.outer with h0 | ⟨b', o', he, _, _, hc⟩
  · have := congrArg List.length h0
    rw [prow_length] at this
    simp at this; omega
  · injection he with he
    injection he with e1 e2
    subst e1 e2
    exact hc
 have hj := fun (j : Nat) (hj : j < 6) (u : Value) (hu : (pcells L[k])[j]? = some u) => hc (k * 6 + j) u ((prow_at L hlt hj).trans hu)
 refine ⟨hj 0 (by decide) _ rfl, ?_, ?_, ?_, ?_, ?_⟩
 · rw [Nat.add_assoc]; exact hj 1 (by decide) _ rfl
 · rw [Nat.add_assoc]; exact hj 2 (by decide) _ rfl
 · rw [Nat.add_assoc]; exact hj 3 (by decide) _ rfl
 · rw [Nat.add_assoc]; exact hj 4 (by decide) _ rfl
 · rw [Nat.add_assoc]; exact hj 5 (by decide) _ rfl
def pf (ps : List Pl) : List Nat := (ps.map Pl.form).flatten
def pform (ps : List Pl) : List Nat := form ps.length ++ pf ps
def ppre (ps : List Pl) (k : Nat) : List Nat := form ps.length ++ pf (ps.take k)
theorem ppre_zero (es : List Pl) : ppre es 0 = form es.length := by simp [ppre, pf]
theorem ppre_all (es : List Pl) : ppre es es.length = pform es := by simp [ppre, pform]
theorem ppre_succ {es : List Pl} {k : Nat} {e : Pl} (h : es[k]? = some e) : ppre es (k + 1) = ppre es k ++ e.form := by
 obtain ⟨hlt, rfl⟩ := zLg.1 h
 unfold ppre pf
 rw [List.take_succ_eq_append_getElem hlt, List.map_append, List.flatten_append, List.append_assoc]
 simp
theorem ppre_len {es : List Pl} (hm : ∀ e ∈ es, e.ok) (hl : es.length ≤ 10000000) : ∀ k, k ≤ es.length → (ppre es k).length ≤ 10 + 72 * k
 | 0, _ => by rw [ppre_zero]; have := form_len64 (n := es.length) ⟨by omega⟩; omega
 | k + 1, h => by
  have h1 := ppre_len hm hl k (by omega)
  have hk : es[k]? = some es[k] := List.getElem?_eq_getElem (by omega)
  have h2 := es[k].form_len (hm es[k] (List.getElem_mem (by omega)))
  rw [ppre_succ hk, List.length_append]; omega
theorem putp_nil (w : World) : (binOp .eql 92 (.func (.func 104) #[] #[]) .nilFunc).run Tryz.prog w = .ok (.bool false) w := by kernel_rfl
theorem enters_pform : ∀ args w, (callFunc 104 args).run Tryz.prog w = .ok (.enter 104 args) w := enters_of Tryz.func104 (by kernel_rfl) rfl
set_option maxRecDepth 100000 in
set_option maxHeartbeats 4000000 in
theorem putp_any {w : World} {lo hi : Nat} {A : Option Addr} {c : Nat} {L : List (Pl × PHd)} (h : Ps w lo hi A L) (hhi : hi ≤ w.heap.size) (hlen : L.length ≤ 10000000) (hmay : ∀ p ∈ L.map Prod.fst, p.ok) :
    Calls Tryz.prog 103 #[.slice A L.length c, .func (.func 104) #[] #[]] w fun x w' => ∃ v, x = .returned (.tuple #[v, .int .i64 0]) ∧ Own w.heap.size (pform (L.map Prod.fst)) v w' ∧ Ext w w' := by
 have HE := zHd h
 have HHI := zHd hhi
 have HL := zHd hlen
 have HM := zHd hmay
 have h64 : U64 L.length := ⟨by omega⟩
 have hfn := putp_nil
 have hw1 : IntKind.u64.wrap (L.length : Int) = (L.length : Int) := by rw [IntKind.wrap_u64]; omega
 obtain ⟨es, hes⟩ : ∃ es, es = L.map Prod.fst := ⟨_, rfl⟩
 have HES := zHd hes
 have HLE : Hid (es.length = L.length) := by rw [hes]; simp [Hid]
 rw [← hes] at HM ⊢
 have HPL := zHd (ppre_len HM.out (by rw [HLE.out]; exact hlen))
 clear h hhi hmay hes
 go_enter Tryz.func103, Tryz.ntmps103
 go_wp2_with fail
 refine (number_any _ h64 _).mono ?_
 rintro x w1 ⟨v1, rfl, hown1, hb1⟩
 have HO1 : Hid (Own w.heap.size (ppre es 0) v1 w1) := by rw [ppre_zero, HLE.out]; exact hown1
 have HX1 := zHd hb1
 clear hown1 hb1
 go_wp2_with fail
 go_loopw [6, 8, 17] (fun v _ i wr => ∃ k : Nat, k ≤ L.length ∧ i = .int .i64 (k : Int) ∧ Hid (Own w.heap.size (ppre es k) v wr) ∧ Hid (Ext w wr)) (fun _ _ i _ => L.length - (intOf i).toNat)
 case atStart => exact ⟨0, Nat.zero_le _, rfl, HO1, HX1⟩
 case round =>
  obtain ⟨k, hk, rfl, HO, HX⟩ := hrel
  by_cases hlt : k < L.length
  · have d : decide ((k : Int) < (L.length : Int)) = true := decide_eq_true (by omega)
    have dn : decide (k < L.length) = true := decide_eq_true hlt
    obtain ⟨b, o, hA⟩ := HE.out.base (by omega)
    subst hA
    obtain ⟨p, hp⟩ : ∃ p, L[k]? = some p := ⟨_, List.getElem?_eq_getElem hlt⟩
    obtain ⟨c0, c1, c2, c3, c4, c5⟩ := (HE.out.below HX.out HHI.out).get hp
    have hpe : es[k]? = some p.1 := by rw [HES.out, List.getElem?_map, hp]; rfl
    have HPE := zHd hpe
    have HPM : Hid p.1.ok := HM.out _ (List.mem_of_getElem? hpe)
    have HEM : Hid (PEm wr lo hi p) := (HE.out.below HX.out HHI.out).each p (List.mem_of_getElem? hp)
    have n1 : (0 : Int) ≤ (k : Int) := by omega
    have n2 : (k : Int) < (L.length : Int) := by omega
    have hw2 : wrap64 ((k : Int) + 1) = ((k + 1 : Nat) : Int) := by unfold wrap64; omega
    clear hp hpe
    go_upto_region 7 with (fail)
    obtain ⟨w4, hw4⟩ : ∃ w4, w4 = wr.alloc (.cells #[.slice p.2.1 p.1.key.length p.2.2, .int .i64 (p.1.n : Int), .int .i64 0, .slice none 0 0, .int .i64 (p.1.b : Int), .int .i64 (p.1.z : Int)] 90) := ⟨_, rfl⟩
    rw [← hw4]
    have HX4 : Hid (Ext wr w4) := by rw [hw4]; exact ext_alloc _ _
    have HB4 : Hid (w4.heap[wr.heap.size]? = some (.cells #[.slice p.2.1 p.1.key.length p.2.2, .int .i64 (p.1.n : Int), .int .i64 0, .slice none 0 0, .int .i64 (p.1.b : Int), .int .i64 (p.1.z : Int)] 90 (0, 0))) := by rw [hw4]; exact heap_at _ _ rfl
    have HL1 := zHd (pform_any (HEM.out.below HX4.out (zNt HHI.out HX.out.size)) (zNt (zNt HHI.out HX.out.size) HX4.out.size) HPM.out.1 HPM.out.2.1 HPM.out.2.2.1 HPM.out.2.2.2)
    have HO4 := zHd (HO.out.below HX4.out)
    clear hw4 c0 c1 c2 c3 c4 c5
    have c0 := cell_of HB4.out (k := 0) rfl
    have c1 := cell_of HB4.out (k := 1) rfl
    have c2 := cell_of HB4.out (k := 2) rfl
    have c3 := cell_of HB4.out (k := 3) rfl
    have c4 := cell_of HB4.out (k := 4) rfl
    have c5 := cell_of HB4.out (k := 5) rfl
    have hen := enters_pform
    go_wp2_with fail
    refine HL1.out.mono ?_
    rintro x w5 ⟨v5, rfl, hown5, hx5⟩
    have HX5 : Hid (Ext w w5) := zEt HX.out (zEt HX4.out hx5)
    have HO5 := zHd (HO4.out.below hx5)
    have HB5 : Hid (Bs w5 0 w5.heap.size v5 (p.1.form)) := Own.bs (show Own w4.heap.size _ v5 w5 from hown5)
    have HLN : Hid ((ppre es k).length + (p.1.form).length ≤ 1099511627776) := by
     have h1 := HPL.out k (by rw [HLE.out]; omega)
     have h2 := p.1.form_len HPM.out
     unfold Hid; omega
    clear hown5 hx5 c0 c1 c2 c3 c4 c5 hen
    go_wp2_with (at_builtin; refine wpList_addbytes rfl (.tmp 21) (.tmp 24) rfl w.heap.size _ _ rfl HO5.out _ _ _ _ rfl HB5.out HLN.out HX5.out.size ?_)
    intro A6 c6 w6 ho6 hb6
    rw [← ppre_succ HPE.out] at ho6
    have HX6 : Hid (Ext w w6) := hb6 w HX5.out
    have HO6 := zHd ho6
    clear ho6 hb6
    go_wp2_with fail
    go_roundw
    case rel => exact ⟨k + 1, by omega, by go_num, HO6, HX6⟩
    case measure => simp [intOf]; omega
  · have d : decide ((k : Int) < (L.length : Int)) = false := decide_eq_false (by omega)
    have dn : decide (k < L.length) = false := decide_eq_false hlt
    have HF : Hid (Own w.heap.size (pform es) u6 wr) := by
     have h := HO.out
     have hk2 : k = es.length := by rw [HLE.out]; omega
     rw [hk2, ppre_all] at h
     exact h
    clear hlt hk HO
    go_wp2_with fail
    go_ret2
    exact ⟨u6, rfl, HF.out, HX.out⟩
end Go.Proofs.YtkdidghfcfcpfaaGreat
namespace Go.Proofs.YtkdidghfcfcpfaaGreat.Bl
open Go.ChangeShapes Go.WideShapes Go.ChangeAt Go.RowKit
theorem and_one (m : Nat) (h : m < 4294967296) : bits .and .u32 (m : Int) 1 = ((m % 2 : Nat) : Int) := by
 have := u32_and_nat m 1 h (by omega)
 rw [nat_mask1] at this
 exact this
theorem and_all (p : Nat) (h : p < 4294967296) : bits .and .u32 (p : Int) 4294967295 = (p : Int) := by
 have := u32_and_nat p 4294967295 h (by omega)
 rw [show p &&& 4294967295 = p % 4294967296 from Nat.and_two_pow_sub_one_eq_mod p 32, Nat.mod_eq_of_lt h] at this
 exact this
theorem and_none (p : Nat) (h : p < 4294967296) : bits .and .u32 (p : Int) 0 = 0 := by
 have := u32_and_nat p 0 h (by omega)
 simpa using this
theorem and_mask (p m : Nat) (hp : p < 4294967296) (h : m < 4294967296) : bits .and .u32 (p : Int) (-bits .and .u32 (m : Int) 1 % 4294967296) = ((m % 2 * p : Nat) : Int) := by
 rw [and_one m h]
 rcases Nat.mod_two_eq_zero_or_one m with k | k
 · rw [k]; simpa using and_none p hp
 · rw [k]; simpa using and_all p hp
theorem xor_u32 {a b : Nat} (h : a < 4294967296) (k : b < 4294967296) : bits .xor .u32 (a : Int) (b : Int) = ((a ^^^ b : Nat) : Int) := u32_xor_nat a b h k
theorem sh_bits {m : Nat} (h : m < 4294967296) : bits .xor .u32 ((m : Int) / 2) (bits .and .u32 2197175160 (-bits .and .u32 (m : Int) 1 % 4294967296)) = (sh m : Nat) := by
 have e := and_mask 2197175160 m (by omega) h
 have e1 : ((2197175160 : Nat) : Int) = 2197175160 := rfl
 rw [e1] at e
 have e2 : ((m / 2 : Nat) : Int) = (m : Int) / 2 := by omega
 have hb : m % 2 * 2197175160 < 4294967296 := by omega
 rw [e, ← e2, xor_u32 (by omega) hb]
 rfl
theorem shifted_any (s n : Nat) (hs : s < 4294967296) (hn : n ≤ 100) (w : World) :
    Calls Tryz.prog 161 #[.int .u32 (s : Int), .int .i64 (n : Int)] w fun e w' => e = .returned (.int .u32 (shn n s : Nat)) ∧ w = w' := by
 have HS := zHd hs
 clear hs
 go_enter Tryz.func161, Tryz.ntmps161
 go_wp2_with fail
 go_loop [0, 7] (fun x i => ∃ (k m : Nat), k ≤ n ∧ i = .int .i64 (k : Int) ∧ x = .int .u32 (m : Int) ∧ Hid (m = shn k s)) (fun _ i => n - (intOf i).toNat)
 case atStart => exact ⟨0, s, Nat.zero_le _, rfl, rfl, zHd rfl⟩
 case round =>
  obtain ⟨k, m, hk, rfl, rfl, hm⟩ := hrel
  have e := zHd (sh_bits (m := m) (by rw [hm.out]; exact shn_lt HS.out))
  by_cases hlt : k < n
  · go_wp2_with fail
    go_round
    case rel => exact ⟨k + 1, sh m, by omega, by go_num, by rw [e.out], zHd (by rw [hm.out, shn_succ'])⟩
    case measure => simp [intOf]; omega
  · go_wp2_with fail
    go_ret
    obtain rfl : k = n := by omega
    exact ⟨by rw [hm.out]; rfl, rfl⟩
end Go.Proofs.YtkdidghfcfcpfaaGreat.Bl
namespace Go.Proofs.YtkdidghfcfcpfaaGreat.Bl
open Go.ChangeShapes Go.WideShapes Go.ChangeAt Go.RowKit
def rowv (l : List Nat) : Array Value := (l.map fun n : Nat => Value.int .u32 (n : Int)).toArray
theorem rowv_size (l : List Nat) : (rowv l).size = l.length := by simp [rowv]
theorem rowv_one (l : List Nat) : (rowv l).all (·.oneCell') = true := by
 simp only [rowv, List.all_toArray, List.all_eq_true, List.mem_map]
 rintro x ⟨n, _, rfl⟩
 rfl
theorem rowv_get (l : List Nat) (i : Nat) (h : i < l.length) : (rowv l)[i]? = some (.int .u32 (l[i] : Int)) := by simp [rowv, List.getElem?_eq_getElem h]
theorem rowv_set (l : List Nat) (i x : Nat) : (rowv l).setIfInBounds i (.int .u32 (x : Int)) = rowv (l.set i x) := by simp [rowv, List.map_set]
def Arr (w : World) (b : Nat) (t : TypeId) (l : List Nat) : Prop := w.heap[b]? = some (.cells (rowv l) t (0, 0))
theorem Arr.cell {w : World} {b : Nat} {t : TypeId} {l : List Nat} (h : Arr w b t l) (i : Nat) (hi : i < l.length) : w.cell? ⟨b, i, none⟩ = some (.int .u32 (l[i] : Int)) := by
 rw [cell_of_row w b i _ t _ h, rowv_get l i hi]
theorem Arr.free {w : World} {b : Nat} {t : TypeId} {l : List Nat} (h : Arr w b t l) (i : Nat) : w.frozen? ⟨b, i, none⟩ = false := frozen_of_row w b i _ t h
theorem Arr.set {w : World} {b : Nat} {t : TypeId} {l : List Nat} (h : Arr w b t l) (i x : Nat) : Arr (w.setCell ⟨b, i, none⟩ (.int .u32 (x : Int))) b t (l.set i x) := by
 unfold Arr
 rw [heap_setCell_same w b i _ t _ h, rowv_set]
theorem Arr.far {w : World} {b : Nat} {t : TypeId} {l : List Nat} (h : Arr w b t l) {p : Addr} (hp : b ≠ p.block) (u : Value) : Arr (w.setCell p u) b t l := by
 unfold Arr
 rw [heap_setCell_other w p b u hp]; exact h
theorem Arr.below {w w' : World} {b B : Nat} {t : TypeId} {l : List Nat} (h : Arr w b t l) (hb : Below B w w') (hlt : b < B) : Arr w' b t l := by
 unfold Arr
 rw [hb.block b hlt]; exact h
def part (f : Nat → Nat) (n k : Nat) : List Nat := (List.range n).map fun i => if i < k then f i else 0
theorem part_length (f : Nat → Nat) (n k : Nat) : (part f n k).length = n := by simp [part]
theorem part_set (f : Nat → Nat) (n k : Nat) : (part f n k).set k (f k) = part f n (k + 1) := by
 apply List.ext_getElem
 · simp [part]
 · intro i h1 h2
   rw [List.getElem_set]
   simp only [part, List.getElem_map, List.getElem_range]
   split
   · rename_i h; subst h; simp
   · rename_i h
     by_cases h3 : i < k
     · simp [h3, show i < k + 1 by omega]
     · simp [h3, show ¬ i < k + 1 by omega]
theorem part_all (f : Nat → Nat) (n : Nat) : part f n n = (List.range n).map f := by
 unfold part
 apply List.map_congr_left
 intro i hi
 simp at hi
 simp [hi]
theorem words_get (f : Nat → Nat) (n i : Nat) (h : i < ((List.range n).map f).length) : ((List.range n).map f)[i] = f i := by simp
theorem below_set {B : Nat} {w0 w : World} (h : Below B w0 w) {b : Nat} (hb : B ≤ b) (i : Nat) (u : Value) : Below B w0 (w.setCell ⟨b, i, none⟩ u) := h.setCell hb u
theorem Arr.setRow {w : World} {b : Nat} {t : TypeId} {l : List Nat} (h : Arr w b t l) (r : List Nat) : Arr (w.setRow b (rowv r)) b t r := setRow_heap w b _ _ t (0, 0) h
theorem below_row {B : Nat} {w0 w : World} (h : Below B w0 w) {g : Nat} (hb : B ≤ g) (r : Array Value) : Below B w0 (w.setRow g r) :=
 h.trans ⟨rfl, rfl, rfl, by simp, fun k hk => setRow_other w g k r (by omega)⟩
theorem info16 : (Tryz.prog.info? 168).map (·.size) = some 16 := by kernel_rfl
theorem sixteen (f : Nat → Nat) : (rowv (part f 16 0)) = #[.int .u32 0, .int .u32 0, .int .u32 0, .int .u32 0, .int .u32 0, .int .u32 0, .int .u32 0, .int .u32 0, .int .u32 0, .int .u32 0, .int .u32 0, .int .u32 0, .int .u32 0, .int .u32 0, .int .u32 0, .int .u32 0] := by
 simp [part, rowv, List.range_succ]
theorem table_any (w : World) : Calls Tryz.prog 145 #[] w fun e w' => e = .returned (.agg (rowv ((List.range 16).map (shn 4)))) ∧ Below w.heap.size w w' := by
 have H0 := zHd (sixteen (shn 4))
 go_enter Tryz.func145, Tryz.ntmps145
 go_wp2_with fail
 rw [← H0.out]
 go_loopw [3] (fun i wr => ∃ k : Nat, k ≤ 16 ∧ i = .int .i64 (k : Int) ∧ Arr wr w.heap.size 168 (part (shn 4) 16 0) ∧ Arr wr (w.heap.size + 1) 168 (part (shn 4) 16 k) ∧ Below w.heap.size w wr) (fun i _ => 16 - (intOf i).toNat)
 case atStart =>
  refine ⟨0, by omega, rfl, ?_, ?_, ?_⟩
  · exact heap_alloc2_old _ _ _
  · exact heap_alloc2_new _ _ _
  · exact ((Below.refl _ _).alloc (zNr _) _).alloc (by simp) _
 case round =>
  obtain ⟨k, hk, rfl, ha, hc, hb⟩ := hrel
  have HA := zHd ha
  have HC := zHd hc
  have HB := zHd hb
  by_cases hlt : k < 16
  · have hcell := hc.cell k (by rw [part_length]; exact hlt)
    have hfree := hc.free k
    clear ha hc hb
    go_wp2_with fail
    refine (shifted_any k 4 (by omega) (by omega) _).mono ?_
    rintro e w1 ⟨rfl, rfl⟩
    go_wp2_with fail
    go_roundw
    case rel =>
     refine ⟨k + 1, by omega, by go_num, HA.out.far (by simp) _, ?_, below_set HB.out (by omega) _ _⟩
     have := HC.out.set k (shn 4 k)
     rw [part_set] at this
     exact this
    case measure => simp [intOf]; omega
  · clear ha hc hb
    obtain rfl : k = 16 := by omega
    go_wp2_with (first | (refine wpList_load_row rfl 168 (.tmp 1) rfl (w.heap.size + 1) rfl 168 _ (0, 0) _ HC.out Tryz.underlying168 rfl info16 ?_) | (refine wpList_store_row rfl 168 (.tmp 0) (.tmp 12) rfl w.heap.size (rowv (part (shn 4) 16 16)) rfl rfl 168 _ HA.out info16 (by simp [rowv_size, part_length]) (rowv_one _) ?_))
    have HR := HA.out.setRow (part (shn 4) 16 16)
    refine bodyPost_ret (v := .agg (rowv (part (shn 4) 16 16))) (results_cell_row Tryz.results145 _ _ w.heap.size 168 _ (0, 0) _ rfl HR Tryz.underlying168 rfl (by simp [rowv_size, part_length, info16])) rfl ⟨by rw [part_all], below_row HB.out (zNr _) _⟩
end Go.Proofs.YtkdidghfcfcpfaaGreat.Bl
