import Derived.Test.YthhgjeeangepaaaGreatMw3
import Derived.Test.YthhgjeeangepaaaGreatMw2
import Derived.Test.YthhgjeeangepaaaGreatMw1
import Derived.WalkLawsBesides
import Derived.Test.YthhgjeeangepaaaGreatMw0
namespace Go.Proofs.YthhgjeeangepaaaGreat.Bl
def bsize (n : Nat) : Nat := (n / 8 + 1) * 8
theorem bsize_pos (n : Nat) : 8 ≤ bsize n := by unfold bsize; omega
theorem bsize_mod (n : Nat) : bsize n % 8 = 0 := by unfold bsize; omega
theorem bsize_le {n : Nat} (h : n ≤ 65536) : bsize n ≤ 65544 := by unfold bsize; omega
def way (l : List Nat) : Nat := crc (l ++ [1]) ||| 1
def kb (l : List Nat) (m i : Nat) : Nat := (crc l + i * way l) % 4294967296 % m
def kbs (l : List Nat) (m : Nat) : List Nat := [kb l m 0, kb l m 1, kb l m 2, kb l m 3, kb l m 4]
theorem kbs_length (l : List Nat) (m : Nat) : (kbs l m).length = 5 := rfl
theorem kbs_get (l : List Nat) (m i : Nat) (h : i < (kbs l m).length) : (kbs l m)[i] = kb l m i := by
  have h' : i < 5 := h
  match i, h' with
  | 0, _ => rfl
  | 1, _ => rfl
  | 2, _ => rfl
  | 3, _ => rfl
  | 4, _ => rfl
theorem kb_lt {l : List Nat} {m i : Nat} (h : 0 < m) : kb l m i < m := Nat.mod_lt _ h
theorem kbs_lt {l : List Nat} {m j : Nat} (h : 0 < m) (hj : j ∈ kbs l m) : j < m := by
  unfold kbs at hj
  simp only [List.mem_cons, List.not_mem_nil, or_false] at hj
  rcases hj with rfl | rfl | rfl | rfl | rfl <;> exact kb_lt h
theorem or_lt {a b : Nat} (h : a < 4294967296) (k : b < 4294967296) : a ||| b < 4294967296 := Nat.or_lt_two_pow (n := 32) h k
def bitOf (F : List Nat) (j : Nat) : Bool := F.getD (j / 8) 0 / 2 ^ (j % 8) % 2 == 1
def setB (F : List Nat) (j : Nat) : List Nat := F.set (j / 8) (F.getD (j / 8) 0 ||| 2 ^ (j % 8))
def addK (F l : List Nat) : List Nat := (kbs l (8 * F.length)).foldl setB F
def mk (ls : List (List Nat)) : List Nat := ls.foldl addK (List.replicate (bsize ls.length) 0)
def okF (n : Nat) : Bool := decide (n ≠ 0 ∧ n % 8 = 0 ∧ n ≤ 131072)
def mayB (F l : List Nat) : Bool := (kbs l (8 * F.length)).all (bitOf F)
theorem setB_length (F : List Nat) (j : Nat) : (setB F j).length = F.length := by simp [setB]
theorem setBs_length (js F : List Nat) : (js.foldl setB F).length = F.length := by
  induction js generalizing F with
  | nil => rfl
  | cons j js ih => rw [List.foldl_cons, ih, setB_length]
theorem addK_length (F l : List Nat) : (addK F l).length = F.length := setBs_length _ _
theorem addKs_length (ls : List (List Nat)) (F : List Nat) : (ls.foldl addK F).length = F.length := by
  induction ls generalizing F with
  | nil => rfl
  | cons l ls ih => rw [List.foldl_cons, ih, addK_length]
theorem mk_length (ls : List (List Nat)) : (mk ls).length = bsize ls.length := by unfold mk; rw [addKs_length, List.length_replicate]
theorem byte_or : ∀ x, x < 256 → ∀ k, k < 8 → x ||| 2 ^ k < 256 := by decide +kernel
theorem byte_and : ∀ x, x < 256 → ∀ k, k < 8 → (x &&& 2 ^ k == 0) = !(x / 2 ^ k % 2 == 1) := by decide +kernel
theorem getD_lt {F : List Nat} (h : ∀ x ∈ F, x < 256) (i : Nat) : F.getD i 0 < 256 := by
  rcases Nat.lt_or_ge i F.length with hi | hi
  · rw [List.getD_eq_getElem?_getD, List.getElem?_eq_getElem hi]; exact h _ (List.getElem_mem hi)
  · rw [List.getD_eq_getElem?_getD, List.getElem?_eq_none hi]; decide
theorem setB_lt {F : List Nat} (h : ∀ x ∈ F, x < 256) (j : Nat) : ∀ x ∈ setB F j, x < 256 := by
  intro x hx
  unfold setB at hx
  rcases List.mem_or_eq_of_mem_set hx with hx | rfl
  · exact h x hx
  · exact byte_or _ (getD_lt h _) _ (Nat.mod_lt _ (by decide))
theorem setBs_lt {js F : List Nat} (h : ∀ x ∈ F, x < 256) : ∀ x ∈ js.foldl setB F, x < 256 := by
  induction js generalizing F with
  | nil => exact h
  | cons j js ih => exact ih (setB_lt h j)
theorem addK_lt {F : List Nat} (h : ∀ x ∈ F, x < 256) (l : List Nat) : ∀ x ∈ addK F l, x < 256 := setBs_lt h
theorem addKs_lt {ls : List (List Nat)} {F : List Nat} (h : ∀ x ∈ F, x < 256) : ∀ x ∈ ls.foldl addK F, x < 256 := by
  induction ls generalizing F with
  | nil => exact h
  | cons l ls ih => exact ih (addK_lt h l)
theorem zeros_lt (n : Nat) : ∀ x ∈ List.replicate n 0, x < 256 := fun x hx => by rw [List.mem_replicate] at hx; omega
theorem mk_lt (ls : List (List Nat)) : ∀ x ∈ mk ls, x < 256 := addKs_lt (zeros_lt _)
theorem testBit_bit (x k : Nat) : (x / 2 ^ k % 2 == 1) = x.testBit k := by
  rw [Nat.testBit_eq_decide_div_mod_eq]
  rfl
theorem bitOf_test (F : List Nat) (j : Nat) : bitOf F j = (F.getD (j / 8) 0).testBit (j % 8) := testBit_bit _ _
theorem bitOf_setB (F : List Nat) (i j : Nat) (hi : i < 8 * F.length) : bitOf (setB F i) j = (bitOf F j || decide (i = j)) := by
  rw [bitOf_test, bitOf_test]
  unfold setB
  have hb : i / 8 < F.length := by omega
  by_cases h : i / 8 = j / 8
  · rw [← h]
    rw [List.getD_eq_getElem?_getD, List.getElem?_set_self hb, Option.getD_some, Nat.testBit_or, Nat.testBit_two_pow]
    congr 1
    rw [decide_eq_decide]
    omega
  · rw [List.getD_eq_getElem?_getD, List.getElem?_set_ne h, ← List.getD_eq_getElem?_getD]
    have : ¬ i = j := fun e => h (by rw [e])
    simp [this]
theorem bitOf_setBs (js F : List Nat) (j : Nat) (hj : ∀ i ∈ js, i < 8 * F.length) : bitOf (js.foldl setB F) j = (bitOf F j || js.contains j) := by
  induction js generalizing F with
  | nil => simp
  | cons i js ih =>
    rw [List.foldl_cons, ih (setB F i) (fun k hk => by rw [setB_length]; exact hj k (by simp [hk])), bitOf_setB F i j (hj i (by simp)), Bool.or_assoc]
    congr 1
    rw [List.contains_cons]
    by_cases h : i = j
    · simp [h]
    · simp [h, Ne.symm h]
theorem bitOf_addK (F l : List Nat) (j : Nat) (h : 0 < F.length) : bitOf (addK F l) j = (bitOf F j || (kbs l (8 * F.length)).contains j) :=
  bitOf_setBs _ _ _ fun _ hi => kbs_lt (by omega) hi
theorem bitOf_addKs (ls : List (List Nat)) (F : List Nat) (j : Nat) (h : 0 < F.length) : bitOf (ls.foldl addK F) j = (bitOf F j || ls.any fun l => (kbs l (8 * F.length)).contains j) := by
  induction ls generalizing F with
  | nil => simp
  | cons l ls ih => rw [List.foldl_cons, ih (addK F l) (by rw [addK_length]; exact h), bitOf_addK F l j h, addK_length, List.any_cons, Bool.or_assoc]
theorem may_added {ls : List (List Nat)} {F l : List Nat} (h : 0 < F.length) (hl : l ∈ ls) : mayB (ls.foldl addK F) l = true := by
  unfold mayB
  rw [List.all_eq_true, addKs_length]
  intro j hj
  rw [bitOf_addKs ls F j h, Bool.or_eq_true]
  right
  rw [List.any_eq_true]
  exact ⟨l, hl, by simpa using hj⟩
theorem may_mk {ls : List (List Nat)} {l : List Nat} (hl : l ∈ ls) : mayB (mk ls) l = true :=
  may_added (by rw [List.length_replicate]; have := bsize_pos ls.length; omega) hl
def pop (b : Nat) : Nat := (List.range 8).countP fun k => b / 2 ^ k % 2 == 1
def cnt (F : List Nat) : Nat := (F.map pop).sum
theorem crc_more (l : List Nat) : more (crc l) [1] = crc (l ++ [1]) := by
  unfold crc more
  rw [reg_append, Nat.xor_assoc, Nat.xor_self, Nat.xor_zero]
end Go.Proofs.YthhgjeeangepaaaGreat.Bl
namespace Go.Proofs.YthhgjeeangepaaaGreat
open Bl (crc mk)
def Piece (p : List Ent) : Prop := p ≠ [] ∧ ∀ m, 1 ≤ m → m < p.length → (wr (p.take (m + 1))).length ≤ 512
def Link (p : List Ent) (e : Ent) : Prop := 512 < (wr (p ++ [e])).length
def Cuts : List (List Ent) → Prop
  | [] => True
  | p :: C => Piece p ∧ (∀ q C', C = q :: C' → ∃ e q', q = e :: q' ∧ Link p e) ∧ Cuts C
theorem piece_short {p p' : List Ent} {e : Ent} {F : List Ent} (hl : Link p e) (h' : Piece p') (hp : p ≠ []) (hlt : p.length < p'.length) (he : ∃ F', p' ++ F' = p ++ e :: F) : False := by
  obtain ⟨F', he⟩ := he
  have h1 := h'.2 p.length (by cases p with | nil => exact absurd rfl hp | cons a l => simp) hlt
  have e1 : p'.take (p.length + 1) = p ++ [e] := by
    have h2 := congrArg (List.take (p.length + 1)) he
    rw [List.take_append_of_le_length (by omega)] at h2
    rw [h2, List.take_append, List.take_of_length_le (by omega), show p.length + 1 - p.length = 1 by omega]; rfl
  rw [e1] at h1
  unfold Link at hl
  omega
theorem cut_unique : ∀ {C C' : List (List Ent)}, Cuts C → Cuts C' → C.flatten = C'.flatten → C = C'
  | [], [], _, _, _ => rfl
  | [], p :: C', _, h', e => by
    have := h'.1.1
    cases p with
    | nil => exact absurd rfl this
    | cons a l => simp at e
  | p :: C, [], h, _, e => by
    have := h.1.1
    cases p with
    | nil => exact absurd rfl this
    | cons a l => simp at e
  | p :: C, p' :: C', h, h', e => by
    have side : ∀ {p p' : List Ent} {C C' : List (List Ent)}, Cuts (p :: C) → Cuts (p' :: C') → p ++ C.flatten = p' ++ C'.flatten → p.length < p'.length → False := by
      intro p p' C C' h h' e hlt
      cases C with
      | nil =>
        have := congrArg List.length e
        simp at this; omega
      | cons q C2 =>
        obtain ⟨a, q', rfl, hl⟩ := h.2.1 q C2 rfl
        exact piece_short hl h'.1 h.1.1 hlt ⟨C'.flatten, by rw [← e]; simp [List.flatten_cons]; rfl⟩
    simp only [List.flatten_cons] at e
    have hn : p.length = p'.length := by
      rcases Nat.lt_trichotomy p.length p'.length with h1 | h1 | h1
      · exact (side h h' e h1).elim
      · exact h1
      · exact (side h' h e.symm h1).elim
    obtain ⟨e1, e2⟩ := List.append_inj e hn
    rw [e1, cut_unique h.2.2 h'.2.2 e2]
theorem cuts_piece : ∀ {C : List (List Ent)}, Cuts C → ∀ p ∈ C, Piece p
  | [], _, _, hp => by cases hp
  | p :: C, h, q, hq => by
    rcases List.mem_cons.1 hq with rfl | hq
    · exact h.1
    · exact cuts_piece h.2.2 q hq
theorem tcuts_len : ∀ {C : List (List Ent)}, Cuts C → C.length ≤ C.flatten.length
  | [], _ => Nat.le_refl _
  | p :: C, h => by
    have h1 := tcuts_len h.2.2
    have h2 : 0 < p.length := List.length_pos_iff.2 h.1.1
    simp only [List.flatten_cons, List.length_append, List.length_cons]; omega
def MayT (L : List Ent) : Prop := 1 ≤ L.length ∧ L.length ≤ 4096 ∧ Rise L ∧ ∀ e ∈ L, e.may = true
def idx1 (p : List Ent) (at_ n : Nat) : List Nat := ((p.getLast?).map fun e => bytesForm e.key ++ (form e.seq.toNat ++ (form at_ ++ form n))).getD []
def idxs : Nat → List (List Ent) → List Nat
  | _, [] => []
  | a, p :: C => idx1 p a (wr p).length ++ idxs (a + (wr p).length) C
def blks (C : List (List Ent)) : List Nat := C.flatMap wr
def index (C : List (List Ent)) : List Nat := form C.length ++ idxs 0 C
def keyAt (L : List Ent) (i : Nat) : List (List Nat) := ((L[i]?).map fun e => if i = 0 ∨ (L[i - 1]?).map Ent.key ≠ some e.key then [e.key] else []).getD []
def keysTo (L : List Ent) (k : Nat) : List (List Nat) := (List.range k).flatMap (keyAt L)
def keysT (L : List Ent) : List (List Nat) := keysTo L L.length
def ahd (C : List (List Ent)) (L : List Ent) : List Nat := blks C ++ (index C ++ mk (keysT L))
def foot24 (C : List (List Ent)) (L : List Ent) : List Nat := be4 (blks C).length ++ (be4 (index C).length ++ (be4 ((blks C).length + (index C).length) ++ (be4 (mk (keysT L)).length ++ (be4 L.length ++ be4 (crc (ahd C L))))))
def tb (C : List (List Ent)) (L : List Ent) : List Nat := ahd C L ++ (foot24 C L ++ be4 (crc (foot24 C L)))
def IsT (b : List Nat) (L : List Ent) : Prop := MayT L ∧ ∃ C, C.flatten = L ∧ Cuts C ∧ tb C L = b
theorem foot24_len (C : List (List Ent)) (L : List Ent) : (foot24 C L).length = 24 := by unfold foot24; simp [be4_length]
theorem tb_len (C : List (List Ent)) (L : List Ent) : (tb C L).length = (ahd C L).length + 28 := by unfold tb; rw [List.length_append, List.length_append, foot24_len, be4_length]
theorem keysTo_succ (L : List Ent) (k : Nat) : keysTo L (k + 1) = keysTo L k ++ keyAt L k := by
  unfold keysTo; rw [List.range_succ, List.flatMap_append]; simp
theorem keyAt_mem {L : List Ent} {i : Nat} {k : List Nat} (h : k ∈ keyAt L i) : ∃ e ∈ L, e.key = k := by
  unfold keyAt at h
  cases he : L[i]? with
  | none => rw [he] at h; cases h
  | some e =>
    rw [he] at h
    simp only [Option.map_some, Option.getD_some] at h
    split at h
    · rw [List.mem_singleton] at h; exact ⟨e, List.mem_of_getElem? he, h.symm⟩
    · cases h
theorem keysTo_mem {L : List Ent} {n : Nat} {k : List Nat} (h : k ∈ keysTo L n) : ∃ e ∈ L, e.key = k := by
  unfold keysTo at h
  obtain ⟨i, _, hi⟩ := List.mem_flatMap.1 h
  exact keyAt_mem hi
theorem keyAt_len (L : List Ent) (i : Nat) : (keyAt L i).length ≤ 1 := by
  unfold keyAt
  cases L[i]? with
  | none => simp
  | some e => simp only [Option.map_some, Option.getD_some]; split <;> simp
theorem keysTo_len (L : List Ent) (k : Nat) : (keysTo L k).length ≤ k := by
  induction k with
  | zero => exact Nat.le_refl _
  | succ k ih => rw [keysTo_succ, List.length_append]; have := keyAt_len L k; omega
theorem keysTo_has {L : List Ent} : ∀ {i n : Nat} {e : Ent}, L[i]? = some e → i < n → e.key ∈ keysTo L n := by
  intro i
  induction i with
  | zero =>
    intro n e he hn
    exact List.mem_flatMap.2 ⟨0, List.mem_range.2 hn, by
      unfold keyAt
      rw [he]
      simp only [Option.map_some, Option.getD_some]
      rw [if_pos (Or.inl trivial)]
      exact List.mem_singleton.2 rfl⟩
  | succ i ih =>
    intro n e he hn
    by_cases h : (L[i]?).map Ent.key = some e.key
    · cases hi : L[i]? with
      | none => rw [hi] at h; cases h
      | some e' =>
        rw [hi] at h
        injection h with h
        rw [← h]
        exact ih hi (by omega)
    · exact List.mem_flatMap.2 ⟨i + 1, List.mem_range.2 hn, by
        unfold keyAt
        rw [he]
        simp only [Option.map_some, Option.getD_some, Nat.add_sub_cancel]
        rw [if_pos (.inr h)]
        exact List.mem_singleton.2 rfl⟩
theorem wr_pos (p : List Ent) : 4 ≤ (wr p).length := by rw [wr_len]; omega
theorem wr_most {p : List Ent} (hm : ∀ e ∈ p, e.may = true) : (wr p).length ≤ 65701 * p.length + 8 := by
  have h1 := upto_le hm p.length
  have h2 := ats_len p p.length
  rw [wr_len]; omega
theorem blks_most : ∀ {C : List (List Ent)}, Cuts C → (∀ e ∈ C.flatten, e.may = true) → (blks C).length ≤ 65709 * C.flatten.length
  | [], _, _ => Nat.le_refl _
  | p :: C, h, hm => by
    have h1 := blks_most h.2.2 (fun e he => hm e (by rw [List.flatten_cons]; exact List.mem_append_right _ he))
    have h2 := wr_most (p := p) (fun e he => hm e (by rw [List.flatten_cons]; exact List.mem_append_left _ he))
    have h3 : 0 < p.length := List.length_pos_iff.2 h.1.1
    unfold blks at h1 ⊢
    simp only [List.flatMap_cons, List.flatten_cons, List.length_append]
    omega
theorem idx1_most {p : List Ent} {a n : Nat} (hm : ∀ e ∈ p, e.may = true) (ha : a < 1000000000000) (hn : n < 1000000000000) : (idx1 p a n).length ≤ 72 := by
  unfold idx1
  cases h : p.getLast? with
  | none => simp
  | some e =>
    obtain ⟨u1, u2, u3, u4⟩ := Ent.may_u64 (hm e (List.mem_of_getLast? h))
    obtain ⟨h1, h2, h3, h4, h5⟩ := mayN_iff.1 (hm e (List.mem_of_getLast? h))
    have a1 := (bytesForm_len u1).1
    have a2 := form_len64 u2
    have a3 := form_len64 (n := a) ⟨by omega⟩
    have a4 := form_len64 (n := n) ⟨by omega⟩
    simp only [Option.map_some, Option.getD_some, List.length_append]
    omega
theorem idxs_most : ∀ {C : List (List Ent)} {a : Nat}, Cuts C → (∀ e ∈ C.flatten, e.may = true) → a + (blks C).length < 1000000000000 → (idxs a C).length ≤ 72 * C.length
  | [], _, _, _, _ => Nat.le_refl _
  | p :: C, a, h, hm, hb => by
    unfold blks at hb
    simp only [List.flatMap_cons, List.length_append] at hb
    have h1 := idxs_most (a := a + (wr p).length) h.2.2 (fun e he => hm e (by rw [List.flatten_cons]; exact List.mem_append_right _ he)) (by unfold blks; omega)
    have h2 := idx1_most (p := p) (a := a) (n := (wr p).length) (fun e he => hm e (by rw [List.flatten_cons]; exact List.mem_append_left _ he)) (by omega) (by omega)
    unfold idxs
    simp only [List.length_append, List.length_cons]
    omega
structure Few (C : List (List Ent)) (L : List Ent) : Prop where
  b : (blks C).length ≤ 269144064
  c : C.length ≤ 4096
  i : (index C).length ≤ 294922
  f : (mk (keysT L)).length ≤ 65544
  a : (ahd C L).length ≤ 300000000
theorem few {C : List (List Ent)} {L : List Ent} (h : MayT L) (hc : Cuts C) (hf : C.flatten = L) : Few C L := by
  have h1 := blks_most hc (fun e he => h.2.2.2 e (hf ▸ he))
  have h2 := tcuts_len hc
  rw [hf] at h1 h2
  have h3 := h.2.1
  have h4 := idxs_most (a := 0) hc (fun e he => h.2.2.2 e (hf ▸ he)) (by omega)
  have h5 := form_len64 (n := C.length) ⟨by omega⟩
  have h6 : (mk (keysT L)).length ≤ 65544 := by
    rw [Bl.mk_length]
    exact Bl.bsize_le (Nat.le_trans (keysTo_len L L.length) (by omega))
  have h7 : (index C).length ≤ 294922 := by unfold index; rw [List.length_append]; omega
  exact ⟨by omega, by omega, h7, h6, by unfold ahd; rw [List.length_append, List.length_append]; omega⟩
theorem kform_zero {ah : List Nat} {e : Ent} {r r' : List Nat} (h : e.may = true) (he : kform ah e ++ r = 0 :: 0 :: r') : False := by
  obtain ⟨h1, h2, h3, h4, h5⟩ := mayN_iff.1 h
  have hs := shr_le_r ah e.key
  unfold kform at he
  rw [form_lo (show shr ah e.key < 128 by omega)] at he
  simp only [List.append_assoc, List.cons_append, List.nil_append] at he
  injection he with e1 e2
  unfold bytesForm at e2
  rw [e1, List.drop_zero, form_lo (show e.key.length < 128 by omega)] at e2
  simp only [List.cons_append, List.nil_append] at e2
  injection e2 with e3 _
  omega
def tailB (L : List Ent) : List Nat := (ats L L.length).flatMap be4 ++ be4 (ats L L.length).length
theorem tailB_zero {L : List Ent} (h : 1 ≤ L.length) : ∃ r, tailB L = 0 :: 0 :: r := by
  have h1 := ats_get L L.length 0 (by omega)
  unfold tailB
  cases ha : ats L L.length with
  | nil => rw [ha] at h1; cases h1
  | cons a l =>
    rw [ha] at h1
    have h2 : a = 0 := by simpa [upto_zero] using h1
    subst h2
    exact ⟨_, rfl⟩
theorem wr_split (L : List Ent) : wr L = fromK L 0 ++ tailB L := by rw [fromK_zero]; rfl
theorem cut_at {L M : List Ent} {R R' : List Nat} (h : MayB L) (k : MayB M) (he : wr L ++ R = wr M ++ R') : ∀ n, n ≤ L.length → n ≤ M.length ∧ L.take n = M.take n ∧ fromK L n ++ (tailB L ++ R) = fromK M n ++ (tailB M ++ R') := by
  intro n
  induction n with
  | zero =>
    intro _
    refine ⟨Nat.zero_le _, rfl, ?_⟩
    rw [wr_split, wr_split, List.append_assoc, List.append_assoc] at he
    exact he
  | succ n ih =>
    intro hn
    obtain ⟨h1, h2, h3⟩ := ih (by omega)
    have hk : n < L.length := by omega
    have hah : ahOf L n = ahOf M n := by
      unfold ahOf
      split
      · rfl
      · have e1 : L[n - 1]? = (L.take n)[n - 1]? := by rw [List.getElem?_take, if_pos (by omega)]
        have e2 : M[n - 1]? = (M.take n)[n - 1]? := by rw [List.getElem?_take, if_pos (by omega)]
        rw [e1, e2, h2]
    have hm : n < M.length := by
      rcases Nat.lt_or_ge n M.length with hx | hx
      · exact hx
      · exfalso
        obtain ⟨r, hr⟩ := tailB_zero k.1
        rw [fromK_end M hx, fromK_at hk, piece_at (List.getElem?_eq_getElem hk), List.nil_append, hr, List.append_assoc] at h3
        exact kform_zero (h.2.2.2 _ (List.getElem_mem hk)) h3
    have h4 := h3
    rw [fromK_at hk, fromK_at hm, piece_at (List.getElem?_eq_getElem hk), piece_at (List.getElem?_eq_getElem hm), hah, List.append_assoc, List.append_assoc] at h4
    have s1 := stands_kform (ah := ahOf M n) (h.2.2.2 _ (List.getElem_mem hk)) (fromK L (n + 1) ++ (tailB L ++ R))
    have s2 := stands_kform (ah := ahOf M n) (k.2.2.2 _ (List.getElem_mem hm)) (fromK M (n + 1) ++ (tailB M ++ R'))
    rw [h4] at s1
    obtain ⟨e1, e2⟩ := s1.unique s2
    refine ⟨hm, ?_, e2⟩
    rw [List.take_add_one, List.take_add_one, h2, List.getElem?_eq_getElem hk, List.getElem?_eq_getElem hm, e1]
theorem wr_cut {L M : List Ent} {R R' : List Nat} (h : MayB L) (k : MayB M) (he : wr L ++ R = wr M ++ R') : L = M ∧ R = R' := by
  obtain ⟨h1, h2, _⟩ := cut_at h k he L.length (Nat.le_refl _)
  obtain ⟨k1, _, _⟩ := cut_at k h he.symm M.length (Nat.le_refl _)
  have e : L.length = M.length := by omega
  rw [List.take_length, e, List.take_length] at h2
  subst h2
  exact ⟨rfl, List.append_cancel_left he⟩
theorem kform_four {ah : List Nat} {e : Ent} (h : e.may = true) : 4 ≤ (kform ah e).length := by
  obtain ⟨u1, u2, u3, u4⟩ := Ent.may_u64 h
  have := form_pos (shr ah e.key)
  have := form_pos e.seq.toNat
  have := form_pos e.kind.toNat
  have h2 : 0 < (bytesForm (e.key.drop (shr ah e.key))).length := by
    have := form_pos (e.key.drop (shr ah e.key)).length
    unfold bytesForm; rw [List.length_append]; omega
  unfold kform
  simp only [List.length_append]
  omega
theorem upto_four {L : List Ent} (hm : ∀ e ∈ L, e.may = true) (k : Nat) (hk : k ≤ L.length) : 4 * k ≤ (upto L k).length := by
  induction k with
  | zero => exact Nat.zero_le _
  | succ k ih =>
    have := ih (by omega)
    rw [upto_succ, List.length_append, piece_at (List.getElem?_eq_getElem (show k < L.length by omega))]
    have := kform_four (ah := ahOf L k) (hm _ (List.getElem_mem (show k < L.length by omega)))
    omega
theorem piece_few {p : List Ent} (h : Piece p) (hm : ∀ e ∈ p, e.may = true) : p.length ≤ 128 := by
  rcases Nat.lt_or_ge 1 p.length with h1 | h1
  · have h2 := h.2 (p.length - 1) (by omega) (by omega)
    rw [show p.length - 1 + 1 = p.length by omega, List.take_length, wr_len] at h2
    have := upto_four hm p.length (Nat.le_refl _)
    omega
  · omega
theorem rise_part {L A B D : List Ent} (h : Rise L) (he : L = A ++ (B ++ D)) : Rise B := by
  subst he
  intro j a b ha hb
  have hj : j < B.length := (List.getElem?_eq_some_iff.1 ha).1
  have hj1 : j + 1 < B.length := (List.getElem?_eq_some_iff.1 hb).1
  refine h (A.length + j) a b ?_ ?_
  · rw [List.getElem?_append_right (by omega), show A.length + j - A.length = j by omega, List.getElem?_append_left hj]; exact ha
  · rw [List.getElem?_append_right (by omega), show A.length + j + 1 - A.length = j + 1 by omega, List.getElem?_append_left hj1]; exact hb
theorem pieces_mayB {C : List (List Ent)} (hr : Rise C.flatten) (hm : ∀ e ∈ C.flatten, e.may = true) (hc : Cuts C) : ∀ p ∈ C, MayB p := by
  intro p hp
  obtain ⟨A, B, rfl⟩ := List.append_of_mem hp
  have hmp : ∀ e ∈ p, e.may = true := fun e he => hm e (List.mem_flatten.2 ⟨p, hp, he⟩)
  have h1 := cuts_piece hc p hp
  have h2 := piece_few h1 hmp
  have h3 : 0 < p.length := List.length_pos_iff.2 h1.1
  refine ⟨by omega, by omega, ?_, hmp⟩
  exact rise_part (A := A.flatten) (D := B.flatten) hr (by simp)
theorem wr_head {p : List Ent} (h : MayB p) : ∃ r, wr p = 0 :: r := by
  have hl := h.1
  rw [wr_split, fromK_at (by omega), piece_at (List.getElem?_eq_getElem (by omega))]
  unfold kform
  have : ahOf p 0 = [] := rfl
  rw [this, shr_nil, form_lo (by omega)]
  exact ⟨_, rfl⟩
theorem blks_cut : ∀ {C C' : List (List Ent)} {a a' : Nat} {R R' : List Nat}, (∀ p ∈ C, MayB p) → (∀ p ∈ C', MayB p) → a ≠ 0 → a' ≠ 0 → blks C ++ a :: R = blks C' ++ a' :: R' → C = C' ∧ a :: R = a' :: R'
  | [], [], _, _, _, _, _, _, _, _, h => ⟨rfl, h⟩
  | [], p :: C', _, _, _, _, _, h', ha, _, h => by
    obtain ⟨r, hr⟩ := wr_head (h' p (List.mem_cons_self ..))
    unfold blks at h
    rw [List.flatMap_cons, hr] at h
    injection h with h _
    exact absurd h ha
  | p :: C, [], _, _, _, _, h', _, _, ha, h => by
    obtain ⟨r, hr⟩ := wr_head (h' p (List.mem_cons_self ..))
    unfold blks at h
    rw [List.flatMap_cons, hr] at h
    injection h with h _
    exact absurd h.symm ha
  | p :: C, p' :: C', _, _, _, _, h1, h2, ha, ha', h => by
    unfold blks at h
    rw [List.flatMap_cons, List.flatMap_cons, List.append_assoc, List.append_assoc] at h
    obtain ⟨rfl, h4⟩ := wr_cut (h1 p (List.mem_cons_self ..)) (h2 p' (List.mem_cons_self ..)) h
    obtain ⟨rfl, h3⟩ := blks_cut (fun q hq => h1 q (List.mem_cons_of_mem _ hq)) (fun q hq => h2 q (List.mem_cons_of_mem _ hq)) ha ha' h4
    exact ⟨rfl, h3⟩
theorem form_head {n : Nat} (h : n ≠ 0) : ∃ a r, form n = a :: r ∧ a ≠ 0 := by
  by_cases hn : n < 128
  · exact ⟨n, [], form_lo hn, h⟩
  · exact ⟨_, _, form_hi hn, by omega⟩
theorem tb_cut {C C' : List (List Ent)} {L L' : List Ent} {more : List Nat} (h : MayT L) (h' : MayT L') (hc : Cuts C) (hc' : Cuts C') (hf : C.flatten = L) (hf' : C'.flatten = L') (he : tb C L ++ more = tb C' L') : C = C' ∧ L = L' ∧ more = [] := by
  have hn : C.length ≠ 0 := fun e => by
    have := List.eq_nil_of_length_eq_zero e
    subst this; subst hf
    have := h.1; simp at this
  have hn' : C'.length ≠ 0 := fun e => by
    have := List.eq_nil_of_length_eq_zero e
    subst this; subst hf'
    have := h'.1; simp at this
  obtain ⟨a, r, ha, ha0⟩ := form_head hn
  obtain ⟨a', r', ha', ha0'⟩ := form_head hn'
  have hm := pieces_mayB (hf ▸ h.2.2.1) (hf ▸ h.2.2.2) hc
  have hm' := pieces_mayB (hf' ▸ h'.2.2.1) (hf' ▸ h'.2.2.2) hc'
  have he2 := he
  unfold tb ahd index at he2
  rw [ha, ha'] at he2
  simp only [List.append_assoc, List.cons_append] at he2
  obtain ⟨e1, _⟩ := blks_cut hm hm' ha0 ha0' he2
  subst e1
  have e2 : L = L' := hf.symm.trans hf'
  subst e2
  refine ⟨rfl, rfl, ?_⟩
  have := congrArg List.length he
  rw [List.length_append] at this
  exact List.eq_nil_of_length_eq_zero (by omega)
theorem IsT.unique {b : List Nat} {L M : List Ent} (h : IsT b L) (k : IsT b M) : L = M := by
  obtain ⟨h1, C, h2, h3, h4⟩ := h
  obtain ⟨k1, D, k2, k3, k4⟩ := k
  exact (tb_cut (more := []) h1 k1 h3 k3 h2 k2 (by rw [List.append_nil, h4, k4])).2.1
end Go.Proofs.YthhgjeeangepaaaGreat
namespace Go.Proofs.YthhgjeeangepaaaGreat
open Go.ChangeShapes Go.WideShapes Go.ChangeAt Go.RowKit
def bent (i : Nat) : Ent := ⟨[107], 5000 - (i : Int), 2, []⟩
def bents (n : Nat) : List Ent := (List.range n).map bent
theorem bents_len (n : Nat) : (bents n).length = n := by simp [bents]
theorem bents_succ (n : Nat) : bents (n + 1) = bents n ++ [bent n] := by unfold bents; rw [List.range_succ, List.map_append]; rfl
theorem bents_take (m n : Nat) (h : m ≤ n) : (bents n).take m = bents m := by
  unfold bents; rw [← List.map_take, List.take_range, Nat.min_eq_left h]
theorem bents_at {n j : Nat} {a : Ent} (h : (bents n)[j]? = some a) : j < n ∧ a = bent j := by
  have h1 := (List.getElem?_eq_some_iff.1 h).1
  rw [bents_len] at h1
  unfold bents at h
  rw [List.getElem?_map, List.getElem?_range h1] at h
  simp at h
  exact ⟨h1, h.symm⟩
theorem bents_may {n : Nat} (h1 : 1 ≤ n) (h2 : n ≤ 4096) : MayT (bents n) := by
  refine ⟨by rw [bents_len]; exact h1, by rw [bents_len]; exact h2, fun j a b ha hb => ?_, fun e he => ?_⟩
  · obtain ⟨h3, rfl⟩ := bents_at ha
    obtain ⟨h4, rfl⟩ := bents_at hb
    unfold cmpE bent
    have e : cmpK [107] [107] = 0 := by decide
    simp only [e, if_true]
    unfold cmpS
    split <;> first | omega | (split <;> omega)
  · obtain ⟨i, hi⟩ := List.mem_iff_getElem?.1 he
    obtain ⟨h3, rfl⟩ := bents_at hi
    exact mayN_iff.2 ⟨by show 1 ≤ [107].length; decide, by show [107].length ≤ 32; decide, by show 1 ≤ 5000 - (i : Int); omega, by show 5000 - (i : Int) ≤ 2147483647; omega, .inr ⟨rfl, rfl⟩⟩
def bea : Ent := ⟨[97], 1, 1, List.replicate 2000 0⟩
def beb : Ent := ⟨[98], 1, 1, [118]⟩
def bec : Ent := ⟨[99], 1, 1, [118]⟩
theorem babc_may : MayT [bea, beb, bec] := by
  refine ⟨by decide, by decide, ?_, ?_⟩
  · intro j a b ha hb
    rcases j with _ | _ | j
    · simp at ha hb; subst ha hb; decide
    · simp at ha hb; subst ha hb; decide
    · simp at hb
  · intro e he
    simp only [List.mem_cons, List.not_mem_nil, or_false] at he
    rcases he with rfl | rfl | rfl
    · exact mayN_iff.2 ⟨by decide, by decide, by decide, by decide, .inl ⟨rfl, by show (List.replicate 2000 0).length ≤ 65536; rw [List.length_replicate]; decide⟩⟩
    · decide
    · decide
theorem babc_link : Link [bea] beb := by unfold Link; decide +kernel
theorem babc_cuts : Cuts [[bea], [beb, bec]] := by
  refine ⟨⟨by simp, fun m h1 h2 => by simp at h2; omega⟩, fun q C' h => ?_, ⟨by simp, fun m h1 h2 => ?_⟩, fun q C' h => ?_, trivial⟩
  · injection h with h3 h4
    exact ⟨beb, [bec], h3.symm, babc_link⟩
  · obtain rfl : m = 1 := by simp at h2; omega
    decide +kernel
  · cases h
end Go.Proofs.YthhgjeeangepaaaGreat
namespace Go.Proofs.YthhgjeeangepaaaGreat
open Go.ChangeShapes Go.WideShapes Go.ChangeAt Go.RowKit
theorem shr_go {a b : List Nat} {n : Nat} (hn : a.take n = b.take n) (h1 : n < a.length) (h2 : n < b.length) (h : a[n] = b[n]) : a.take (n + 1) = b.take (n + 1) := by
  rw [List.take_succ_eq_append_getElem h1, List.take_succ_eq_append_getElem h2, hn, h]
theorem wrap_succ {n : Nat} (h : n < 1000000000000) : wrap64 ((n : Int) + 1) = ((n + 1 : Nat) : Int) := by unfold wrap64; omega
set_option maxRecDepth 100000 in
set_option maxHeartbeats 4000000 in
theorem shared_any {w : World} {lo hi lo2 hi2 : Nat} {u v : Value} {a b : List Nat} (hu : Bs w lo hi u a) (hv : Bs w lo2 hi2 v b) (hhi : hi ≤ w.heap.size) (hhi2 : hi2 ≤ w.heap.size) (ha : a.length ≤ 1000000000000) (hb : b.length ≤ 1000000000000) :
    Calls Tryz.prog 157 #[u, v] w fun e w' => e = .returned (.int .i64 (shr a b : Int)) ∧ Ext w w' := by
  obtain ⟨A, c, rfl, _, _, _, hA⟩ := hu
  obtain ⟨B, c2, rfl, _, _, _, hB⟩ := hv
  have HA := Lib.hid hA
  have HB := Lib.hid hB
  have HH := Lib.hid (And.intro hhi hhi2)
  have HL := Lib.hid (And.intro ha hb)
  clear hA hB hhi hhi2 ha hb
  go_enter Tryz.func157, Tryz.ntmps157
  go_wp2_with fail
  go_loopw [5] (fun x wr => ∃ n : Nat, n ≤ a.length ∧ n ≤ b.length ∧ x = .int .i64 (n : Int) ∧ Hid (a.take n = b.take n) ∧ Hid (Ext w wr)) (fun x _ => a.length - (intOf x).toNat)
  case atStart => exact ⟨0, Nat.zero_le _, Nat.zero_le _, rfl, rfl, Ext.refl _⟩
  case round =>
    obtain ⟨n, hn1, hn2, rfl, HT, HX⟩ := hrel
    obtain ⟨m, hm⟩ : ∃ m : Int, m = min (a.length : Int) (b.length : Int) := ⟨_, rfl⟩
    by_cases hlt : n < a.length ∧ n < b.length
    · obtain ⟨h1, h2⟩ := hlt
      obtain ⟨ab, ao, rfl, _, _, ca⟩ := (show By wr _ _ _ _ from Sl.below HA.out HX.out HH.out.1).at_ h1
      obtain ⟨bb, bo, rfl, _, _, cb⟩ := (show By wr _ _ _ _ from Sl.below HB.out HX.out HH.out.2).at_ h2
      obtain ⟨x, hx⟩ : ∃ x, x = a[n] := ⟨_, rfl⟩
      obtain ⟨y, hy⟩ : ∃ y, y = b[n] := ⟨_, rfl⟩
      rw [← hx] at ca
      rw [← hy] at cb
      have d1 : decide ((n : Int) < m) = true := by rw [decide_eq_true_eq, hm]; omega
      have n1 : (0 : Int) ≤ (n : Int) := by omega
      have n2 : (n : Int) < (a.length : Int) := by omega
      have n3 : (n : Int) < (b.length : Int) := by omega
      have HM := Lib.hid hm
      have HXY : Hid (a[n]? = some x ∧ b[n]? = some y) := ⟨by rw [hx]; exact List.getElem?_eq_getElem h1, by rw [hy]; exact List.getElem?_eq_getElem h2⟩
      have H12 := Lib.hid (And.intro h1 h2)
      have HN := Lib.hid (And.intro hn1 hn2)
      clear hm hx hy h1 h2 hn1 hn2
      go_upto_region 2 with (fail)
      by_cases hxy : x = y
      · have dxy : ((x : Int) == (y : Int)) = true := by simp [hxy]
        have HE := Lib.hid hxy
        clear hxy
        refine flow (by kernel_rfl) [Is (.int .i64 (n : Int)), Is (.slice (some ⟨ab, ao, none⟩) a.length c), Is (.int .i64 (a.length : Int)), Is (.slice (some ⟨bb, bo, none⟩) b.length c2), Is (.int .i64 (b.length : Int)), Is (.int .i64 m), Is (.bool true), Is (.bool true), Is (.slice (some ⟨ab, ao, none⟩) a.length c), Is (.int .i64 (n : Int)), Is (.pointer (some ⟨ab, ao + n, none⟩)), Is (.int .u8 (x : Int)), Is (.slice (some ⟨bb, bo, none⟩) b.length c2), Is (.int .i64 (n : Int)), Is (.pointer (some ⟨bb, bo + n, none⟩)), Is (.int .u8 (y : Int)), Is (.bool true), Is (.bool true)] (by kernel_rfl) (by kernel_rfl) ?mono (fun f1 => ?obl) ?fin
        case mono =>
          simp only [List.forall_mem_cons, List.not_mem_nil, false_imp_iff, implies_true, and_true]
          exact ⟨.is _, .is _, .is _, .is _, .is _, .is _, .is _, .is _, .is _, .is _, .is _, .is _, .is _, .is _, .is _, .is _, .is _, .is _⟩
        case fin =>
          intro g1 u hu hg
          simp only [puts, Act.put, zq1, zq2, zq3]
          have hxu := Ext.trans (Ext.drew wr) hu
          have HXU : Hid (Ext w u) := Ext.trans HX.out hxu
          have e17 : g1 17 = .bool true := hg 17 (by decide)
          rw [e17]
          clear hxu hu hg e17
          go_wp2_with fail
          go_roundw
          case rel =>
            have h1 := H12.out.1
            have h2 := H12.out.2
            exact ⟨n + 1, by omega, by omega, by rw [wrap_succ (Nat.lt_of_lt_of_le H12.out.1 HL.out.1)], shr_go HT.out h1 h2 (by have p := HXY.out.1; have q := HXY.out.2; rw [List.getElem?_eq_getElem h1] at p; rw [List.getElem?_eq_getElem h2] at q; injection p with p; injection q with q; rw [p, q]; exact HE.out), HXU⟩
          case measure => have := H12.out; rw [wrap_succ (Nat.lt_of_lt_of_le H12.out.1 HL.out.1)]; simp [intOf]; omega
        case obl =>
          refine ⟨fun u hu hd => ?_, ?_⟩
          · go_simp
            exact ⟨Ext.refl _, rfl⟩
          refine ⟨fun u hu hd => ?_, ?_⟩
          · simp only [Act.put, zq1, zq2, zq3]
            go_simp
            exact ⟨Ext.refl _, rfl⟩
          refine ⟨fun u hu hd => ?_, ?_⟩
          · simp only [Act.put, zq1, zq2, zq3]
            have e1 : f1 1 = .slice (some ⟨ab, ao, none⟩) a.length c := hd 1 (by kernel_rfl)
            go_simp
            exact ⟨Ext.refl _, rfl⟩
          refine ⟨fun u hu hd => ?_, ?_⟩
          · simp only [Act.put, zq1, zq2, zq3]
            go_simp
            exact ⟨Ext.refl _, rfl⟩
          refine ⟨fun u hu hd => ?_, ?_⟩
          · simp only [Act.put, zq1, zq2, zq3]
            have e3 : f1 3 = .slice (some ⟨bb, bo, none⟩) b.length c2 := hd 3 (by kernel_rfl)
            go_simp
            exact ⟨Ext.refl _, rfl⟩
          refine ⟨fun u hu hd => ?_, ?_⟩
          · simp only [Act.put, zq1, zq2, zq3]
            have e2 : f1 2 = .int .i64 (a.length : Int) := hd 2 (by kernel_rfl)
            have e4 : f1 4 = .int .i64 (b.length : Int) := hd 4 (by kernel_rfl)
            rw [HM.out]
            go_simp
            exact ⟨Ext.refl _, rfl⟩
          refine ⟨fun u hu hd => ?_, ?_⟩
          · simp only [Act.put, zq1, zq2, zq3]
            have e0 : f1 0 = .int .i64 (n : Int) := hd 0 (by kernel_rfl)
            have e5 : f1 5 = .int .i64 m := hd 5 (by kernel_rfl)
            go_simp
            exact ⟨Ext.refl _, rfl⟩
          refine ⟨fun u hu hd => ?_, ?_⟩
          · simp only [Act.put, zq1, zq2, zq3]
            have e6 : f1 6 = .bool true := hd 6 (by kernel_rfl)
            go_simp
            exact ⟨Ext.refl _, rfl⟩
          refine ⟨fun u hu hd => ?_, ?_⟩
          · simp only [Act.put, zq1, zq2, zq3]
            have e7 : f1 7 = .bool true := hd 7 (by kernel_rfl)
            go_simp
            exact ⟨Ext.refl _, rfl⟩
          refine ⟨fun u hu hd => ?_, ?_⟩
          · simp only [Act.put, zq1, zq2, zq3]
            have e7 : f1 7 = .bool true := hd 7 (by kernel_rfl)
            go_simp
            exact ⟨Ext.refl _, rfl⟩
          refine ⟨fun u hu hd => ?_, ?_⟩
          · simp only [Act.put, zq1, zq2, zq3]
            have e7 : f1 7 = .bool true := hd 7 (by kernel_rfl)
            have e8 : f1 8 = .slice (some ⟨ab, ao, none⟩) a.length c := hd 8 (by kernel_rfl)
            have e9 : f1 9 = .int .i64 (n : Int) := hd 9 (by kernel_rfl)
            go_simp
            exact ⟨Ext.refl _, rfl⟩
          refine ⟨fun u hu hd => ?_, ?_⟩
          · simp only [Act.put, zq1, zq2, zq3]
            have e7 : f1 7 = .bool true := hd 7 (by kernel_rfl)
            have e10 : f1 10 = .pointer (some ⟨ab, ao + n, none⟩) := hd 10 (by kernel_rfl)
            have hu2 := Ext.trans (Ext.drew wr) hu
            have q0 := ext_cell hu2 ca
            go_simp
            exact ⟨Ext.refl _, rfl⟩
          refine ⟨fun u hu hd => ?_, ?_⟩
          · simp only [Act.put, zq1, zq2, zq3]
            have e7 : f1 7 = .bool true := hd 7 (by kernel_rfl)
            go_simp
            exact ⟨Ext.refl _, rfl⟩
          refine ⟨fun u hu hd => ?_, ?_⟩
          · simp only [Act.put, zq1, zq2, zq3]
            have e7 : f1 7 = .bool true := hd 7 (by kernel_rfl)
            go_simp
            exact ⟨Ext.refl _, rfl⟩
          refine ⟨fun u hu hd => ?_, ?_⟩
          · simp only [Act.put, zq1, zq2, zq3]
            have e7 : f1 7 = .bool true := hd 7 (by kernel_rfl)
            have e12 : f1 12 = .slice (some ⟨bb, bo, none⟩) b.length c2 := hd 12 (by kernel_rfl)
            have e13 : f1 13 = .int .i64 (n : Int) := hd 13 (by kernel_rfl)
            go_simp
            exact ⟨Ext.refl _, rfl⟩
          refine ⟨fun u hu hd => ?_, ?_⟩
          · simp only [Act.put, zq1, zq2, zq3]
            have e7 : f1 7 = .bool true := hd 7 (by kernel_rfl)
            have e14 : f1 14 = .pointer (some ⟨bb, bo + n, none⟩) := hd 14 (by kernel_rfl)
            have hu2 := Ext.trans (Ext.drew wr) hu
            have q0 := ext_cell hu2 cb
            go_simp
            exact ⟨Ext.refl _, rfl⟩
          refine ⟨fun u hu hd => ?_, ?_⟩
          · simp only [Act.put, zq1, zq2, zq3]
            have e7 : f1 7 = .bool true := hd 7 (by kernel_rfl)
            have e11 : f1 11 = .int .u8 (x : Int) := hd 11 (by kernel_rfl)
            have e15 : f1 15 = .int .u8 (y : Int) := hd 15 (by kernel_rfl)
            go_simp
            exact ⟨Ext.refl _, rfl⟩
          refine ⟨fun u hu hd => ?_, ?_⟩
          · simp only [Act.put, zq1, zq2, zq3]
            have e7 : f1 7 = .bool true := hd 7 (by kernel_rfl)
            have e16 : f1 16 = .bool true := hd 16 (by kernel_rfl)
            go_simp
            exact ⟨Ext.refl _, rfl⟩
          trivial
      · have dxy : ((x : Int) == (y : Int)) = false := by simp; omega
        have HE := Lib.hid hxy
        clear hxy
        refine flow (by kernel_rfl) [Is (.int .i64 (n : Int)), Is (.slice (some ⟨ab, ao, none⟩) a.length c), Is (.int .i64 (a.length : Int)), Is (.slice (some ⟨bb, bo, none⟩) b.length c2), Is (.int .i64 (b.length : Int)), Is (.int .i64 m), Is (.bool true), Is (.bool true), Is (.slice (some ⟨ab, ao, none⟩) a.length c), Is (.int .i64 (n : Int)), Is (.pointer (some ⟨ab, ao + n, none⟩)), Is (.int .u8 (x : Int)), Is (.slice (some ⟨bb, bo, none⟩) b.length c2), Is (.int .i64 (n : Int)), Is (.pointer (some ⟨bb, bo + n, none⟩)), Is (.int .u8 (y : Int)), Is (.bool false), Is (.bool false)] (by kernel_rfl) (by kernel_rfl) ?mono (fun f1 => ?obl) ?fin
        case mono =>
          simp only [List.forall_mem_cons, List.not_mem_nil, false_imp_iff, implies_true, and_true]
          exact ⟨.is _, .is _, .is _, .is _, .is _, .is _, .is _, .is _, .is _, .is _, .is _, .is _, .is _, .is _, .is _, .is _, .is _, .is _⟩
        case fin =>
          intro g1 u hu hg
          simp only [puts, Act.put, zq1, zq2, zq3]
          have hxu := Ext.trans (Ext.drew wr) hu
          have HXU : Hid (Ext w u) := Ext.trans HX.out hxu
          have e17 : g1 17 = .bool false := hg 17 (by decide)
          rw [e17]
          clear hxu hu hg e17
          go_wp2_with fail
          go_ret
          have hs : shr a b = n := shr_is HN.out.1 HN.out.2 HT.out (fun p q hp hq => by
            rw [HXY.out.1] at hp
            rw [HXY.out.2] at hq
            injection hp with hp; injection hq with hq
            rw [← hp, ← hq]; exact HE.out)
          rw [hs]
          exact ⟨rfl, HXU.out⟩
        case obl =>
          refine ⟨fun u hu hd => ?_, ?_⟩
          · go_simp
            exact ⟨Ext.refl _, rfl⟩
          refine ⟨fun u hu hd => ?_, ?_⟩
          · simp only [Act.put, zq1, zq2, zq3]
            go_simp
            exact ⟨Ext.refl _, rfl⟩
          refine ⟨fun u hu hd => ?_, ?_⟩
          · simp only [Act.put, zq1, zq2, zq3]
            have e1 : f1 1 = .slice (some ⟨ab, ao, none⟩) a.length c := hd 1 (by kernel_rfl)
            go_simp
            exact ⟨Ext.refl _, rfl⟩
          refine ⟨fun u hu hd => ?_, ?_⟩
          · simp only [Act.put, zq1, zq2, zq3]
            go_simp
            exact ⟨Ext.refl _, rfl⟩
          refine ⟨fun u hu hd => ?_, ?_⟩
          · simp only [Act.put, zq1, zq2, zq3]
            have e3 : f1 3 = .slice (some ⟨bb, bo, none⟩) b.length c2 := hd 3 (by kernel_rfl)
            go_simp
            exact ⟨Ext.refl _, rfl⟩
          refine ⟨fun u hu hd => ?_, ?_⟩
          · simp only [Act.put, zq1, zq2, zq3]
            have e2 : f1 2 = .int .i64 (a.length : Int) := hd 2 (by kernel_rfl)
            have e4 : f1 4 = .int .i64 (b.length : Int) := hd 4 (by kernel_rfl)
            rw [HM.out]
            go_simp
            exact ⟨Ext.refl _, rfl⟩
          refine ⟨fun u hu hd => ?_, ?_⟩
          · simp only [Act.put, zq1, zq2, zq3]
            have e0 : f1 0 = .int .i64 (n : Int) := hd 0 (by kernel_rfl)
            have e5 : f1 5 = .int .i64 m := hd 5 (by kernel_rfl)
            go_simp
            exact ⟨Ext.refl _, rfl⟩
          refine ⟨fun u hu hd => ?_, ?_⟩
          · simp only [Act.put, zq1, zq2, zq3]
            have e6 : f1 6 = .bool true := hd 6 (by kernel_rfl)
            go_simp
            exact ⟨Ext.refl _, rfl⟩
          refine ⟨fun u hu hd => ?_, ?_⟩
          · simp only [Act.put, zq1, zq2, zq3]
            have e7 : f1 7 = .bool true := hd 7 (by kernel_rfl)
            go_simp
            exact ⟨Ext.refl _, rfl⟩
          refine ⟨fun u hu hd => ?_, ?_⟩
          · simp only [Act.put, zq1, zq2, zq3]
            have e7 : f1 7 = .bool true := hd 7 (by kernel_rfl)
            go_simp
            exact ⟨Ext.refl _, rfl⟩
          refine ⟨fun u hu hd => ?_, ?_⟩
          · simp only [Act.put, zq1, zq2, zq3]
            have e7 : f1 7 = .bool true := hd 7 (by kernel_rfl)
            have e8 : f1 8 = .slice (some ⟨ab, ao, none⟩) a.length c := hd 8 (by kernel_rfl)
            have e9 : f1 9 = .int .i64 (n : Int) := hd 9 (by kernel_rfl)
            go_simp
            exact ⟨Ext.refl _, rfl⟩
          refine ⟨fun u hu hd => ?_, ?_⟩
          · simp only [Act.put, zq1, zq2, zq3]
            have e7 : f1 7 = .bool true := hd 7 (by kernel_rfl)
            have e10 : f1 10 = .pointer (some ⟨ab, ao + n, none⟩) := hd 10 (by kernel_rfl)
            have hu2 := Ext.trans (Ext.drew wr) hu
            have q0 := ext_cell hu2 ca
            go_simp
            exact ⟨Ext.refl _, rfl⟩
          refine ⟨fun u hu hd => ?_, ?_⟩
          · simp only [Act.put, zq1, zq2, zq3]
            have e7 : f1 7 = .bool true := hd 7 (by kernel_rfl)
            go_simp
            exact ⟨Ext.refl _, rfl⟩
          refine ⟨fun u hu hd => ?_, ?_⟩
          · simp only [Act.put, zq1, zq2, zq3]
            have e7 : f1 7 = .bool true := hd 7 (by kernel_rfl)
            go_simp
            exact ⟨Ext.refl _, rfl⟩
          refine ⟨fun u hu hd => ?_, ?_⟩
          · simp only [Act.put, zq1, zq2, zq3]
            have e7 : f1 7 = .bool true := hd 7 (by kernel_rfl)
            have e12 : f1 12 = .slice (some ⟨bb, bo, none⟩) b.length c2 := hd 12 (by kernel_rfl)
            have e13 : f1 13 = .int .i64 (n : Int) := hd 13 (by kernel_rfl)
            go_simp
            exact ⟨Ext.refl _, rfl⟩
          refine ⟨fun u hu hd => ?_, ?_⟩
          · simp only [Act.put, zq1, zq2, zq3]
            have e7 : f1 7 = .bool true := hd 7 (by kernel_rfl)
            have e14 : f1 14 = .pointer (some ⟨bb, bo + n, none⟩) := hd 14 (by kernel_rfl)
            have hu2 := Ext.trans (Ext.drew wr) hu
            have q0 := ext_cell hu2 cb
            go_simp
            exact ⟨Ext.refl _, rfl⟩
          refine ⟨fun u hu hd => ?_, ?_⟩
          · simp only [Act.put, zq1, zq2, zq3]
            have e7 : f1 7 = .bool true := hd 7 (by kernel_rfl)
            have e11 : f1 11 = .int .u8 (x : Int) := hd 11 (by kernel_rfl)
            have e15 : f1 15 = .int .u8 (y : Int) := hd 15 (by kernel_rfl)
            go_simp
            exact ⟨Ext.refl _, rfl⟩
          refine ⟨fun u hu hd => ?_, ?_⟩
          · simp only [Act.put, zq1, zq2, zq3]
            have e7 : f1 7 = .bool true := hd 7 (by kernel_rfl)
            have e16 : f1 16 = .bool false := hd 16 (by kernel_rfl)
            go_simp
            exact ⟨Ext.refl _, rfl⟩
          trivial
    · have d1 : decide ((n : Int) < m) = false := by rw [decide_eq_false_iff_not, hm]; omega
      have HM := Lib.hid hm
      have HLT := Lib.hid hlt
      have HN := Lib.hid (And.intro hn1 hn2)
      clear hm hlt hn1 hn2
      go_upto_region 2 with (fail)
      refine flow (by kernel_rfl) [Is (.int .i64 (n : Int)), Is (.slice A a.length c), Is (.int .i64 (a.length : Int)), Is (.slice B b.length c2), Is (.int .i64 (b.length : Int)), Is (.int .i64 m), Is (.bool false), Is (.bool false), Is undef, Is undef, Is undef, Is undef, Is undef, Is undef, Is undef, Is undef, Is undef, Is (.bool false)] (by kernel_rfl) (by kernel_rfl) ?mono (fun f1 => ?obl) ?fin
      case mono =>
        simp only [List.forall_mem_cons, List.not_mem_nil, false_imp_iff, implies_true, and_true]
        exact ⟨.is _, .is _, .is _, .is _, .is _, .is _, .is _, .is _, .is _, .is _, .is _, .is _, .is _, .is _, .is _, .is _, .is _, .is _⟩
      case fin =>
        intro g1 u hu hg
        simp only [puts, Act.put, zq1, zq2, zq3]
        have hxu := Ext.trans (Ext.drew wr) hu
        have HXU : Hid (Ext w u) := Ext.trans HX.out hxu
        have e17 : g1 17 = .bool false := hg 17 (by decide)
        rw [e17]
        clear hxu hu hg e17
        go_wp2_with fail
        go_ret
        have hs : shr a b = n := shr_is HN.out.1 HN.out.2 HT.out (fun p q hp hq => by
          have h1 := (List.getElem?_eq_some_iff.1 hp).1
          have h2 := (List.getElem?_eq_some_iff.1 hq).1
          exact absurd ⟨h1, h2⟩ HLT.out)
        rw [hs]
        exact ⟨rfl, HXU.out⟩
      case obl =>
        refine ⟨fun u hu hd => ?_, ?_⟩
        · go_simp
          exact ⟨Ext.refl _, rfl⟩
        refine ⟨fun u hu hd => ?_, ?_⟩
        · simp only [Act.put, zq1, zq2, zq3]
          go_simp
          exact ⟨Ext.refl _, rfl⟩
        refine ⟨fun u hu hd => ?_, ?_⟩
        · simp only [Act.put, zq1, zq2, zq3]
          have e1 : f1 1 = .slice A a.length c := hd 1 (by kernel_rfl)
          go_simp
          exact ⟨Ext.refl _, rfl⟩
        refine ⟨fun u hu hd => ?_, ?_⟩
        · simp only [Act.put, zq1, zq2, zq3]
          go_simp
          exact ⟨Ext.refl _, rfl⟩
        refine ⟨fun u hu hd => ?_, ?_⟩
        · simp only [Act.put, zq1, zq2, zq3]
          have e3 : f1 3 = .slice B b.length c2 := hd 3 (by kernel_rfl)
          go_simp
          exact ⟨Ext.refl _, rfl⟩
        refine ⟨fun u hu hd => ?_, ?_⟩
        · simp only [Act.put, zq1, zq2, zq3]
          have e2 : f1 2 = .int .i64 (a.length : Int) := hd 2 (by kernel_rfl)
          have e4 : f1 4 = .int .i64 (b.length : Int) := hd 4 (by kernel_rfl)
          rw [HM.out]
          go_simp
          exact ⟨Ext.refl _, rfl⟩
        refine ⟨fun u hu hd => ?_, ?_⟩
        · simp only [Act.put, zq1, zq2, zq3]
          have e0 : f1 0 = .int .i64 (n : Int) := hd 0 (by kernel_rfl)
          have e5 : f1 5 = .int .i64 m := hd 5 (by kernel_rfl)
          go_simp
          exact ⟨Ext.refl _, rfl⟩
        refine ⟨fun u hu hd => ?_, ?_⟩
        · simp only [Act.put, zq1, zq2, zq3]
          have e6 : f1 6 = .bool false := hd 6 (by kernel_rfl)
          go_simp
          exact ⟨Ext.refl _, rfl⟩
        refine ⟨fun u hu hd => ?_, ?_⟩
        · simp only [Act.put, zq1, zq2, zq3]
          have e7 : f1 7 = .bool false := hd 7 (by kernel_rfl)
          go_simp
          rfl
        refine ⟨fun u hu hd => ?_, ?_⟩
        · simp only [Act.put, zq1, zq2, zq3]
          have e7 : f1 7 = .bool false := hd 7 (by kernel_rfl)
          go_simp
          rfl
        refine ⟨fun u hu hd => ?_, ?_⟩
        · simp only [Act.put, zq1, zq2, zq3]
          have e7 : f1 7 = .bool false := hd 7 (by kernel_rfl)
          go_simp
          rfl
        refine ⟨fun u hu hd => ?_, ?_⟩
        · simp only [Act.put, zq1, zq2, zq3]
          have e7 : f1 7 = .bool false := hd 7 (by kernel_rfl)
          go_simp
          rfl
        refine ⟨fun u hu hd => ?_, ?_⟩
        · simp only [Act.put, zq1, zq2, zq3]
          have e7 : f1 7 = .bool false := hd 7 (by kernel_rfl)
          go_simp
          rfl
        refine ⟨fun u hu hd => ?_, ?_⟩
        · simp only [Act.put, zq1, zq2, zq3]
          have e7 : f1 7 = .bool false := hd 7 (by kernel_rfl)
          go_simp
          rfl
        refine ⟨fun u hu hd => ?_, ?_⟩
        · simp only [Act.put, zq1, zq2, zq3]
          have e7 : f1 7 = .bool false := hd 7 (by kernel_rfl)
          go_simp
          rfl
        refine ⟨fun u hu hd => ?_, ?_⟩
        · simp only [Act.put, zq1, zq2, zq3]
          have e7 : f1 7 = .bool false := hd 7 (by kernel_rfl)
          go_simp
          rfl
        refine ⟨fun u hu hd => ?_, ?_⟩
        · simp only [Act.put, zq1, zq2, zq3]
          have e7 : f1 7 = .bool false := hd 7 (by kernel_rfl)
          go_simp
          rfl
        refine ⟨fun u hu hd => ?_, ?_⟩
        · simp only [Act.put, zq1, zq2, zq3]
          have e7 : f1 7 = .bool false := hd 7 (by kernel_rfl)
          go_simp
          exact ⟨Ext.refl _, rfl⟩
        trivial
end Go.Proofs.YthhgjeeangepaaaGreat
namespace Go.Proofs.YthhgjeeangepaaaGreat
open Go.RowKit
structure StepK (K : Nat → Prop) (w w' : World) : Prop where
  stay : ∀ k, K k → k < w.heap.size → w'.heap[k]? = w.heap[k]?
  os : w'.os = w.os
  tape : w'.tape = w.tape
  output : w'.output = w.output
  size : w.heap.size ≤ w'.heap.size
theorem StepK.refl (K : Nat → Prop) (w : World) : StepK K w w := ⟨fun _ _ _ => rfl, rfl, rfl, rfl, Nat.le_refl _⟩
theorem StepK.trans {K : Nat → Prop} {w w' w'' : World} (h : StepK K w w') (k : StepK K w' w'') : StepK K w w'' := ⟨fun i h1 h2 => (k.stay i h1 (Nat.lt_of_lt_of_le h2 h.size)).trans (h.stay i h1 h2), k.os.trans h.os, k.tape.trans h.tape, k.output.trans h.output, Nat.le_trans h.size k.size⟩
theorem StepK.of_chg {S K : Nat → Prop} {w w' : World} (h : Chg S w w') (hS : ∀ k, k < w.heap.size → K k → ¬ S k) : StepK K w w' := ⟨fun k h1 h2 => h.block k h2 (hS k h2 h1), h.os, h.tape, h.output, h.size⟩
theorem StepK.mono {K K' : Nat → Prop} {w w' : World} (h : StepK K w w') (hk : ∀ i, K' i → K i) : StepK K' w w' := ⟨fun i h1 h2 => h.stay i (hk i h1) h2, h.os, h.tape, h.output, h.size⟩
def IterP (P : Program) {α : Type} (gf : Nat) (lb : Array Value) (encs : α → Array Value) (Ok : (Nat → Prop) → (Nat → Prop) → Nat → α → World → Prop) (Done : Nat → Prop) (Pan : Nat → List PanicEntry → Prop) (C : World → Prop) (w : World) : Prop :=
  ∀ (m l : Nat) (J : (Nat → Prop) → (Nat → Prop) → Nat → World → Prop) (Jx : World → Prop) (W : World), Ext w W →
    (∀ D K k A, J D K k A → C A) →
    (∀ D K k A D' K' A', J D K k A → Chg D A A' → (∀ i, D' i → D i ∨ A.heap.size ≤ i) → (∀ i, K' i → K i ∨ A.heap.size ≤ i) → J D' K' k A') →
    (∀ A D K, Ext W A → (∀ i, D i → W.heap.size ≤ i) → (∀ i, K i → W.heap.size ≤ i) → J D K 0 A) →
    (∀ D K k x A, (∀ i, D i → W.heap.size ≤ i ∧ i < A.heap.size) → (∀ i, K i → W.heap.size ≤ i ∧ i < A.heap.size) → J D K k A → Ok D K k x A →
      YieldAt Fence.wide m P l (encs x) A fun e A' => StepK K A A' ∧ ((e = .returned (.bool true) ∧ J D K (k + 1) A') ∨ (e = .returned (.bool false) ∧ Jx A'))) →
    Calls P gf (#[.func (.yield l) #[] #[]] ++ lb) W fun e A => ((∃ v, e = .returned v) ∧ ((∃ D K k, J D K k A ∧ Done k) ∨ Jx A)) ∨ (∃ ch, e = .panicked ch ∧ ∃ D K k, J D K k A ∧ Pan k ch)
def bodyOwesK (K : Nat → Prop) (I : World → Prop) (Ix : Code → World → Prop) (A : World) : Exit → Act → World → Prop
  | .normal, _, A' => StepK K A A' ∧ I A'
  | .ret, _, A' => StepK K A A' ∧ Ix .ret A'
  | .exit id, _, A' => StepK K A A' ∧ Ix (.exit id) A'
  | .goto t, _, A' => StepK K A A' ∧ Ix (.goto t) A'
  | .panic _, _, _ => False
  | .outgrown, _, _ => False
theorem wpIn_overP {P : Program} {n : Nat} {α : Type} {g : Operand} {ps : Array Tmp} {assign body : Code} {Q : Exit → Act → World → Prop} {a : Act} {w : World}
    {gf : Nat} {lb : Array Value} (hg : a.eval g = .func (.func gf) #[] lb) (eg : ∀ args w, (callFunc gf args).run P w = .ok (.enter gf args) w)
    {encs : α → Array Value} {Ok : (Nat → Prop) → (Nat → Prop) → Nat → α → World → Prop} {Done : Nat → Prop} {Pan : Nat → List PanicEntry → Prop} {C : World → Prop} (hseq : IterP P gf lb encs Ok Done Pan C w) (hps : ∀ x, (encs x).size = ps.size)
    (I : (Nat → Prop) → (Nat → Prop) → Nat → World → Prop) (Ix : Code → World → Prop) (hC : ∀ D K k A, I D K k A → C A)
    (hI : ∀ D K k A D' K' A', I D K k A → Chg D A A' → (∀ i, D' i → D i ∨ A.heap.size ≤ i) → (∀ i, K' i → K i ∨ A.heap.size ≤ i) → I D' K' k A') (hIx : ∀ c A A', Ix c A → Chg (fun i => i = w.heap.size + 1) A A' → Ix c A')
    (h0 : ∀ A D K, Ext w A → (∀ i, D i → w.heap.size ≤ i) → (∀ i, K i → w.heap.size ≤ i) → I D K 0 A)
    (hround : ∀ l D K k x A, l = w.heap.size + 1 → D l → K l → (∀ i, D i → w.heap.size ≤ i ∧ i < A.heap.size) → (∀ i, K i → w.heap.size ≤ i ∧ i < A.heap.size) → I D K k A → Ok D K k x A →
      assign.wpIn (Fence.wide.inRound l) (n - 1 - 1) P (Exit.then (fun a₁ A1 => StepK K A A1 ∧ ∀ A2, Chg (fun i => i = l) A1 A2 → body.wpIn (Fence.wide.inRound l) (n - 1 - 1) P (bodyOwesK K (I D K (k + 1)) Ix A2) a₁ A2) (fun _ _ _ => False))
        { tmps := (ps.zip (encs x)).foldl (fun t (p, v) => t.setIfInBounds p v) a.tmps, defers := [] } A)
    (hOk : ∀ D K D' K' k x A, Ok D K k x A → (∃ o, A.heap[w.heap.size]? = some (.deferred o)) → (∃ o, A.heap[w.heap.size + 1]? = some (.loop o)) → (∀ i, D' i → D i ∨ i = w.heap.size ∨ i = w.heap.size + 1) → (∀ i, K' i → K i ∨ i = w.heap.size ∨ i = w.heap.size + 1) → (∀ i, D i → D' i) → (∀ i, K i → K' i) → Ok D' K' k x A)
    (hdone : ∀ D k W D0 K0, w.heap.size ≤ D → I D0 K0 k W → Done k → W.heap[D]? = some (.deferred (some [])) → Q .normal { a with defers := { target := .collected D, args := #[] } :: a.defers } W)
    (hpan : ∀ D k W D0 K0 ch, w.heap.size ≤ D → I D0 K0 k W → Pan k ch → W.heap[D]? = some (.deferred (some [])) → Q (.panic ch) { a with defers := { target := .collected D, args := #[] } :: a.defers } W)
    (hstop : ∀ D c W, w.heap.size ≤ D → Ix c W → W.heap[D]? = some (.deferred (some [])) → c.wpIn Fence.wide n P Q { a with defers := { target := .collected D, args := #[] } :: a.defers } W) :
    (Code.rangeFunc g ps assign body).wpIn Fence.wide n P Q a w := by
  refine wpIn_rangeFunc ?_
  intro fn hfn
  obtain ⟨rec, hrec⟩ : ∃ rec : LoopState → Option Code → Loop, rec = fun st pe => { state := st, pending := pe, fn, tmps := a.tmps, params := ps, assign, body, defers := w.heap.size } := ⟨_, rfl⟩
  obtain ⟨W1, hW1⟩ : ∃ W1, W1 = (w.alloc (.deferred (some []))).alloc (.loop (rec .ready none)) := ⟨_, rfl⟩
  have hx1 : Ext w W1 := by rw [hW1]; exact ((Below.refl _ w).alloc (Nat.le_refl _) _).alloc (by simp) _
  have hz1 : W1.heap.size = w.heap.size + 2 := by rw [hW1]; simp
  have hL1 : W1.heap[w.heap.size + 1]? = some (.loop (rec .ready none)) := by
    rw [hW1]; have := World.alloc_heap_new (w.alloc (.deferred (some []))) (.loop (rec .ready none)); rwa [World.size_alloc] at this
  have hD1 : W1.heap[w.heap.size]? = some (.deferred (some [])) := by
    rw [hW1]; exact (Below.heap_alloc _ _ _ (by simp)).trans (World.alloc_heap_new w _)
  let up : (Nat → Prop) → Nat → Prop := fun D i => D i ∨ i = w.heap.size ∨ i = w.heap.size + 1
  refine ⟨w.heap.size + 1, [{ target := .collected w.heap.size, args := #[] }], W1, { target := .fn (.func gf) lb, args := #[.func (.yield (w.heap.size + 1)) #[] #[]] }, W1, gf,
    #[.func (.yield (w.heap.size + 1)) #[] #[]] ++ lb, W1, ?_, ?_, (fun _ _ => trivial), ?_, (fun h => (by cases h)), ?_⟩
  · rw [hW1, hrec]; exact run_enterLoop_outer _ _ _ _ _
  · simp only [resolve, hg]
    simp [go_sem]
  · simp [invoke, go_sem, eg]
  · refine callsIn_wide.2 ((hseq (n - 1 - 1) (w.heap.size + 1)
      (fun D K k A => I (up D) (up K) k A ∧ (∀ i, D i → w.heap.size + 2 ≤ i) ∧ A.heap[w.heap.size + 1]? = some (.loop (rec .ready none)) ∧ A.heap[w.heap.size]? = some (.deferred (some [])))
      (fun A => ∃ c, Ix c A ∧ A.heap[w.heap.size + 1]? = some (.loop (rec .done (some c))) ∧ A.heap[w.heap.size]? = some (.deferred (some [])))
      W1 hx1 (fun D K k A h => hC _ _ k A h.1) ?_ ?_ ?_).mono ?_)
    · rintro D K k A D' K' A' ⟨hi, hd0, hl, hd⟩ hc hD' hK'
      have lt1 := (Array.getElem?_eq_some_iff.1 hl).1
      have lt2 := (Array.getElem?_eq_some_iff.1 hd).1
      refine ⟨hI _ _ k A _ _ A' hi (hc.mono fun i _ hb => .inl hb) (fun i h => ?_) (fun i h => ?_), fun i h => ?_, (hc.block _ lt1 (fun hb => by have := hd0 _ hb; omega)).trans hl, (hc.block _ lt2 (fun hb => by have := hd0 _ hb; omega)).trans hd⟩
      · rcases h with h | h
        · rcases hD' i h with h | h
          · exact .inl (.inl h)
          · exact .inr h
        · exact .inl (.inr h)
      · rcases h with h | h
        · rcases hK' i h with h | h
          · exact .inl (.inl h)
          · exact .inr h
        · exact .inl (.inr h)
      · rcases hD' i h with h | h
        · exact hd0 i h
        · omega
    · intro A D K hx hD hK
      refine ⟨h0 A _ _ (hx1.trans hx) (fun i h => ?_) (fun i h => ?_), fun i h => by have := hD i h; omega, (hx.block _ (by omega)).trans hL1, (hx.block _ (by omega)).trans hD1⟩
      · rcases h with h | h | h
        · have := hD i h; omega
        · omega
        · omega
      · rcases h with h | h | h
        · have := hK i h; omega
        · omega
        · omega
    · rintro D K k x A hD hK ⟨hi, hd0, hl, hd⟩ hok
      have hy := run_yield (P := P) (args := encs x) hl (by rw [hrec]; exact hps x)
      rw [hrec] at hy
      refine ⟨fn, _, assign, body, hy, roundIn_of_wpIn hfn ?_⟩
      have hok' : Ok (up D) (up K) k x A := hOk _ _ _ _ k x A hok ⟨_, hd⟩ ⟨_, hl⟩ (fun i h => h) (fun i h => h) (fun i h => .inl h) (fun i h => .inl h)
      have hDu : ∀ i, up D i → w.heap.size ≤ i ∧ i < A.heap.size := fun i h => by
        rcases h with h | h | h
        · have := hD i h; omega
        · have := (Array.getElem?_eq_some_iff.1 hd).1; omega
        · have := (Array.getElem?_eq_some_iff.1 hl).1; omega
      have hKu : ∀ i, up K i → w.heap.size ≤ i ∧ i < A.heap.size := fun i h => by
        rcases h with h | h | h
        · have := hK i h; omega
        · have := (Array.getElem?_eq_some_iff.1 hd).1; omega
        · have := (Array.getElem?_eq_some_iff.1 hl).1; omega
      refine wpIn_mono (hround (w.heap.size + 1) (up D) (up K) k x A rfl (.inr (.inr rfl)) (.inr (.inr rfl)) hDu hKu hi hok') ?_
      intro e a₁ A1 hp
      cases e with
      | normal =>
        obtain ⟨hst, hb⟩ := hp
        have lt0 := (Array.getElem?_eq_some_iff.1 hl).1
        have lt00 := (Array.getElem?_eq_some_iff.1 hd).1
        have hl1 := (hst.stay (w.heap.size + 1) (.inr (.inr rfl)) lt0).trans hl
        have hd1 := (hst.stay w.heap.size (.inr (.inl rfl)) lt00).trans hd
        have lt1 := (Array.getElem?_eq_some_iff.1 hl1).1
        refine ⟨_, run_beginRound hl1 (by rw [hrec]), ?_⟩
        have hc2 := putObj_chg A1 (w.heap.size + 1) (.loop { rec .ready none with state := .busy })
        have hl2 : (A1.putObj (w.heap.size + 1) (.loop { rec .ready none with state := .busy })).heap[w.heap.size + 1]? = some (.loop { rec .ready none with state := .busy }) := World.putObj_heap_same lt1
        have hd2 := (hc2.block w.heap.size (by omega) (by omega)).trans hd1
        have fin : ∀ (jump : Option Code) (W3 : World), StepK (up K) (A1.putObj (w.heap.size + 1) (.loop { rec .ready none with state := .busy })) W3 →
            (Instr.endRound (w.heap.size + 1) jump).run P W3 = .ok (.bool jump.isNone) (W3.putObj (w.heap.size + 1) (.loop (rec (if jump.isNone then .ready else .done) jump))) ∧
            (W3.putObj (w.heap.size + 1) (.loop (rec (if jump.isNone then .ready else .done) jump))).heap[w.heap.size + 1]? = some (.loop (rec (if jump.isNone then .ready else .done) jump)) ∧
            (W3.putObj (w.heap.size + 1) (.loop (rec (if jump.isNone then .ready else .done) jump))).heap[w.heap.size]? = some (.deferred (some [])) ∧
            StepK K A (W3.putObj (w.heap.size + 1) (.loop (rec (if jump.isNone then .ready else .done) jump))) := fun jump W3 hs3 => by
          have hl3 := (hs3.stay _ (.inr (.inr rfl)) (Array.getElem?_eq_some_iff.1 hl2).1).trans hl2
          have hd3 := (hs3.stay _ (.inr (.inl rfl)) (Array.getElem?_eq_some_iff.1 hd2).1).trans hd2
          have lt3 := (Array.getElem?_eq_some_iff.1 hl3).1
          have hr := run_endRound (P := P) jump hl3
          rw [hrec] at hr ⊢
          refine ⟨hr, World.putObj_heap_same lt3, (World.putObj_heap_other (by omega)).trans hd3, ?_⟩
          have s1 : StepK K A A1 := hst.mono fun i h => .inl h
          have s2 : StepK K A1 (A1.putObj (w.heap.size + 1) (.loop { rec .ready none with state := .busy })) := ⟨fun i h1 h2 => World.putObj_heap_other (by have := hK i h1; omega), rfl, rfl, rfl, by simp⟩
          have s3 : StepK K (A1.putObj (w.heap.size + 1) (.loop { rec .ready none with state := .busy })) W3 := hs3.mono fun i h => .inl h
          rw [hrec] at s2 s3
          exact ((s1.trans s2).trans s3).trans ⟨fun i h1 h2 => World.putObj_heap_other (by have := hK i h1; omega), rfl, rfl, rfl, by simp⟩
        have hchg : ∀ (W3 : World) (o : Obj), Chg (up D) W3 (W3.putObj (w.heap.size + 1) o) := fun W3 o => (putObj_chg W3 _ o).mono fun i _ e => .inr (.inr e)
        refine wpIn_mono (hb _ hc2) ?_
        intro e a3 W3 hp
        cases e with
        | normal =>
          obtain ⟨hs3, hi3⟩ := hp
          obtain ⟨hr, hl4, hd4, hst4⟩ := fin none W3 hs3
          exact ⟨_, _, hr, hst4, .inl ⟨rfl, hI _ _ (k + 1) _ _ _ _ hi3 (hchg _ _) (fun i h => .inl h) (fun i h => .inl h), hd0, hl4, hd4⟩⟩
        | ret =>
          obtain ⟨hs3, hi3⟩ := hp
          obtain ⟨hr, hl4, hd4, hst4⟩ := fin (some .ret) W3 hs3
          exact ⟨_, _, hr, hst4, .inr ⟨rfl, .ret, hIx _ _ _ hi3 (putObj_chg _ _ _), hl4, hd4⟩⟩
        | exit id =>
          obtain ⟨hs3, hi3⟩ := hp
          obtain ⟨hr, hl4, hd4, hst4⟩ := fin (some (.exit id)) W3 hs3
          exact ⟨_, _, hr, hst4, .inr ⟨rfl, .exit id, hIx _ _ _ hi3 (putObj_chg _ _ _), hl4, hd4⟩⟩
        | goto t =>
          obtain ⟨hs3, hi3⟩ := hp
          obtain ⟨hr, hl4, hd4, hst4⟩ := fin (some (.goto t)) W3 hs3
          exact ⟨_, _, hr, hst4, .inr ⟨rfl, .goto t, hIx _ _ _ hi3 (putObj_chg _ _ _), hl4, hd4⟩⟩
        | panic ch => exact hp.elim
        | outgrown => exact hp.elim
      | ret => exact hp.elim
      | exit id => exact hp.elim
      | goto t => exact hp.elim
      | panic ch => exact hp.elim
      | outgrown => exact hp.elim
    · rintro e W2 (⟨⟨v, rfl⟩, (⟨D, K, k, ⟨hi, hd0, hl, hd⟩, hdn⟩ | ⟨c, hi, hl, hd⟩)⟩ | ⟨ch, rfl, D, K, k, ⟨hi, hd0, hl, hd⟩, hpn⟩)
      · have hr := run_endLoop (P := P) hl (by rw [hrec]; simp)
        rw [hrec] at hr
        exact ⟨none, _, hr, hdone _ k _ _ _ (Nat.le_refl _) (hI _ _ k _ _ _ _ hi ((putObj_chg _ _ _).mono fun i _ e => .inr (.inr e)) (fun i h => .inl h) (fun i h => .inl h)) hdn ((World.putObj_heap_other (by omega)).trans hd)⟩
      · have hr := run_endLoop (P := P) hl (by rw [hrec]; simp)
        rw [hrec] at hr
        exact ⟨some c, _, hr, hstop _ c _ (Nat.le_refl _) (hIx c _ _ hi (putObj_chg _ _ _)) ((World.putObj_heap_other (by omega)).trans hd)⟩
      · exact hpan _ k _ _ _ ch (Nat.le_refl _) hi hpn hd
end Go.Proofs.YthhgjeeangepaaaGreat
namespace Go.Proofs.YthhgjeeangepaaaGreat
open Go.ChangeShapes Go.WideShapes Go.ChangeAt Go.RowKit
def gaveUp : List PanicEntry := [{ v := .iface 27 (.int .i64 4), recovered := false }]
theorem giveUp_any (w : World) : Calls Tryz.prog 152 #[] w fun e w' => e = .panicked gaveUp ∧ w' = w := by
  go_enter Tryz.func152, Tryz.ntmps152
  go_wp2
  exact ⟨rfl, rfl, rfl⟩
def GaveOr (v : Value) (n : Int) (w : World) (e : Ending) (w' : World) : Prop := (n = 0 ∧ e = .returned v ∨ n ≠ 0 ∧ e = .panicked gaveUp) ∧ w' = w
theorem readNum_any (v : Int) (n : Int) (w : World) : Calls Tryz.prog 176 #[.int .u64 v, .int .i64 n] w (GaveOr (.int .u64 v) n w) := by
  by_cases h : n = 0
  · subst h
    go_enter Tryz.func176, Tryz.ntmps176
    go_wp2_with fail
    go_ret
    exact ⟨.inl ⟨rfl, rfl⟩, rfl⟩
  · have d : (n != 0) = true := by simpa using h
    have H := Lib.hid h
    clear h
    go_enter Tryz.func176, Tryz.ntmps176
    go_wp2_with fail
    refine (giveUp_any _).mono ?_
    rintro e w' ⟨rfl, rfl⟩
    exact ⟨rfl, .inr ⟨H.out, rfl⟩, rfl⟩
theorem readBytes_any (A : Option Addr) (k c : Nat) (n : Int) (w : World) : Calls Tryz.prog 177 #[.slice A k c, .int .i64 n] w (GaveOr (.slice A k c) n w) := by
  by_cases h : n = 0
  · subst h
    go_enter Tryz.func177, Tryz.ntmps177
    go_wp2_with fail
    go_ret
    exact ⟨.inl ⟨rfl, rfl⟩, rfl⟩
  · have d : (n != 0) = true := by simpa using h
    have H := Lib.hid h
    clear h
    go_enter Tryz.func177, Tryz.ntmps177
    go_wp2_with fail
    refine (giveUp_any _).mono ?_
    rintro e w' ⟨rfl, rfl⟩
    exact ⟨rfl, .inr ⟨H.out, rfl⟩, rfl⟩
end Go.Proofs.YthhgjeeangepaaaGreat
namespace Go.Proofs.YthhgjeeangepaaaGreat
open Go.ChangeShapes Go.WideShapes Go.ChangeAt Go.RowKit
end Go.Proofs.YthhgjeeangepaaaGreat
namespace Go.Proofs.YthhgjeeangepaaaGreat
open Go.ChangeShapes Go.WideShapes Go.ChangeAt Go.RowKit
end Go.Proofs.YthhgjeeangepaaaGreat
namespace Go.Proofs.YthhgjeeangepaaaGreat
open Go.ChangeShapes Go.WideShapes Go.ChangeAt Go.RowKit
structure Got (B : Nat) (v : Value) (R : List (Ent × Hd)) (w : World) : Prop where
  row : w.ownsRow B 55 4 v R.length (erow R)
  each : ∀ p ∈ R, Mine B p w
theorem Got.nil (B : Nat) (w : World) : Got B (.slice none 0 0) [] w := ⟨World.ownsRow_nil _ _ _ _, fun p hp => by cases hp⟩
theorem Got.base {B B' : Nat} {v : Value} {R : List (Ent × Hd)} {w : World} (h : Got B v R w) (hB : B' ≤ B) : Got B' v R w := ⟨rowN_base h.row hB, fun p hp => (h.each p hp).base hB⟩
theorem Got.kept {B : Nat} {v : Value} {R : List (Ent × Hd)} {w w' : World} (h : Got B v R w) (hk : ∀ g, B ≤ g → g < w.heap.size → w'.heap[g]? = w.heap[g]?) : Got B v R w' := by
  refine ⟨rowN_kept h.row fun g hg => hk g (rowN_lt h.row g hg).1 (rowN_lt h.row g hg).2.1, fun p hp => ?_⟩
  have hm := h.each p hp
  exact ⟨row_kept hm.k fun g hg => hk g (row_lt hm.k g hg).1 (row_lt hm.k g hg).2, row_kept hm.v fun g hg => hk g (row_lt hm.v g hg).1 (row_lt hm.v g hg).2, hm.good⟩
theorem Got.below {B : Nat} {v : Value} {R : List (Ent × Hd)} {w w' : World} (h : Got B v R w) (hx : Ext w w') : Got B v R w' := h.kept fun g _ hg => hx.block g hg
end Go.Proofs.YthhgjeeangepaaaGreat
