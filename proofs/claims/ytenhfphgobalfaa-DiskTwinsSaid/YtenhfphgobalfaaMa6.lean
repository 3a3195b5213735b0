/- Drefi Drefm Dkept Drefk Dwrong Dcrash2, joined. -/
import Derived.Test.YtenhfphgobalfaaMa5
import Derived.BigQuiet
import Derived.Test.YtenhfphgobalfaaMa4
import Derived.WalkLawsBesides

/- The reference's disk: Files, in order of their names. -/
namespace Go.Proofs.Ytenhfphgobalfaa
open Go.RowKit

theorem fsize (w : World) : (sizeOf (Try.prog.elem 39)).run Try.prog w = .ok 3 w := by
  obtain ⟨i0, hi, _, hz1, _⟩ := info_parts rinfo
  have e : Try.prog.elem 39 = 45 := by kernel_rfl
  rw [e]
  simp [Go.sizeOf, typeInfo, hi, hz1]
theorem fslice_to (A : Option Addr) (n c j : Nat) (hjn : j ≤ n) (hc : n ≤ c) (w : World) :
    (Instr.slice 39 (.slice A n c) none (some (.int .i64 (j : Int))) none).run Try.prog w = .ok (.slice A j c) w := by
  have he : Try.prog.underlying 39 = some (.slice (Try.prog.elem 39)) := by kernel_rfl
  rw [run_slice_h w 39 A n c he .i64 (j : Int) (by omega) (by omega), fsize w]
  by_cases h : c = 0
  · subst h; simp [Result.andThen, sliced]
  · have : ¬ c = 0 := h
    cases A <;> simp [Result.andThen, sliced, Addr.add]
theorem fslice_from (A : Option Addr) (n c k : Nat) (hkn : k ≤ n) (_hc : n ≤ c) (w : World) :
    (Instr.slice 39 (.slice A n c) (some (.int .i64 (k : Int))) none none).run Try.prog w = .ok (.slice (if c = k then A else A.map (·.add (k * 3))) (n - k) (c - k)) w := by
  have he : Try.prog.underlying 39 = some (.slice (Try.prog.elem 39)) := by kernel_rfl
  rw [run_slice_l w 39 A n c he .i64 (k : Int) (by omega) (by omega), fsize w]
  simp [Result.andThen, sliced]
theorem flat_drop (R : List RFl) (k : Nat) (hk : k ≤ R.length) : (R.drop k).flatMap rcells = (R.flatMap rcells).drop (k * 3) := by
  have h : R.flatMap rcells = (R.take k).flatMap rcells ++ (R.drop k).flatMap rcells := by rw [← List.flatMap_append, List.take_append_drop]
  rw [h, List.drop_left' (by rw [flat_length, List.length_take, Nat.min_eq_left hk])]
/-- A row of files that is there, as the source of an append. -/
def Src (v : Value) (m : Nat) (ys : List Value) (z : World) : Prop := (v = .slice none 0 0 ∧ ys = [] ∧ m = 0) ∨ ∃ ad c, v = .slice (some ad) m c ∧ ∀ j q, ys[j]? = some q → z.cell? (ad.add j) = some q
theorem own_cells {w : World} {B n : Nat} {v : Value} {xs : List Value} (h : w.ownsRow B 45 3 v n xs) : (v = .slice none 0 0 ∧ n = 0) ∨ ∃ g c, v = .slice (some ⟨g, 0, none⟩) n c ∧ n ≤ c ∧ g < w.heap.size ∧ B ≤ g ∧ ∀ z, Ext w z → ∀ j q, xs[j]? = some q → z.cell? ⟨g, j, none⟩ = some q := by
  obtain ⟨hl, ⟨rfl, e⟩ | ⟨g, c, cur, rfl, hb, hg, hn, hc, hsz, ht⟩⟩ := h
  · exact .inl ⟨rfl, e⟩
  · refine .inr ⟨g, c, rfl, hn, (Array.getElem?_eq_some_iff.1 hg).1, hb, fun z hx j q hj => ?_⟩
    rw [← ht] at hj
    have hj1 : j < n * 3 := by
      have := (List.getElem?_eq_some_iff.1 hj).1
      rw [List.length_take] at this
      omega
    rw [List.getElem?_take_of_lt hj1] at hj
    exact cell_of (ext_heap hx hg) (k := j) (v := q) (by simpa using hj)

theorem own_slice {w : World} {B n : Nat} {v : Value} {xs : List Value} (h : w.ownsRow B 45 3 v n xs) : ∃ O co, v = .slice O n co := by
  rcases own_cells h with ⟨rfl, e⟩ | ⟨g, c, rfl, _⟩
  · rw [e]; exact ⟨_, _, rfl⟩
  · exact ⟨_, _, rfl⟩
/-- What the operations that only read are to give. -/
def filV (r : Nat) (l l1 l2 : Value) (k : Nat) (files : Value) (i g : Nat) (p : Value) : Nat → Option Value
  | 0 | 13 => some l
  | 1 | 14 => some (.int .i64 (k : Int))
  | 2 => some l1
  | 4 | 5 => some (.pointer (some ⟨r, 0, none⟩))
  | 6 => some (.pointer (some ⟨r, 1, none⟩))
  | 7 => some files
  | 8 => some (.int .i64 (i : Int))
  | 9 => some (.pointer (some ⟨g, i * 3, none⟩))
  | 10 => some p
  | 15 => some l2
  | _ => none
/-- How far the row with one more file has got. -/
structure PutI (n k : Nat) (w0 : World) (V : Nat → Option Value) (xs ys zs : List Value) (seen : Nat → Bool) (f : Nat → Value) (u : World) : Prop where
  vals : Fi.VI V seen f
  pre : Below w0.heap.size w0 u
  r3 : seen 3 = true → seen 12 = false → u.ownsRow w0.heap.size 45 3 (f 3) k xs
  r11 : seen 11 = true → seen 12 = false → ∃ g, f 11 = .slice (some ⟨g, 0, none⟩) 1 1 ∧ u.heap[g]? = some (.cells ys.toArray 45 (0, 0))
  r12 : seen 12 = true → seen 16 = false → u.ownsRow w0.heap.size 45 3 (f 12) (k + 1) (xs ++ ys)
  r16 : seen 16 = true → u.ownsRow w0.heap.size 45 3 (f 16) (k + 1 + (n - k)) (xs ++ ys ++ zs)
  r17 : seen 17 = true → f 17 = f 16
section
variable {n k : Nat} {w0 u u' : World} {V : Nat → Option Value} {xs ys zs : List Value} {seen : Nat → Bool} {f : Nat → Value} {v : Value} {j : Nat}
theorem not_of {a b : Bool} (h : b = true → a = true) (ha : a = false) : b = false := by
  cases b with
  | false => rfl
  | true => rw [h rfl] at ha; cases ha
theorem PutI.start (f : Nat → Value) (h : w0 = u) : PutI n k w0 V xs ys zs (fun _ => false) f u.drew := by
  subst h
  exact ⟨fun _ _ _ h => (by cases h), Below.drew (Below.refl _ _), fun h => (by cases h), fun h => (by cases h), fun h => (by cases h), fun h => (by cases h), fun h => (by cases h)⟩
theorem PutI.read (h : PutI n j w0 V xs ys zs seen f u) (hv : V k = some v) (hk : k ≠ 3 ∧ k ≠ 11 ∧ k ≠ 12 ∧ k ≠ 16 ∧ k ≠ 17) : PutI n j w0 V xs ys zs (Fi.upd seen k true) (Fi.upd f k v) u := by
  obtain ⟨k3, k11, k12, k16, k17⟩ := hk
  have a3 := Fi.upd_ne seen true (i := k) (j := 3) (Ne.symm k3)
  have a11 := Fi.upd_ne seen true (i := k) (j := 11) (Ne.symm k11)
  have a12 := Fi.upd_ne seen true (i := k) (j := 12) (Ne.symm k12)
  have a16 := Fi.upd_ne seen true (i := k) (j := 16) (Ne.symm k16)
  have a17 := Fi.upd_ne seen true (i := k) (j := 17) (Ne.symm k17)
  have b3 := Fi.upd_ne f v (i := k) (j := 3) (Ne.symm k3)
  have b11 := Fi.upd_ne f v (i := k) (j := 11) (Ne.symm k11)
  have b12 := Fi.upd_ne f v (i := k) (j := 12) (Ne.symm k12)
  have b16 := Fi.upd_ne f v (i := k) (j := 16) (Ne.symm k16)
  have b17 := Fi.upd_ne f v (i := k) (j := 17) (Ne.symm k17)
  exact ⟨h.vals.put k v (.inr hv), h.pre, by rw [a3, a12, b3]; exact h.r3, by rw [a11, a12, b11]; exact h.r11, by rw [a12, a16, b12]; exact h.r12, by rw [a16, b16]; exact h.r16, by rw [a17, b17, b16]; exact h.r17⟩
theorem PutI.three (h : PutI n k w0 V xs ys zs seen f u) (hk : seen 3 = false) (h12 : seen 12 = true → seen 3 = true) (hV : V 3 = none) (v : Value) (hx : Ext u u') (hrow : u'.ownsRow u.heap.size 45 3 v k xs) (h16 : seen 16 = true → seen 12 = true) (h17 : seen 17 = true → seen 16 = true) : PutI n k w0 V xs ys zs (Fi.upd seen 3 true) (Fi.upd f 3 v) u' := by
  have n12 := not_of h12 hk
  have n16 := not_of h16 n12
  have n17 := not_of h17 n16
  refine ⟨h.vals.put 3 v (.inl hV), h.pre.trans (hx.mono h.pre.size), fun _ _ => ?_, fun s11 s12 => ?_, fun s => ?_, fun s => ?_, fun s => ?_⟩
  · rw [Fi.upd_at]; exact ownsRow_base3 hrow h.pre.size
  · rw [Fi.upd_ne _ _ (by decide)] at s11 s12 ⊢
    obtain ⟨g, e, hg⟩ := h.r11 s11 s12
    exact ⟨g, e, ext_heap hx hg⟩
  · rw [Fi.upd_ne _ _ (by decide), n12] at s; cases s
  · rw [Fi.upd_ne _ _ (by decide), n16] at s; cases s
  · rw [Fi.upd_ne _ _ (by decide), n17] at s; cases s
theorem PutI.eleven (h : PutI n k w0 V xs ys zs seen f u) (hk : seen 11 = false) (h12 : seen 12 = true → seen 11 = true) (hV : V 11 = none) (h16 : seen 16 = true → seen 12 = true) (h17 : seen 17 = true → seen 16 = true) : PutI n k w0 V xs ys zs (Fi.upd seen 11 true) (Fi.upd f 11 (.slice (some ⟨u.heap.size, 0, none⟩) 1 1)) (u.alloc (.cells ys.toArray 45)) := by
  have n12 := not_of h12 hk
  have n16 := not_of h16 n12
  have n17 := not_of h17 n16
  have hx := ext_alloc u (.cells ys.toArray 45)
  refine ⟨h.vals.put 11 _ (.inl hV), h.pre.trans (hx.mono h.pre.size), fun s3 s12 => ?_, fun _ _ => ?_, fun s => ?_, fun s => ?_, fun s => ?_⟩
  · rw [Fi.upd_ne _ _ (by decide)] at s3 s12 ⊢; exact own_ext (h.r3 s3 s12) hx
  · rw [Fi.upd_at]; exact ⟨_, rfl, heap_at _ _ rfl⟩
  · rw [Fi.upd_ne _ _ (by decide), n12] at s; cases s
  · rw [Fi.upd_ne _ _ (by decide), n16] at s; cases s
  · rw [Fi.upd_ne _ _ (by decide), n17] at s; cases s
theorem PutI.twelve (h : PutI n k w0 V xs ys zs seen f u) (hk : seen 12 = false) (h16 : seen 16 = true → seen 12 = true) (hV : V 12 = none) (v : Value) (hb : ∀ w1, Below w0.heap.size w1 u → Below w0.heap.size w1 u') (hrow : u'.ownsRow w0.heap.size 45 3 v (k + 1) (xs ++ ys)) (h17 : seen 17 = true → seen 16 = true) : PutI n k w0 V xs ys zs (Fi.upd seen 12 true) (Fi.upd f 12 v) u' := by
  have n16 := not_of h16 hk
  have n17 := not_of h17 n16
  refine ⟨h.vals.put 12 v (.inl hV), hb _ h.pre, fun _ s => ?_, fun _ s => ?_, fun _ _ => ?_, fun s => ?_, fun s => ?_⟩
  · rw [Fi.upd_at] at s; cases s
  · rw [Fi.upd_at] at s; cases s
  · rw [Fi.upd_at]; exact hrow
  · rw [Fi.upd_ne _ _ (by decide), n16] at s; cases s
  · rw [Fi.upd_ne _ _ (by decide), n17] at s; cases s
theorem PutI.sixteen (h : PutI n k w0 V xs ys zs seen f u) (hk : seen 16 = false) (h17 : seen 17 = true → seen 16 = true) (hV : V 16 = none) (v : Value) (hb : ∀ w1, Below w0.heap.size w1 u → Below w0.heap.size w1 u') (hrow : u'.ownsRow w0.heap.size 45 3 v (k + 1 + (n - k)) (xs ++ ys ++ zs)) (s12 : seen 12 = true) : PutI n k w0 V xs ys zs (Fi.upd seen 16 true) (Fi.upd f 16 v) u' := by
  have n17 := not_of h17 hk
  refine ⟨h.vals.put 16 v (.inl hV), hb _ h.pre, fun _ s => ?_, fun _ s => ?_, fun _ s => ?_, fun _ => ?_, fun s => ?_⟩
  · rw [Fi.upd_ne _ _ (by decide), s12] at s; cases s
  · rw [Fi.upd_ne _ _ (by decide), s12] at s; cases s
  · rw [Fi.upd_at] at s; cases s
  · rw [Fi.upd_at]; exact hrow
  · rw [Fi.upd_ne _ _ (by decide), n17] at s; cases s
theorem PutI.seventeen (h : PutI n k w0 V xs ys zs seen f u) (_hk : seen 17 = false) (hV : V 17 = none) : PutI n k w0 V xs ys zs (Fi.upd seen 17 true) (Fi.upd f 17 (f 16)) u := by
  refine ⟨h.vals.put 17 _ (.inl hV), h.pre, h.r3, h.r11, h.r12, h.r16, fun _ => ?_⟩
  rw [Fi.upd_at, Fi.upd_ne _ _ (by decide)]
end

/-- By rising names. -/
def SdF (R : List RFl) : Prop := R.Pairwise fun a b => a.name ≤ b.name
theorem put_sdf {R : List RFl} {p : RFl} {k : Nat} (hs : SdF R) (hk : k ≤ R.length) (h1 : ∀ j q, j < k → R[j]? = some q → q.name < p.name) (h2 : ∀ q, R[k]? = some q → ¬ q.name < p.name) : SdF (R.take k ++ ([p] ++ R.drop k)) := by
  have hd : ∀ b ∈ R.drop k, p.name ≤ b.name := fun b hb => by
    obtain ⟨j, hj, rfl⟩ := List.mem_iff_getElem.1 hb
    rw [List.length_drop] at hj
    have h0 := List.not_lt.1 (h2 R[k] (List.getElem?_eq_getElem (by omega)))
    rw [List.getElem_drop]
    cases j with
    | zero => exact h0
    | succ j => exact List.le_trans h0 (List.pairwise_iff_getElem.1 hs k (k + (j + 1)) (by omega) (by omega) (by omega))
  have ht : ∀ a ∈ R.take k, a.name ≤ p.name := fun a ha => by
    obtain ⟨j, hj, rfl⟩ := List.mem_iff_getElem.1 ha
    rw [List.length_take] at hj
    rw [List.getElem_take]
    exact List.le_of_lt (h1 j R[j] (by omega) (List.getElem?_eq_getElem (by omega)))
  unfold SdF
  rw [List.pairwise_append]
  refine ⟨hs.sublist (List.take_sublist _ _), ?_, fun a ha b hb => ?_⟩
  · rw [List.singleton_append, List.pairwise_cons]
    exact ⟨hd, hs.sublist (List.drop_sublist _ _)⟩
  · rcases List.mem_append.1 hb with hb | hb
    · rw [List.mem_singleton] at hb; rw [hb]; exact ht a ha
    · exact List.le_trans (ht a ha) (hd b hb)
theorem put_permF {R M : List RFl} {p : RFl} (k : Nat) (h : R.Perm M) : (R.take k ++ ([p] ++ R.drop k)).Perm (M ++ [p]) := by
  refine (List.perm_append_comm_assoc (R.take k) [p] (R.drop k)).trans ?_
  rw [List.take_append_drop]
  exact (List.perm_append_comm).trans (h.append_right _)

set_option maxRecDepth 100000 in
set_option maxHeartbeats 8000000 in
theorem filesRef_any {w : World} {B r room : Nat} {G : List RFl} (h : RD w B r room G) :
    Calls Try.prog 16 #[.pointer (some ⟨r, 0, none⟩)] w fun e w' => ∃ v R, R.Perm G ∧ SdF R ∧ e = .returned v ∧ w'.ownsRow w.heap.size 45 3 v R.length (R.flatMap rcells) ∧ Ext w w' := by
  obtain ⟨v, hblk, hrow⟩ := h.ex
  have c1 : w.cell? ⟨r, 1, none⟩ = some v := cell_of (k := 1) hblk rfl
  obtain ⟨A, c, rfl⟩ : ∃ A c, v = .slice A G.length c := by
    rcases hrow.2 with ⟨rfl, e⟩ | ⟨g, c, cur, rfl, _⟩
    · rw [e]; exact ⟨_, _, rfl⟩
    · exact ⟨_, _, rfl⟩
  have HC := Lib.hid c1
  have HROW := Lib.hid hrow
  have HF := Lib.hid h.len
  have HBLK := Lib.hid hblk
  clear h hblk hrow c1
  go_enter Try.func16, Try.ntmps16
  go_wp2_with fail
  go_loopw [3, 4] (fun v a wr => ∃ (i : Nat) (R : List RFl), a = .int .i64 (i : Int) ∧ i ≤ G.length ∧ Hid (R.Perm (G.take i) ∧ SdF R) ∧ Hid (wr.ownsRow w.heap.size 45 3 v R.length (R.flatMap rcells)) ∧ Hid (Ext w wr)) (fun _ a _ => G.length - (intOf a).toNat)
  case atStart => exact ⟨0, [], rfl, by omega, ⟨by simp, List.Pairwise.nil⟩, World.ownsRow_nil _ _ _ _, Ext.refl _⟩
  case round =>
    obtain ⟨i, R, rfl, hm, HRP, HR, HX⟩ := hrel
    have HRL : Hid (R.length = i) := by
      have := HRP.out.1.length_eq
      rw [List.length_take] at this
      unfold Hid; omega
    have c1 := ext_cell HX.out HC.out
    by_cases hlt : i < G.length
    rotate_left
    · have d : decide ((i : Int) < (G.length : Int)) = false := by simp; omega
      have d2 : decide (i < G.length) = false := by simp; omega
      have hi : i = G.length := by omega
      have HPM : Hid (R.Perm G) := by have := HRP.out.1; rw [hi, List.take_of_length_le (Nat.le_refl _)] at this; exact this
      obtain ⟨O, co, rfl⟩ := own_slice HR.out
      clear hlt hm hi
      go_wp2_with fail
      go_ret
      exact ⟨_, R, HPM.out, HRP.out.2, rfl, HR.out, HX.out⟩
    have d : decide ((i : Int) < (G.length : Int)) = true := by simp; omega
    have d2 : decide (i < G.length) = true := by simp; omega
    obtain ⟨p, hp⟩ : ∃ p, p = G[i] := ⟨_, rfl⟩
    obtain ⟨g, c', he, q0, q1, q2⟩ := rrow_cell HROW.out hlt
    injection he with he1 he2 he3
    subst he1 he3
    have HGC : Hid (∀ z, Ext w z → z.cell? ⟨g, i * 3, none⟩ = some (encStr p.name) ∧ z.cell? ⟨g, i * 3 + 1, none⟩ = some (encStr p.sure) ∧ z.cell? ⟨g, i * 3 + 2, none⟩ = some (encStr p.loose)) := fun z hz => by
      rw [hp]; exact ⟨ext_cell hz q0, ext_cell hz q1, ext_cell hz q2⟩
    have HP1 : Hid (G[i]? = some p) := by rw [hp]; exact List.getElem?_eq_getElem hlt
    have HW2 : Hid (wrap64 ((i : Int) + 1) = ((i + 1 : Nat) : Int)) := by have := HF.out; unfold Hid wrap64; omega
    have n3 : (0 : Int) ≤ (i : Int) := by omega
    have n4 : (i : Int) < (G.length : Int) := by omega
    have HLT := Lib.hid hlt
    obtain ⟨O, co, rfl⟩ := own_slice HR.out
    have rlI : (R.length : Int) ≤ 1000000 := by have := HRL.out; have := HF.out; omega
    clear hp hlt hm q0 q1 q2
    go_wp2_with fail
    go_loopw [5] (fun a ws => ∃ k : Nat, a = .int .i64 (k : Int) ∧ k ≤ R.length ∧ Hid (∀ j q, j < k → R[j]? = some q → q.name < p.name) ∧ Hid (ws.ownsRow w.heap.size 45 3 (.slice O R.length co) R.length (R.flatMap rcells)) ∧ Hid (Ext w ws)) (fun a _ => R.length - (intOf a).toNat)
    case atStart => exact ⟨0, rfl, by omega, fun j q hj => by omega, HR.out, HX.out⟩
    case round =>
      obtain ⟨k, rfl, hk, HK, HR2, HX3⟩ := hrel
      obtain ⟨q0, t1, t2⟩ := HGC.out wr HX3.out
      clear t1 t2
      unfold encStr at q0
      have q3 := ext_cell HX3.out HC.out
      have HKR := Lib.hid hk
      clear c1
      by_cases hkr : k < R.length
      · obtain ⟨g2, c2, he, q5, t3, t4⟩ := rrow_cell HR2.out hkr
        clear t3 t4
        injection he with he1 he2 he3
        subst he1 he3
        obtain ⟨q, hq⟩ : ∃ q, q = R[k] := ⟨_, rfl⟩
        rw [← hq] at q5
        unfold encStr at q5
        have HQ : Hid (R[k]? = some q) := by rw [hq]; exact List.getElem?_eq_getElem hkr
        have d3 : decide ((k : Int) < (R.length : Int)) = true := by simp; omega
        have d4 : decide (k < R.length) = true := by simp; omega
        have n5 : (0 : Int) ≤ (k : Int) := by omega
        have n6 : (k : Int) < (R.length : Int) := by omega
        have hw3 : wrap64 ((k : Int) + 1) = ((k + 1 : Nat) : Int) := by unfold wrap64; omega
        have HKL := Lib.hid hkr
        clear hq hkr hk
        by_cases hlt2 : q.name < p.name
        · have e : Op.bytesLess q.name p.name = true := by rw [bytesLess_eq]; exact decide_eq_true hlt2
          have HLQ := Lib.hid hlt2
          clear hlt2
          go_wp2_with fail
          go_quiet (fail)
          go_wp2_with fail
          refine ⟨⟨k + 1, rfl, HKL.out, fun j y hj hy => ?_, HR2.out, below_drewN HX3.out _⟩, by have := HKL.out; simp [intOf]; omega⟩
          by_cases hjk : j = k
          · rw [hjk, HQ.out] at hy
            injection hy with hy
            rw [← hy]; exact HLQ.out
          · exact HK.out j y (by omega) hy
        · have e : Op.bytesLess q.name p.name = false := by rw [bytesLess_eq]; exact decide_eq_false hlt2
          have HST2 : Hid (∀ q', R[k]? = some q' → ¬ q'.name < p.name) := fun q' hq' => by rw [HQ.out] at hq'; injection hq' with hq'; rw [← hq']; exact hlt2
          clear hlt2 hw3
          go_wp2_with fail
          go_quiet (fail)
          obtain ⟨O, hO⟩ : ∃ O, O = some (⟨g2, 0, none⟩ : Addr) := ⟨_, rfl⟩
          rw [← hO] at HR2 ⊢
          obtain ⟨w1, hw1⟩ : ∃ x, x = wr.drewN nq := ⟨_, rfl⟩
          rw [← hw1]
          have HX4 : Hid (Ext w w1) := by rw [hw1]; exact below_drewN HX3.out _
          have HR4 : Hid (w1.ownsRow w.heap.size 45 3 (.slice O R.length co) R.length (R.flatMap rcells)) := by rw [hw1]; exact HR2.out
          have HCB : Hid (w1.cell? ⟨r, 1, none⟩ = some (.slice (some ⟨g, 0, none⟩) G.length c)) := ext_cell HX4.out HC.out
          have HCO : Hid (R.length ≤ co ∧ (O = none → co = 0 ∧ R = [])) := by
            rcases own_cells HR4.out with ⟨e, hz⟩ | ⟨g5, c5, e, h5, _⟩
            · injection e with e1 e2 e3
              exact ⟨by omega, fun _ => ⟨e3, List.length_eq_zero_iff.1 hz⟩⟩
            · injection e with e1 e2 e3
              exact ⟨by omega, fun h => by rw [e1] at h; cases h⟩
          have HSO : Hid (∀ z, Ext w1 z → ∀ ad, O = some ad → ∀ j q, (R.flatMap rcells)[j]? = some q → z.cell? (ad.add j) = some q) := fun z hz ad hO j q' hj => by
            rcases own_cells HR4.out with ⟨e, _⟩ | ⟨g5, c5, e, _, _, _, h5⟩
            · injection e with e1; rw [hO] at e1; cases e1
            · injection e with e1
              rw [hO] at e1
              injection e1 with e1
              rw [e1, addr_add, Nat.zero_add]
              exact h5 z hz j q' hj
          clear hO q0 q3 q5 hw1
          have HTK : Hid ((R.take k).length = k) := by rw [Hid, List.length_take, Nat.min_eq_left HKR.out]
          have HST : Hid (∀ z, Ext w1 z → Src (.slice O k co) k ((R.take k).flatMap rcells) z) := fun z hz => by
            cases O with
            | none =>
              obtain ⟨h1, h2⟩ := HCO.out.2 rfl
              have h3 : k = 0 := by have := HKR.out; rw [h2] at this; simpa using this
              exact .inl ⟨by rw [h1, h3], by rw [h2]; simp, h3⟩
            | some ad =>
              refine .inr ⟨ad, co, rfl, fun j q' hj => HSO.out z hz ad rfl j q' ?_⟩
              rw [flat_take] at hj
              rw [List.getElem?_take] at hj
              split at hj
              · exact hj
              · cases hj
          obtain ⟨X, hX⟩ : ∃ X, X = if co = k then O else O.map (·.add (k * 3)) := ⟨_, rfl⟩
          have HEX := Lib.hid hX
          clear hX
          have HSD : Hid (∀ z, Ext w1 z → Src (.slice X (R.length - k) (co - k)) (R.length - k) ((R.drop k).flatMap rcells) z) := fun z hz => by
            rw [HEX.out]
            have hkr := HKR.out
            have hco := HCO.out.1
            cases O with
            | none =>
              obtain ⟨h1, h2⟩ := HCO.out.2 rfl
              have h3 : k = 0 := by have := HKR.out; rw [h2] at this; simpa using this
              refine .inl ⟨?_, by rw [h2]; simp, by rw [h2]; simp⟩
              rw [h1, h3, h2]; simp
            | some ad =>
              by_cases hck : co = k
              · rw [if_pos hck]
                refine .inr ⟨ad, co - k, rfl, fun j q' hj => ?_⟩
                have : R.drop k = [] := List.drop_eq_nil_of_le (by omega)
                rw [this] at hj
                simp at hj
              · rw [if_neg hck]
                refine .inr ⟨ad.add (k * 3), co - k, rfl, fun j q' hj => ?_⟩
                rw [flat_drop R k hkr, List.getElem?_drop] at hj
                rw [Addr.add_add]
                exact HSO.out z hz ad rfl _ q' hj
          have hcw := HCO.out.1
          have HGC1 : Hid (∀ z, Ext w1 z → z.cell? ⟨g, i * 3, none⟩ = some (encStr p.name) ∧ z.cell? ⟨g, i * 3 + 1, none⟩ = some (encStr p.sure) ∧ z.cell? ⟨g, i * 3 + 2, none⟩ = some (encStr p.loose)) := fun z hz => HGC.out z (Ext.trans HX4.out hz)
          clear hcw
          go_upto_region 8 with (fail)
          refine Fi.flowC (by kernel_rfl) (PutI R.length k w1 (filV r (.slice O R.length co) (.slice O k co) (.slice X (R.length - k) (co - k)) k (.slice (some ⟨g, 0, none⟩) G.length c) i g (.agg (rcells p).toArray)) ((R.take k).flatMap rcells) (rcells p) ((R.drop k).flatMap rcells)) (by kernel_rfl) (by kernel_rfl) (fun f => PutI.start f rfl) (fun f => ?obl) ?fin
          case fin =>
            intro f1 seen z hall hI
            simp only [puts, Act.put, List.setIfInBounds_toArray, List.set_cons_zero, List.set_cons_succ]
            have hrow := hI.r16 (hall 16 (by decide))
            rw [hI.r17 (hall 17 (by decide))]
            have HZ1 := Lib.hid (Ext.trans HX4.out hI.pre)
            have HRW := Lib.hid (ownsRow_base3 hrow HX4.out.size)
            clear hrow hall hI
            go_wp2_with fail
            have hl : (R.take k ++ ([p] ++ R.drop k)).length = k + 1 + (R.length - k) := by
              rw [List.length_append, HTK.out, List.length_append, List.length_drop]; simp; omega
            refine ⟨⟨i + 1, R.take k ++ ([p] ++ R.drop k), by first | rfl | rw [HW2.out], HLT.out, ⟨?_, put_sdf HRP.out.2 HKR.out HK.out HST2.out⟩, ?_, HZ1.out⟩, by (try rw [HW2.out]); have := HLT.out; simp [intOf]; omega⟩
            · rw [List.take_add_one, HP1.out]; exact put_permF k HRP.out.1
            · unfold Hid
              rw [hl, List.flatMap_append, List.flatMap_append, ← List.append_assoc]
              simpa using HRW.out
          case obl =>
            refine ⟨fun seen z hI hc hk hs => ?_, ?_⟩
            · go_simp
              exact hI.read (k := 0) (by rfl) (by decide)
            refine ⟨fun seen z hI hc hk hs => ?_, ?_⟩
            · simp only [Act.put, List.setIfInBounds_toArray, List.set_cons_zero, List.set_cons_succ]
              go_simp
              exact hI.read (k := 1) (by rfl) (by decide)
            refine ⟨fun seen z hI hc hk hs => ?_, ?_⟩
            · simp only [Act.put, List.setIfInBounds_toArray, List.set_cons_zero, List.set_cons_succ]
              have e0 := hI.vals 0 _ rfl (hs 0 (by kernel_rfl))
              have e1 := hI.vals 1 _ rfl (hs 1 (by kernel_rfl))
              have hsl := fslice_to O R.length co k HKR.out HCO.out.1 z
              go_simp
              exact hI.read (k := 2) (by rfl) (by decide)
            refine ⟨fun seen z hI hc hk hs => ?_, ?_⟩
            · simp only [Act.put, List.setIfInBounds_toArray, List.set_cons_zero, List.set_cons_succ]
              have e2 := hI.vals 2 _ rfl (hs 2 (by kernel_rfl))
              rw [if_pos (by rfl)]
              refine gives_addfiles (.const (.slice none 0 0)) (.tmp 43) rfl z.heap.size (.slice none 0 0) 0 [] rfl (World.ownsRow_nil _ _ _ _) (.slice O k co) k ((R.take k).flatMap rcells) e2 (HST.out z hI.pre) (by rw [flat_length, HTK.out]) (rcells_one _) (by have := HF.out; have := HRL.out; have := HKR.out; have := HLT.out; omega) (Nat.le_refl _) ?_
              intro v2 z2 hrow2 hbel
              rw [Nat.zero_add, List.nil_append] at hrow2
              exact hI.three hk (fun h => hc 12 _ rfl h 3 (by kernel_rfl)) rfl v2 (hbel z (Below.refl _ _)) hrow2 (fun h => hc 16 _ rfl h 12 (by kernel_rfl)) (fun h => hc 17 _ rfl h 16 (by kernel_rfl))
            refine ⟨fun seen z hI hc hk hs => ?_, ?_⟩
            · simp only [Act.put, List.setIfInBounds_toArray, List.set_cons_zero, List.set_cons_succ]
              go_simp
              exact hI.read (k := 4) (by rfl) (by decide)
            refine ⟨fun seen z hI hc hk hs => ?_, ?_⟩
            · simp only [Act.put, List.setIfInBounds_toArray, List.set_cons_zero, List.set_cons_succ]
              have e4 := hI.vals 4 _ rfl (hs 4 (by kernel_rfl))
              have hx := hI.pre
              have q0 := ext_cell hx HCB.out
              go_simp
              exact hI.read (k := 5) (by rfl) (by decide)
            refine ⟨fun seen z hI hc hk hs => ?_, ?_⟩
            · simp only [Act.put, List.setIfInBounds_toArray, List.set_cons_zero, List.set_cons_succ]
              have e5 := hI.vals 5 _ rfl (hs 5 (by kernel_rfl))
              go_simp
              exact hI.read (k := 6) (by rfl) (by decide)
            refine ⟨fun seen z hI hc hk hs => ?_, ?_⟩
            · simp only [Act.put, List.setIfInBounds_toArray, List.set_cons_zero, List.set_cons_succ]
              have e6 := hI.vals 6 _ rfl (hs 6 (by kernel_rfl))
              have hx := hI.pre
              have q0 := ext_cell hx HCB.out
              go_simp
              exact hI.read (k := 7) (by rfl) (by decide)
            refine ⟨fun seen z hI hc hk hs => ?_, ?_⟩
            · simp only [Act.put, List.setIfInBounds_toArray, List.set_cons_zero, List.set_cons_succ]
              go_simp
              exact hI.read (k := 8) (by rfl) (by decide)
            refine ⟨fun seen z hI hc hk hs => ?_, ?_⟩
            · simp only [Act.put, List.setIfInBounds_toArray, List.set_cons_zero, List.set_cons_succ]
              have e7 := hI.vals 7 _ rfl (hs 7 (by kernel_rfl))
              have e8 := hI.vals 8 _ rfl (hs 8 (by kernel_rfl))
              have n3 : (0 : Int) ≤ (i : Int) := by omega
              have n4 : (i : Int) < (G.length : Int) := by have := HLT.out; omega
              go_simp
              exact hI.read (k := 9) (by rfl) (by decide)
            refine ⟨fun seen z hI hc hk hs => ?_, ?_⟩
            · simp only [Act.put, List.setIfInBounds_toArray, List.set_cons_zero, List.set_cons_succ]
              have e9 := hI.vals 9 _ rfl (hs 9 (by kernel_rfl))
              have hx := hI.pre
              have q0 := ext_cell hx HCB.out
              obtain ⟨d0, d1, d2⟩ := HGC1.out z hx
              have n3 : (0 : Int) ≤ (i : Int) := by omega
              have n4 : (i : Int) < (G.length : Int) := by have := HLT.out; omega
              go_simp
              exact hI.read (k := 10) (by rfl) (by decide)
            refine ⟨fun seen z hI hc hk hs => ?_, ?_⟩
            · simp only [Act.put, List.setIfInBounds_toArray, List.set_cons_zero, List.set_cons_succ]
              have e10 := hI.vals 10 _ rfl (hs 10 (by kernel_rfl))
              go_simp
              exact hI.eleven hk (fun h => hc 12 _ rfl h 11 (by kernel_rfl)) rfl (fun h => hc 16 _ rfl h 12 (by kernel_rfl)) (fun h => hc 17 _ rfl h 16 (by kernel_rfl))
            refine ⟨fun seen z hI hc hk hs => ?_, ?_⟩
            · simp only [Act.put, List.setIfInBounds_toArray, List.set_cons_zero, List.set_cons_succ]
              have s3 := hs 3 (by kernel_rfl)
              have s11 := hs 11 (by kernel_rfl)
              have r3 := hI.r3 s3 hk
              obtain ⟨g2, e11, hg⟩ := hI.r11 s11 hk
              rw [if_pos (by rfl)]
              refine gives_addfiles (.tmp 44) (.tmp 52) rfl w1.heap.size (f 3) k ((R.take k).flatMap rcells) rfl r3 (.slice (some ⟨g2, 0, none⟩) 1 1) 1 (rcells p) e11 (.inr ⟨⟨g2, 0, none⟩, 1, rfl, fun j q hj => ?_⟩) (rcells_length _) (one_cells _) (by have := HF.out; have := HRL.out; have := HKR.out; have := HLT.out; omega) hI.pre.size ?_
              · rw [addr_add, Nat.zero_add]; exact cell_of hg (by simpa using hj)
              intro v2 z2 hrow2 hbel
              exact hI.twelve hk (fun h => hc 16 _ rfl h 12 (by kernel_rfl)) rfl v2 hbel hrow2 (fun h => hc 17 _ rfl h 16 (by kernel_rfl))
            refine ⟨fun seen z hI hc hk hs => ?_, ?_⟩
            · simp only [Act.put, List.setIfInBounds_toArray, List.set_cons_zero, List.set_cons_succ]
              go_simp
              exact hI.read (k := 13) (by rfl) (by decide)
            refine ⟨fun seen z hI hc hk hs => ?_, ?_⟩
            · simp only [Act.put, List.setIfInBounds_toArray, List.set_cons_zero, List.set_cons_succ]
              go_simp
              exact hI.read (k := 14) (by rfl) (by decide)
            refine ⟨fun seen z hI hc hk hs => ?_, ?_⟩
            · simp only [Act.put, List.setIfInBounds_toArray, List.set_cons_zero, List.set_cons_succ]
              have e13 := hI.vals 13 _ rfl (hs 13 (by kernel_rfl))
              have e14 := hI.vals 14 _ rfl (hs 14 (by kernel_rfl))
              have hsl := fslice_from O R.length co k HKR.out HCO.out.1 z
              go_simp
              rw [← HEX.out]
              exact hI.read (k := 15) (by rfl) (by decide)
            refine ⟨fun seen z hI hc hk hs => ?_, ?_⟩
            · simp only [Act.put, List.setIfInBounds_toArray, List.set_cons_zero, List.set_cons_succ]
              have s12 := hs 12 (by kernel_rfl)
              have e15 := hI.vals 15 _ rfl (hs 15 (by kernel_rfl))
              have r12 := hI.r12 s12 hk
              rw [if_pos (by rfl)]
              refine gives_addfiles (.tmp 53) (.tmp 56) rfl w1.heap.size (f 12) (k + 1) ((R.take k).flatMap rcells ++ rcells p) rfl r12 (.slice X (R.length - k) (co - k)) (R.length - k) ((R.drop k).flatMap rcells) e15 (HSD.out z hI.pre) (by rw [flat_length, List.length_drop]) (rcells_one _) (by have := HF.out; have := HRL.out; have := HKR.out; have := HLT.out; omega) hI.pre.size ?_
              intro v2 z2 hrow2 hbel
              exact hI.sixteen hk (fun h => hc 17 _ rfl h 16 (by kernel_rfl)) rfl v2 hbel hrow2 s12
            refine ⟨fun seen z hI hc hk hs => ?_, ?_⟩
            · simp only [Act.put, List.setIfInBounds_toArray, List.set_cons_zero, List.set_cons_succ]
              have s16 := hs 16 (by kernel_rfl)
              go_simp
              exact hI.seventeen hk rfl
            trivial
      · have d3 : decide ((k : Int) < (R.length : Int)) = false := by simp; omega
        have d4 : decide (k < R.length) = false := by simp; omega
        have HST2 : Hid (∀ q', R[k]? = some q' → ¬ q'.name < p.name) := fun q' hq' => by rw [List.getElem?_eq_none (by omega)] at hq'; cases hq'
        clear hkr hk
        go_wp2_with fail
        go_quiet (fail)
        obtain ⟨w1, hw1⟩ : ∃ x, x = wr.drewN nq := ⟨_, rfl⟩
        rw [← hw1]
        have HX4 : Hid (Ext w w1) := by rw [hw1]; exact below_drewN HX3.out _
        have HR4 : Hid (w1.ownsRow w.heap.size 45 3 (.slice O R.length co) R.length (R.flatMap rcells)) := by rw [hw1]; exact HR2.out
        have HCB : Hid (w1.cell? ⟨r, 1, none⟩ = some (.slice (some ⟨g, 0, none⟩) G.length c)) := ext_cell HX4.out HC.out
        have HCO : Hid (R.length ≤ co ∧ (O = none → co = 0 ∧ R = [])) := by
          rcases own_cells HR4.out with ⟨e, hz⟩ | ⟨g5, c5, e, h5, _⟩
          · injection e with e1 e2 e3
            exact ⟨by omega, fun _ => ⟨e3, List.length_eq_zero_iff.1 hz⟩⟩
          · injection e with e1 e2 e3
            exact ⟨by omega, fun h => by rw [e1] at h; cases h⟩
        have HSO : Hid (∀ z, Ext w1 z → ∀ ad, O = some ad → ∀ j q, (R.flatMap rcells)[j]? = some q → z.cell? (ad.add j) = some q) := fun z hz ad hO j q' hj => by
          rcases own_cells HR4.out with ⟨e, _⟩ | ⟨g5, c5, e, _, _, _, h5⟩
          · injection e with e1; rw [hO] at e1; cases e1
          · injection e with e1
            rw [hO] at e1
            injection e1 with e1
            rw [e1, addr_add, Nat.zero_add]
            exact h5 z hz j q' hj
        clear q0 q3 hw1
        have HTK : Hid ((R.take k).length = k) := by rw [Hid, List.length_take, Nat.min_eq_left HKR.out]
        have HST : Hid (∀ z, Ext w1 z → Src (.slice O k co) k ((R.take k).flatMap rcells) z) := fun z hz => by
          cases O with
          | none =>
            obtain ⟨h1, h2⟩ := HCO.out.2 rfl
            have h3 : k = 0 := by have := HKR.out; rw [h2] at this; simpa using this
            exact .inl ⟨by rw [h1, h3], by rw [h2]; simp, h3⟩
          | some ad =>
            refine .inr ⟨ad, co, rfl, fun j q' hj => HSO.out z hz ad rfl j q' ?_⟩
            rw [flat_take] at hj
            rw [List.getElem?_take] at hj
            split at hj
            · exact hj
            · cases hj
        obtain ⟨X, hX⟩ : ∃ X, X = if co = k then O else O.map (·.add (k * 3)) := ⟨_, rfl⟩
        have HEX := Lib.hid hX
        clear hX
        have HSD : Hid (∀ z, Ext w1 z → Src (.slice X (R.length - k) (co - k)) (R.length - k) ((R.drop k).flatMap rcells) z) := fun z hz => by
          rw [HEX.out]
          have hkr := HKR.out
          have hco := HCO.out.1
          cases O with
          | none =>
            obtain ⟨h1, h2⟩ := HCO.out.2 rfl
            have h3 : k = 0 := by have := HKR.out; rw [h2] at this; simpa using this
            refine .inl ⟨?_, by rw [h2]; simp, by rw [h2]; simp⟩
            rw [h1, h3, h2]; simp
          | some ad =>
            by_cases hck : co = k
            · rw [if_pos hck]
              refine .inr ⟨ad, co - k, rfl, fun j q' hj => ?_⟩
              have : R.drop k = [] := List.drop_eq_nil_of_le (by omega)
              rw [this] at hj
              simp at hj
            · rw [if_neg hck]
              refine .inr ⟨ad.add (k * 3), co - k, rfl, fun j q' hj => ?_⟩
              rw [flat_drop R k hkr, List.getElem?_drop] at hj
              rw [Addr.add_add]
              exact HSO.out z hz ad rfl _ q' hj
        have hcw := HCO.out.1
        have HGC1 : Hid (∀ z, Ext w1 z → z.cell? ⟨g, i * 3, none⟩ = some (encStr p.name) ∧ z.cell? ⟨g, i * 3 + 1, none⟩ = some (encStr p.sure) ∧ z.cell? ⟨g, i * 3 + 2, none⟩ = some (encStr p.loose)) := fun z hz => HGC.out z (Ext.trans HX4.out hz)
        clear hcw
        go_upto_region 8 with (fail)
        refine Fi.flowC (by kernel_rfl) (PutI R.length k w1 (filV r (.slice O R.length co) (.slice O k co) (.slice X (R.length - k) (co - k)) k (.slice (some ⟨g, 0, none⟩) G.length c) i g (.agg (rcells p).toArray)) ((R.take k).flatMap rcells) (rcells p) ((R.drop k).flatMap rcells)) (by kernel_rfl) (by kernel_rfl) (fun f => PutI.start f rfl) (fun f => ?obl) ?fin
        case fin =>
          intro f1 seen z hall hI
          simp only [puts, Act.put, List.setIfInBounds_toArray, List.set_cons_zero, List.set_cons_succ]
          have hrow := hI.r16 (hall 16 (by decide))
          rw [hI.r17 (hall 17 (by decide))]
          have HZ1 := Lib.hid (Ext.trans HX4.out hI.pre)
          have HRW := Lib.hid (ownsRow_base3 hrow HX4.out.size)
          clear hrow hall hI
          go_wp2_with fail
          have hl : (R.take k ++ ([p] ++ R.drop k)).length = k + 1 + (R.length - k) := by
            rw [List.length_append, HTK.out, List.length_append, List.length_drop]; simp; omega
          refine ⟨⟨i + 1, R.take k ++ ([p] ++ R.drop k), by first | rfl | rw [HW2.out], HLT.out, ⟨?_, put_sdf HRP.out.2 HKR.out HK.out HST2.out⟩, ?_, HZ1.out⟩, by (try rw [HW2.out]); have := HLT.out; simp [intOf]; omega⟩
          · rw [List.take_add_one, HP1.out]; exact put_permF k HRP.out.1
          · unfold Hid
            rw [hl, List.flatMap_append, List.flatMap_append, ← List.append_assoc]
            simpa using HRW.out
        case obl =>
          refine ⟨fun seen z hI hc hk hs => ?_, ?_⟩
          · go_simp
            exact hI.read (k := 0) (by rfl) (by decide)
          refine ⟨fun seen z hI hc hk hs => ?_, ?_⟩
          · simp only [Act.put, List.setIfInBounds_toArray, List.set_cons_zero, List.set_cons_succ]
            go_simp
            exact hI.read (k := 1) (by rfl) (by decide)
          refine ⟨fun seen z hI hc hk hs => ?_, ?_⟩
          · simp only [Act.put, List.setIfInBounds_toArray, List.set_cons_zero, List.set_cons_succ]
            have e0 := hI.vals 0 _ rfl (hs 0 (by kernel_rfl))
            have e1 := hI.vals 1 _ rfl (hs 1 (by kernel_rfl))
            have hsl := fslice_to O R.length co k HKR.out HCO.out.1 z
            go_simp
            exact hI.read (k := 2) (by rfl) (by decide)
          refine ⟨fun seen z hI hc hk hs => ?_, ?_⟩
          · simp only [Act.put, List.setIfInBounds_toArray, List.set_cons_zero, List.set_cons_succ]
            have e2 := hI.vals 2 _ rfl (hs 2 (by kernel_rfl))
            rw [if_pos (by rfl)]
            refine gives_addfiles (.const (.slice none 0 0)) (.tmp 43) rfl z.heap.size (.slice none 0 0) 0 [] rfl (World.ownsRow_nil _ _ _ _) (.slice O k co) k ((R.take k).flatMap rcells) e2 (HST.out z hI.pre) (by rw [flat_length, HTK.out]) (rcells_one _) (by have := HF.out; have := HRL.out; have := HKR.out; have := HLT.out; omega) (Nat.le_refl _) ?_
            intro v2 z2 hrow2 hbel
            rw [Nat.zero_add, List.nil_append] at hrow2
            exact hI.three hk (fun h => hc 12 _ rfl h 3 (by kernel_rfl)) rfl v2 (hbel z (Below.refl _ _)) hrow2 (fun h => hc 16 _ rfl h 12 (by kernel_rfl)) (fun h => hc 17 _ rfl h 16 (by kernel_rfl))
          refine ⟨fun seen z hI hc hk hs => ?_, ?_⟩
          · simp only [Act.put, List.setIfInBounds_toArray, List.set_cons_zero, List.set_cons_succ]
            go_simp
            exact hI.read (k := 4) (by rfl) (by decide)
          refine ⟨fun seen z hI hc hk hs => ?_, ?_⟩
          · simp only [Act.put, List.setIfInBounds_toArray, List.set_cons_zero, List.set_cons_succ]
            have e4 := hI.vals 4 _ rfl (hs 4 (by kernel_rfl))
            have hx := hI.pre
            have q0 := ext_cell hx HCB.out
            go_simp
            exact hI.read (k := 5) (by rfl) (by decide)
          refine ⟨fun seen z hI hc hk hs => ?_, ?_⟩
          · simp only [Act.put, List.setIfInBounds_toArray, List.set_cons_zero, List.set_cons_succ]
            have e5 := hI.vals 5 _ rfl (hs 5 (by kernel_rfl))
            go_simp
            exact hI.read (k := 6) (by rfl) (by decide)
          refine ⟨fun seen z hI hc hk hs => ?_, ?_⟩
          · simp only [Act.put, List.setIfInBounds_toArray, List.set_cons_zero, List.set_cons_succ]
            have e6 := hI.vals 6 _ rfl (hs 6 (by kernel_rfl))
            have hx := hI.pre
            have q0 := ext_cell hx HCB.out
            go_simp
            exact hI.read (k := 7) (by rfl) (by decide)
          refine ⟨fun seen z hI hc hk hs => ?_, ?_⟩
          · simp only [Act.put, List.setIfInBounds_toArray, List.set_cons_zero, List.set_cons_succ]
            go_simp
            exact hI.read (k := 8) (by rfl) (by decide)
          refine ⟨fun seen z hI hc hk hs => ?_, ?_⟩
          · simp only [Act.put, List.setIfInBounds_toArray, List.set_cons_zero, List.set_cons_succ]
            have e7 := hI.vals 7 _ rfl (hs 7 (by kernel_rfl))
            have e8 := hI.vals 8 _ rfl (hs 8 (by kernel_rfl))
            have n3 : (0 : Int) ≤ (i : Int) := by omega
            have n4 : (i : Int) < (G.length : Int) := by have := HLT.out; omega
            go_simp
            exact hI.read (k := 9) (by rfl) (by decide)
          refine ⟨fun seen z hI hc hk hs => ?_, ?_⟩
          · simp only [Act.put, List.setIfInBounds_toArray, List.set_cons_zero, List.set_cons_succ]
            have e9 := hI.vals 9 _ rfl (hs 9 (by kernel_rfl))
            have hx := hI.pre
            have q0 := ext_cell hx HCB.out
            obtain ⟨d0, d1, d2⟩ := HGC1.out z hx
            have n3 : (0 : Int) ≤ (i : Int) := by omega
            have n4 : (i : Int) < (G.length : Int) := by have := HLT.out; omega
            go_simp
            exact hI.read (k := 10) (by rfl) (by decide)
          refine ⟨fun seen z hI hc hk hs => ?_, ?_⟩
          · simp only [Act.put, List.setIfInBounds_toArray, List.set_cons_zero, List.set_cons_succ]
            have e10 := hI.vals 10 _ rfl (hs 10 (by kernel_rfl))
            go_simp
            exact hI.eleven hk (fun h => hc 12 _ rfl h 11 (by kernel_rfl)) rfl (fun h => hc 16 _ rfl h 12 (by kernel_rfl)) (fun h => hc 17 _ rfl h 16 (by kernel_rfl))
          refine ⟨fun seen z hI hc hk hs => ?_, ?_⟩
          · simp only [Act.put, List.setIfInBounds_toArray, List.set_cons_zero, List.set_cons_succ]
            have s3 := hs 3 (by kernel_rfl)
            have s11 := hs 11 (by kernel_rfl)
            have r3 := hI.r3 s3 hk
            obtain ⟨g2, e11, hg⟩ := hI.r11 s11 hk
            rw [if_pos (by rfl)]
            refine gives_addfiles (.tmp 44) (.tmp 52) rfl w1.heap.size (f 3) k ((R.take k).flatMap rcells) rfl r3 (.slice (some ⟨g2, 0, none⟩) 1 1) 1 (rcells p) e11 (.inr ⟨⟨g2, 0, none⟩, 1, rfl, fun j q hj => ?_⟩) (rcells_length _) (one_cells _) (by have := HF.out; have := HRL.out; have := HKR.out; have := HLT.out; omega) hI.pre.size ?_
            · rw [addr_add, Nat.zero_add]; exact cell_of hg (by simpa using hj)
            intro v2 z2 hrow2 hbel
            exact hI.twelve hk (fun h => hc 16 _ rfl h 12 (by kernel_rfl)) rfl v2 hbel hrow2 (fun h => hc 17 _ rfl h 16 (by kernel_rfl))
          refine ⟨fun seen z hI hc hk hs => ?_, ?_⟩
          · simp only [Act.put, List.setIfInBounds_toArray, List.set_cons_zero, List.set_cons_succ]
            go_simp
            exact hI.read (k := 13) (by rfl) (by decide)
          refine ⟨fun seen z hI hc hk hs => ?_, ?_⟩
          · simp only [Act.put, List.setIfInBounds_toArray, List.set_cons_zero, List.set_cons_succ]
            go_simp
            exact hI.read (k := 14) (by rfl) (by decide)
          refine ⟨fun seen z hI hc hk hs => ?_, ?_⟩
          · simp only [Act.put, List.setIfInBounds_toArray, List.set_cons_zero, List.set_cons_succ]
            have e13 := hI.vals 13 _ rfl (hs 13 (by kernel_rfl))
            have e14 := hI.vals 14 _ rfl (hs 14 (by kernel_rfl))
            have hsl := fslice_from O R.length co k HKR.out HCO.out.1 z
            go_simp
            rw [← HEX.out]
            exact hI.read (k := 15) (by rfl) (by decide)
          refine ⟨fun seen z hI hc hk hs => ?_, ?_⟩
          · simp only [Act.put, List.setIfInBounds_toArray, List.set_cons_zero, List.set_cons_succ]
            have s12 := hs 12 (by kernel_rfl)
            have e15 := hI.vals 15 _ rfl (hs 15 (by kernel_rfl))
            have r12 := hI.r12 s12 hk
            rw [if_pos (by rfl)]
            refine gives_addfiles (.tmp 53) (.tmp 56) rfl w1.heap.size (f 12) (k + 1) ((R.take k).flatMap rcells ++ rcells p) rfl r12 (.slice X (R.length - k) (co - k)) (R.length - k) ((R.drop k).flatMap rcells) e15 (HSD.out z hI.pre) (by rw [flat_length, List.length_drop]) (rcells_one _) (by have := HF.out; have := HRL.out; have := HKR.out; have := HLT.out; omega) hI.pre.size ?_
            intro v2 z2 hrow2 hbel
            exact hI.sixteen hk (fun h => hc 17 _ rfl h 16 (by kernel_rfl)) rfl v2 hbel hrow2 s12
          refine ⟨fun seen z hI hc hk hs => ?_, ?_⟩
          · simp only [Act.put, List.setIfInBounds_toArray, List.set_cons_zero, List.set_cons_succ]
            have s16 := hs 16 (by kernel_rfl)
            go_simp
            exact hI.seventeen hk rfl
          trivial
end Go.Proofs.Ytenhfphgobalfaa

/- The reference's disk: Same. -/
namespace Go.Proofs.Ytenhfphgobalfaa
open Go.RowKit

set_option maxRecDepth 100000 in
set_option maxHeartbeats 8000000 in
theorem sameRef_nil (w : World) : Calls Try.prog 32 #[.pointer none, .pointer none] w fun e w' => e = .returned (.bool true) ∧ Ext w w' := by
  go_enter Try.func32, Try.ntmps32
  go_wp2_with fail
  go_ret
  exact ⟨rfl, Ext.refl _⟩
set_option maxRecDepth 100000 in
set_option maxHeartbeats 8000000 in
theorem sameRef_nol (w : World) (a : Addr) : Calls Try.prog 32 #[.pointer none, .pointer (some a)] w fun e w' => e = .returned (.bool false) ∧ Ext w w' := by
  go_enter Try.func32, Try.ntmps32
  go_wp2_with fail
  go_ret
  exact ⟨rfl, Ext.refl _⟩
set_option maxRecDepth 100000 in
set_option maxHeartbeats 8000000 in
theorem sameRef_nor (w : World) (a : Addr) : Calls Try.prog 32 #[.pointer (some a), .pointer none] w fun e w' => e = .returned (.bool false) ∧ Ext w w' := by
  go_enter Try.func32, Try.ntmps32
  go_wp2_with fail
  go_ret
  exact ⟨rfl, Ext.refl _⟩

/-- What the reference's Same says of two disks. -/
def SameRef (w : World) (room room2 : Nat) (G G2 : List RFl) (e : Ending) (w' : World) : Prop := ∃ RA RB z, RA.Perm G ∧ SdF RA ∧ RB.Perm G2 ∧ SdF RB ∧ e = .returned (.bool z) ∧ (z = true ↔ room = room2 ∧ RA = RB) ∧ Ext w w'

set_option maxRecDepth 100000 in
set_option maxHeartbeats 8000000 in
theorem sameRef_any {w : World} {B r room B2 r2 room2 : Nat} {G G2 : List RFl} (h : RD w B r room G) (h2 : RD w B2 r2 room2 G2) :
    Calls Try.prog 32 #[.pointer (some ⟨r, 0, none⟩), .pointer (some ⟨r2, 0, none⟩)] w (SameRef w room room2 G G2) := by
  obtain ⟨v, hblk, _⟩ := h.ex
  obtain ⟨v2, hblk2, _⟩ := h2.ex
  have HC : Hid (w.cell? ⟨r, 0, none⟩ = some (.int .i64 (room : Int))) := cell_of (k := 0) hblk rfl
  have HC2 : Hid (w.cell? ⟨r2, 0, none⟩ = some (.int .i64 (room2 : Int))) := cell_of (k := 0) hblk2 rfl
  have H := Lib.hid h
  have H2 := Lib.hid h2
  clear h h2 hblk hblk2
  go_enter Try.func32, Try.ntmps32
  go_wp2_with fail
  refine (filesRef_any H.out).mono ?_
  rintro e w1 ⟨va, RA, hpa, hsa, rfl, hra, hx1⟩
  have HPA := Lib.hid hpa
  have HSA := Lib.hid hsa
  have HRA := Lib.hid hra
  have HX1 := Lib.hid hx1
  have HLA : Hid (RA.length ≤ 1000000) := by rw [Hid, hpa.length_eq]; exact H.out.len
  clear hpa hsa hra hx1
  go_wp2_with fail
  refine (filesRef_any (H2.out.ext HX1.out)).mono ?_
  rintro e w2 ⟨vb, RB, hpb, hsb, rfl, hrb, hx2⟩
  have HPB := Lib.hid hpb
  have HSB := Lib.hid hsb
  have HRB := Lib.hid hrb
  have HX2 := Lib.hid hx2
  have HRA2 := Lib.hid (own_ext HRA.out hx2)
  have HLB : Hid (RB.length ≤ 1000000) := by rw [Hid, hpb.length_eq]; exact H2.out.len
  have HXX := Lib.hid (Ext.trans HX1.out hx2)
  clear hpb hsb hrb hx2
  obtain ⟨OA, ca, rfl⟩ := own_slice HRA2.out
  obtain ⟨OB, cb, rfl⟩ := own_slice HRB.out
  have c0 := ext_cell HXX.out HC.out
  have c2 := ext_cell HXX.out HC2.out
  go_wp2_with fail
  by_cases hroom : room = room2
  rotate_left
  · have e1 : ((room : Int) != (room2 : Int)) = true := by simp; omega
    have HNR := Lib.hid hroom
    clear hroom
    go_quiet (fail)
    go_wp2_with fail
    go_ret
    exact ⟨RA, RB, false, HPA.out, HSA.out, HPB.out, HSB.out, rfl, ⟨fun h => (by cases h), fun h => absurd h.1 HNR.out⟩, below_drewN HXX.out _⟩
  have e1 : ((room : Int) != (room2 : Int)) = false := by simp; omega
  have HER := Lib.hid hroom
  clear hroom
  by_cases hlen : RA.length = RB.length
  rotate_left
  · have e2 : ((RA.length : Int) != (RB.length : Int)) = true := by simp; omega
    have HNL := Lib.hid hlen
    clear hlen
    go_quiet (fail)
    go_wp2_with fail
    go_ret
    exact ⟨RA, RB, false, HPA.out, HSA.out, HPB.out, HSB.out, rfl, ⟨fun h => (by cases h), fun h => absurd (by rw [h.2]) HNL.out⟩, below_drewN HXX.out _⟩
  have e2 : ((RA.length : Int) != (RB.length : Int)) = false := by simp; omega
  have HEL := Lib.hid hlen
  clear hlen
  go_quiet (fail)
  go_wp2_with fail
  obtain ⟨w3, hw3⟩ : ∃ x, x = w2.drewN nq := ⟨_, rfl⟩
  rw [← hw3]
  have HX3 : Hid (Ext w w3) := by rw [hw3]; exact below_drewN HXX.out _
  have HA3 : Hid (w3.ownsRow w.heap.size 45 3 (.slice OA RA.length ca) RA.length (RA.flatMap rcells)) := by rw [hw3]; exact HRA2.out
  have HB3 : Hid (w3.ownsRow w1.heap.size 45 3 (.slice OB RB.length cb) RB.length (RB.flatMap rcells)) := by rw [hw3]; exact HRB.out
  clear hw3 c0 c2 e1 e2
  go_loopw [7] (fun i wr => ∃ k : Nat, i = .int .i64 (k : Int) ∧ k ≤ RA.length ∧ Hid (∀ j a b, j < k → RA[j]? = some a → RB[j]? = some b → a = b) ∧ Hid (Ext w3 wr)) (fun i _ => RA.length - (intOf i).toNat)
  case atStart => exact ⟨0, rfl, by omega, fun j a b hj => by omega, Ext.refl _⟩
  case round =>
    obtain ⟨k, rfl, hk, HK, HX4⟩ := hrel
    have HWK : Hid (wrap64 ((k : Int) + 1) = ((k + 1 : Nat) : Int)) := by have := HLA.out; unfold Hid wrap64; omega
    by_cases hlt : k < RA.length
    rotate_left
    · have d : decide ((k : Int) < (RA.length : Int)) = false := by simp; omega
      have d2 : decide (k < RA.length) = false := by simp; omega
      have HALL : Hid (RA = RB) := by
        refine List.ext_getElem HEL.out fun j h1 h2 => ?_
        exact HK.out j _ _ (by omega) (List.getElem?_eq_getElem h1) (List.getElem?_eq_getElem h2)
      clear hlt hk
      go_wp2_with fail
      go_ret
      exact ⟨RA, RB, true, HPA.out, HSA.out, HPB.out, HSB.out, rfl, ⟨fun _ => ⟨HER.out, HALL.out⟩, fun _ => rfl⟩, Ext.trans HX3.out HX4.out⟩
    have d : decide ((k : Int) < (RA.length : Int)) = true := by simp; omega
    have d2 : decide (k < RA.length) = true := by simp; omega
    have hlt2 : k < RB.length := by have := HEL.out; omega
    obtain ⟨a, ha⟩ : ∃ a, RA[k]? = some a := ⟨_, List.getElem?_eq_getElem hlt⟩
    obtain ⟨b, hb⟩ : ∃ b, RB[k]? = some b := ⟨_, List.getElem?_eq_getElem hlt2⟩
    obtain ⟨ga, ca', he, q0, q1, q2⟩ := rrow_cell (own_ext HA3.out HX4.out) hlt
    injection he with he1 he2 he3
    subst he1 he3
    obtain ⟨gb, cb', he, p0, p1, p2⟩ := rrow_cell (own_ext HB3.out HX4.out) hlt2
    injection he with he1 he4 he3
    subst he1 he3
    rw [(List.getElem?_eq_some_iff.1 ha).2] at q0 q1 q2
    rw [(List.getElem?_eq_some_iff.1 hb).2] at p0 p1 p2
    have HAK := Lib.hid ha
    have HBK := Lib.hid hb
    have HKL := Lib.hid hlt
    have n3 : (0 : Int) ≤ (k : Int) := by omega
    have n4 : (k : Int) < (RA.length : Int) := by omega
    have n5 : (k : Int) < (RB.length : Int) := by omega
    obtain ⟨a0, a1, a2⟩ := a
    obtain ⟨b0, b1, b2⟩ := b
    unfold encStr at q0 q1 q2 p0 p1 p2
    dsimp only at q0 q1 q2 p0 p1 p2
    clear ha hb hlt hlt2 hk he2 he4
    obtain ⟨z, hz⟩ : ∃ z : Bool, z = !(a0 == b0 && (a1 == b1 && a2 == b2)) := ⟨_, rfl⟩
    have HZ := Lib.hid hz
    clear hz
    go_wp2_with fail
    refine flow (by kernel_rfl) [Is (.slice (some ⟨ga, 0, none⟩) RA.length ca), Is (.int .i64 (k : Int)), Is (.pointer (some ⟨ga, k * 3, none⟩)), Is (.agg #[.string ⟨a0.toArray⟩, .string ⟨a1.toArray⟩, .string ⟨a2.toArray⟩]), Is (.slice (some ⟨gb, 0, none⟩) RB.length cb), Is (.int .i64 (k : Int)), Is (.pointer (some ⟨gb, k * 3, none⟩)), Is (.agg #[.string ⟨b0.toArray⟩, .string ⟨b1.toArray⟩, .string ⟨b2.toArray⟩]), Is (.bool z)] (by kernel_rfl) (by kernel_rfl) ?mono (fun f1 => ?obl) ?fin
    case mono =>
      simp only [List.forall_mem_cons, List.not_mem_nil, false_imp_iff, implies_true, and_true]
      exact ⟨.is _, .is _, .is _, .is _, .is _, .is _, .is _, .is _, .is _⟩
    case fin =>
      intro g1 u hu hg
      simp only [puts, Act.put, List.setIfInBounds_toArray, List.set_cons_zero, List.set_cons_succ]
      have h8 : g1 8 = .bool z := hg 8 (by decide)
      rw [h8]
      have HXF : Hid (Ext w3 u) := Ext.trans HX4.out (Ext.trans (Ext.drew wr) hu)
      clear h8 hg hu
      have hw := HWK.out
      cases z
      · go_wp2_with fail
        have heq : a0 = b0 ∧ a1 = b1 ∧ a2 = b2 := by
          have := HZ.out
          simp only [Bool.false_eq, Bool.not_eq_false', Bool.and_eq_true, beq_iff_eq] at this
          exact this
        refine ⟨⟨k + 1, by first | rfl | rw [hw], HKL.out, fun j x y hj hx hy => ?_, HXF.out⟩, by (try rw [hw]); clear hw; have := HKL.out; simp [intOf]; omega⟩
        by_cases hjk : j = k
        · rw [hjk, HAK.out] at hx
          rw [hjk, HBK.out] at hy
          injection hx with hx
          injection hy with hy
          rw [← hx, ← hy, heq.1, heq.2.1, heq.2.2]
        · exact HK.out j x y (by omega) hx hy
      · go_wp2_with fail
        go_ret
        refine ⟨RA, RB, false, HPA.out, HSA.out, HPB.out, HSB.out, rfl, ⟨fun h => (by cases h), fun h => ?_⟩, Ext.trans HX3.out HXF.out⟩
        exfalso
        have h1 := HAK.out
        rw [h.2, HBK.out] at h1
        injection h1 with h1
        injection h1 with e1 e2 e3
        have h2 := HZ.out
        rw [e1, e2, e3] at h2
        simp at h2
    case obl =>
      refine ⟨fun u hu hd => ?_, ?_⟩
      · go_simp
        exact ⟨Ext.refl _, rfl⟩
      refine ⟨fun u hu hd => ?_, ?_⟩
      · simp only [Act.put, List.setIfInBounds_toArray, List.set_cons_zero, List.set_cons_succ]
        go_simp
        exact ⟨Ext.refl _, rfl⟩
      refine ⟨fun u hu hd => ?_, ?_⟩
      · simp only [Act.put, List.setIfInBounds_toArray, List.set_cons_zero, List.set_cons_succ]
        have e0 : f1 0 = (.slice (some ⟨ga, 0, none⟩) RA.length ca) := hd 0 (by kernel_rfl)
        have e1 : f1 1 = (.int .i64 (k : Int)) := hd 1 (by kernel_rfl)
        go_simp
        exact ⟨Ext.refl _, rfl⟩
      refine ⟨fun u hu hd => ?_, ?_⟩
      · simp only [Act.put, List.setIfInBounds_toArray, List.set_cons_zero, List.set_cons_succ]
        have e2 : f1 2 = (.pointer (some ⟨ga, k * 3, none⟩)) := hd 2 (by kernel_rfl)
        have hx := Ext.trans (Ext.drew wr) hu
        have t0 := ext_cell hx q0
        have t1 := ext_cell hx q1
        have t2 := ext_cell hx q2
        go_simp
        exact ⟨Ext.refl _, rfl⟩
      refine ⟨fun u hu hd => ?_, ?_⟩
      · simp only [Act.put, List.setIfInBounds_toArray, List.set_cons_zero, List.set_cons_succ]
        go_simp
        exact ⟨Ext.refl _, rfl⟩
      refine ⟨fun u hu hd => ?_, ?_⟩
      · simp only [Act.put, List.setIfInBounds_toArray, List.set_cons_zero, List.set_cons_succ]
        go_simp
        exact ⟨Ext.refl _, rfl⟩
      refine ⟨fun u hu hd => ?_, ?_⟩
      · simp only [Act.put, List.setIfInBounds_toArray, List.set_cons_zero, List.set_cons_succ]
        have e4 : f1 4 = (.slice (some ⟨gb, 0, none⟩) RB.length cb) := hd 4 (by kernel_rfl)
        have e5 : f1 5 = (.int .i64 (k : Int)) := hd 5 (by kernel_rfl)
        go_simp
        exact ⟨Ext.refl _, rfl⟩
      refine ⟨fun u hu hd => ?_, ?_⟩
      · simp only [Act.put, List.setIfInBounds_toArray, List.set_cons_zero, List.set_cons_succ]
        have e6 : f1 6 = (.pointer (some ⟨gb, k * 3, none⟩)) := hd 6 (by kernel_rfl)
        have hx := Ext.trans (Ext.drew wr) hu
        have t0 := ext_cell hx p0
        have t1 := ext_cell hx p1
        have t2 := ext_cell hx p2
        go_simp
        exact ⟨Ext.refl _, rfl⟩
      refine ⟨fun u hu hd => ?_, ?_⟩
      · simp only [Act.put, List.setIfInBounds_toArray, List.set_cons_zero, List.set_cons_succ]
        have e3 : f1 3 = (.agg #[.string ⟨a0.toArray⟩, .string ⟨a1.toArray⟩, .string ⟨a2.toArray⟩]) := hd 3 (by kernel_rfl)
        have e7 : f1 7 = (.agg #[.string ⟨b0.toArray⟩, .string ⟨b1.toArray⟩, .string ⟨b2.toArray⟩]) := hd 7 (by kernel_rfl)
        go_simp
        have hz := HZ.out
        by_cases k0 : a0 = b0
        · by_cases k1 : a1 = b1
          · by_cases k2 : a2 = b2
            · rw [if_pos k0, if_pos k1, if_pos k2]
              refine ⟨Ext.refl _, ?_⟩
              show Value.bool _ = Value.bool z
              rw [hz]; simp [k0, k1, k2]
            · rw [if_pos k0, if_pos k1, if_neg k2]
              refine ⟨Ext.refl _, ?_⟩
              show Value.bool _ = Value.bool z
              rw [hz]; simp [k2]
          · rw [if_pos k0, if_neg k1]
            refine ⟨Ext.refl _, ?_⟩
            show Value.bool _ = Value.bool z
            rw [hz]; simp [k1]
        · rw [if_neg k0]
          refine ⟨Ext.refl _, ?_⟩
          show Value.bool _ = Value.bool z
          rw [hz]; simp [k0]
      trivial
end Go.Proofs.Ytenhfphgobalfaa

/- What is told of a crash: names, and how many loose bytes are kept of each. -/
namespace Go.Proofs.Ytenhfphgobalfaa
open Go.RowKit Go.Maps
set_option linter.unusedVariables false

/-- A row of names and numbers. -/
structure Kepts (w : World) (A : Option Addr) (ks : List (ByteArray × Int)) : Prop where
  ex : ks = [] ∨ ∃ b o, A = some ⟨b, o, none⟩ ∧ b < w.heap.size ∧ ∀ i s z, ks[i]? = some (s, z) → w.cell? ⟨b, o + i * 2, none⟩ = some (.string s) ∧ w.cell? ⟨b, o + i * 2 + 1, none⟩ = some (.int .i64 z)
  sz : ∀ x ∈ ks, x.1.size ≤ maxLen
  wf : ∀ x ∈ ks, -9223372036854775808 ≤ x.2 ∧ x.2 ≤ 9223372036854775807
  len : ks.length ≤ 1000000000000

theorem Kepts.ext {w w' : World} {A : Option Addr} {ks : List (ByteArray × Int)} (h : Kepts w A ks) (hx : Ext w w') : Kepts w' A ks := by
  refine ⟨?_, h.sz, h.wf, h.len⟩
  rcases h.ex with h | ⟨b, o, e, hb, hc⟩
  · exact .inl h
  · refine .inr ⟨b, o, e, Nat.lt_of_lt_of_le hb hx.size, fun i s z hi => ?_⟩
    obtain ⟨h1, h2⟩ := hc i s z hi
    exact ⟨ext_cell hx h1, ext_cell hx h2⟩
theorem Kepts.at_ {w : World} {A : Option Addr} {ks : List (ByteArray × Int)} (h : Kepts w A ks) {i : Nat} (hi : i < ks.length) :
    ∃ b o, A = some ⟨b, o, none⟩ ∧ b < w.heap.size ∧ w.cell? ⟨b, o + i * 2, none⟩ = some (.string ks[i].1) ∧ w.cell? ⟨b, o + i * 2 + 1, none⟩ = some (.int .i64 ks[i].2) := by
  rcases h.ex with rfl | ⟨b, o, e, hb, hc⟩
  · simp at hi
  · obtain ⟨h1, h2⟩ := hc i _ _ (List.getElem?_eq_getElem hi)
    exact ⟨b, o, e, hb, h1, h2⟩

/-- Is one of the numbers below 0? -/
def anyNeg (ks : List (ByteArray × Int)) : Bool := ks.any fun x => decide (x.2 < 0)

set_option maxHeartbeats 1000000 in
theorem below0_any (s : ByteArray) (z : Int) (hz : -9223372036854775808 ≤ z ∧ z ≤ 9223372036854775807) (w : World) : Calls Try.prog 43 #[.agg #[.string s, .int .i64 z]] w fun e w' => e = .returned (.bool (decide (z < 0))) ∧ w' = w.alloc (.cells #[.string s, .int .i64 z] 47) := by
  go_enter Try.func43, Try.ntmps43
  go_wp2
  go_ret
  exact ⟨rfl, rfl⟩

/-- The place of the first number below 0, or -1. -/
def IdxAns (ks : List (ByteArray × Int)) (w : World) (e : Ending) (w' : World) : Prop := ∃ i : Int, e = .returned (.int .i64 i) ∧ (anyNeg ks = true → 0 ≤ i) ∧ (anyNeg ks = false → i = -1) ∧ i ≤ 1000000000000 ∧ Below w.heap.size w w'

theorem enters_below0 : ∀ args w, (callFunc 43 args).run Try.prog w = .ok (.enter 43 args) w := enters_of Try.func43 (by kernel_rfl) rfl

set_option maxHeartbeats 2000000 in
theorem index_any {w : World} {A : Option Addr} {c : Nat} {ks : List (ByteArray × Int)} (h : Kepts w A ks) :
    Calls Try.prog 61 #[.slice A ks.length c, .func (.func 43) #[] #[]] w (IdxAns ks w) := by
  have HK := Lib.hid h
  have hlen := h.len
  have eg := enters_below0
  clear h
  go_enter Try.func61, Try.ntmps61
  go_wp2_with fail
  go_loopw [5, 8] (fun _ i wr => ∃ k : Nat, k ≤ ks.length ∧ i = .int .i64 (k : Int) ∧ Hid (∀ x ∈ ks.take k, 0 ≤ x.2) ∧ Hid (Ext w wr)) (fun _ i _ => ks.length - (intOf i).toNat)
  case atStart => exact ⟨0, Nat.zero_le _, rfl, by unfold Hid; simp, Ext.refl _⟩
  case round =>
    obtain ⟨k, hk, rfl, HA, HX⟩ := hrel
    by_cases hlt : k < ks.length
    · obtain ⟨b, o, rfl, hb, h1, h2⟩ := (HK.out.ext HX.out).at_ hlt
      obtain ⟨s, hs⟩ : ∃ s, s = ks[k].1 := ⟨_, rfl⟩
      obtain ⟨z, hz⟩ : ∃ z, z = ks[k].2 := ⟨_, rfl⟩
      have hwf := HK.out.wf _ (List.getElem_mem hlt)
      rw [← hz] at hwf h2
      rw [← hs] at h1
      have HC := Lib.hid (below0_any s z hwf wr)
      have HZ := Lib.hid hz
      have HM := Lib.hid (List.getElem_mem hlt)
      have hwi : IntKind.i64.wrap ((k : Int) * 2) = (k : Int) * 2 := IntWalk.i64_in _ (by omega)
      by_cases hneg : z < 0
      · have HN : Hid (anyNeg ks = true) := List.any_eq_true.2 ⟨_, HM.out, by rw [← HZ.out]; simpa using hneg⟩
        rw [decide_eq_true hneg] at HC
        clear hneg hs hz hb
        go_wp2_with fail
        refine Calls.mono HC.out ?_
        rintro e w1 ⟨rfl, rfl⟩
        go_wp2_with fail
        go_ret
        exact ⟨_, rfl, fun _ => by omega, (fun h => (by rw [HN.out] at h; cases h)), by omega, Ext.trans HX.out (ext_alloc _ _)⟩
      · have HA' : Hid (∀ x ∈ ks.take (k + 1), 0 ≤ x.2) := by
          intro x hx
          rw [List.take_succ_eq_append_getElem hlt] at hx
          rcases List.mem_append.1 hx with hx | hx
          · exact HA.out x hx
          · simp at hx; rw [hx, ← HZ.out]; omega
        rw [decide_eq_false hneg] at HC
        have HX2 := Lib.hid (Ext.trans HX.out (ext_alloc wr (.cells #[.string s, .int .i64 z] 47)))
        clear hneg hs hz hb
        go_wp2_with fail
        refine Calls.mono HC.out ?_
        rintro e w1 ⟨rfl, rfl⟩
        go_wp2_with fail
        go_roundw
        case rel => exact ⟨k + 1, by omega, by go_num, HA', HX2⟩
        case measure => simp [intOf]; omega
    · obtain rfl : k = ks.length := by omega
      have HN : Hid (anyNeg ks = false) := by
        unfold Hid anyNeg
        rw [List.any_eq_false]
        intro x hx
        simpa using HA.out x (by rw [List.take_length]; exact hx)
      go_wp2_with fail
      go_ret
      exact ⟨-1, rfl, (fun h => (by rw [HN.out] at h; cases h)), fun _ => rfl, by omega, HX.out⟩

set_option maxHeartbeats 1000000 in
theorem contains_any {w : World} {A : Option Addr} {c : Nat} {ks : List (ByteArray × Int)} (h : Kepts w A ks) :
    Calls Try.prog 42 #[.slice A ks.length c, .func (.func 43) #[] #[]] w fun e w' => e = .returned (.bool (anyNeg ks)) ∧ Below w.heap.size w w' := by
  have HI := Lib.hid (index_any (c := c) h)
  clear h
  go_enter Try.func42, Try.ntmps42
  go_wp2_with fail
  refine Calls.mono HI.out ?_
  rintro e w1 ⟨i, rfl, h1, h2, h3, h4⟩
  have H4 := Lib.hid h4
  cases hn : anyNeg ks
  · obtain rfl := h2 hn
    clear h1 h2 h3 h4
    go_wp2_with fail
    go_ret
    exact ⟨by rw [hn]; rfl, H4.out⟩
  · have h0 := h1 hn
    clear h1 h2 h3 h4
    go_wp2_with fail
    go_ret
    exact ⟨by rw [hn]; rfl, H4.out⟩
end Go.Proofs.Ytenhfphgobalfaa

/- The reference's disk: how many loose bytes are kept of a file. -/
namespace Go.Proofs.Ytenhfphgobalfaa
open Go.RowKit

/-- What is told of a name first, or 0. -/
def toldK : List (ByteArray × Int) → List UInt8 → Int
  | [], _ => 0
  | p :: ks, x => match p.1.data.toList == x with | true => p.2 | false => toldK ks x
theorem toldK_at : ∀ (ks : List (ByteArray × Int)) (x : List UInt8) (k : Nat) (hk : k < ks.length), (∀ p ∈ ks.take k, p.1.data.toList ≠ x) → (ks[k]'hk).1.data.toList = x → toldK ks x = (ks[k]'hk).2
  | [], _, _, hk, _, _ => by simp at hk
  | p :: ks, x, 0, _, _, he => by
    have : (p.1.data.toList == x) = true := by rw [beq_iff_eq]; exact he
    simp only [toldK, this]; rfl
  | p :: ks, x, k + 1, hk, hn, he => by
    have : (p.1.data.toList == x) = false := by rw [beq_eq_false_iff_ne]; exact hn p (by simp)
    simp only [toldK, this]
    exact toldK_at ks x k (by simpa using hk) (fun q hq => hn q (by simp [hq])) he
theorem toldK_none : ∀ (ks : List (ByteArray × Int)) (x : List UInt8), (∀ p ∈ ks, p.1.data.toList ≠ x) → toldK ks x = 0
  | [], _, _ => rfl
  | p :: ks, x, hn => by
    have : (p.1.data.toList == x) = false := by rw [beq_eq_false_iff_ne]; exact hn p (by simp)
    simp only [toldK, this]
    exact toldK_none ks x fun q hq => hn q (by simp [hq])

set_option maxHeartbeats 4000000 in
theorem told_any {w : World} {A : Option Addr} {c : Nat} {ks : List (ByteArray × Int)} (h : Kepts w A ks) (s : ByteArray) :
    Calls Try.prog 60 #[.slice A ks.length c, .string s] w fun e w' => e = .returned (.int .i64 (toldK ks s.data.toList)) ∧ w = w' := by
  have HK := Lib.hid h
  have hlen := h.len
  clear h
  go_enter Try.func60, Try.ntmps60
  go_wp2_with fail
  go_loop [5] (fun i => ∃ k : Nat, k ≤ ks.length ∧ i = .int .i64 (k : Int) ∧ Hid (∀ p ∈ ks.take k, p.1.data.toList ≠ s.data.toList)) (fun i => ks.length - (intOf i).toNat)
  case atStart => exact ⟨0, Nat.zero_le _, rfl, by unfold Hid; simp⟩
  case round =>
    obtain ⟨k, hk, rfl, HN⟩ := hrel
    by_cases hlt : k < ks.length
    · obtain ⟨b, o, rfl, hb, h1, h2⟩ := HK.out.at_ hlt
      obtain ⟨x, hx⟩ : ∃ x : ByteArray, x = (ks[k]'hlt).1 := ⟨_, rfl⟩
      obtain ⟨z, hz⟩ : ∃ z : Int, z = (ks[k]'hlt).2 := ⟨_, rfl⟩
      rw [← hx] at h1
      rw [← hz] at h2
      have HX := Lib.hid hx
      have HZ := Lib.hid hz
      clear hx hz
      by_cases hxs : x.data.toList = s.data.toList
      · have heq : (x.toList == s.toList) = true := by rw [ByteArray.toList_eq, ByteArray.toList_eq, beq_iff_eq]; exact hxs
        have HT : Hid (toldK ks s.data.toList = z) := by rw [HZ.out]; exact toldK_at ks _ k hlt HN.out (by rw [← HX.out]; exact hxs)
        clear hxs
        go_wp2_with fail
        go_ret
        rw [HT.out]; exact ⟨rfl, rfl⟩
      · have heq : (x.toList == s.toList) = false := by rw [ByteArray.toList_eq, ByteArray.toList_eq, beq_eq_false_iff_ne]; exact hxs
        have HXS := Lib.hid hxs
        clear hxs
        go_wp2_with fail
        go_round
        case rel =>
          refine ⟨k + 1, by omega, by go_num, ?_⟩
          intro p hp
          rw [List.take_succ_eq_append_getElem hlt] at hp
          rcases List.mem_append.1 hp with hp | hp
          · exact HN.out p hp
          · rw [List.mem_singleton.1 hp, ← HX.out]; exact HXS.out
        case measure => simp [intOf]; omega
    · obtain rfl : k = ks.length := by omega
      have HN2 := HN.out
      rw [List.take_length] at HN2
      have HT := Lib.hid (toldK_none ks s.data.toList HN2)
      clear HN2
      go_wp2_with fail
      go_ret
      rw [HT.out]; exact ⟨rfl, rfl⟩
end Go.Proofs.Ytenhfphgobalfaa

/- What is wrong with what is told of a crash. -/
namespace Go.Proofs.Ytenhfphgobalfaa
open Go.RowKit Go.Maps

/-- The names that are told. -/
def kn (ks : List (ByteArray × Int)) : List (List UInt8) := ks.map fun x => x.1.data.toList
/-- The map of them. -/
def loosed (ks : List (ByteArray × Int)) : DataW Value := ks.foldl (fun D x => D.put (.string x.1.data.toList) (.lit (.int .i64 x.2))) (.map [])
/-- How many loose bytes are kept of a file. -/
def look (ks : List (ByteArray × Int)) (n : List UInt8) : Int := ((ks.reverse.find? fun x => x.1.data.toList == n).map (·.2)).getD 0
theorem loosed_snoc (ks : List (ByteArray × Int)) (x : ByteArray × Int) : loosed (ks ++ [x]) = (loosed ks).put (.string x.1.data.toList) (.lit (.int .i64 x.2)) := by simp [loosed, List.foldl_append]

structure LooseInv (ks : List (ByteArray × Int)) (D : DataW Value) : Prop where
  tidy : Tidy D
  has : ∀ n, Maps.has D (.string n) = (kn ks).any (· == n)
  at_ : ∀ n, D.atKey (.string n) (.lit (.int .i64 0)) = .lit (.int .i64 (look ks n))
  le : size D ≤ ks.length
  eq : size D = ks.length ↔ (kn ks).Nodup

theorem LooseInv.snoc {ks : List (ByteArray × Int)} {D : DataW Value} (h : LooseInv ks D) (x : ByteArray × Int) (hx : x.1.size ≤ maxLen) : LooseInv (ks ++ [x]) (D.put (.string x.1.data.toList) (.lit (.int .i64 x.2))) := by
  have hk := keyLit hx
  have hs := size_put h.tidy (k := .string x.1.data.toList) (.lit (.int .i64 x.2))
  have hkn : kn (ks ++ [x]) = kn ks ++ [x.1.data.toList] := by simp [kn]
  have hl : ∀ n, look (ks ++ [x]) n = if x.1.data.toList = n then x.2 else look ks n := fun n => by
    unfold look
    rw [List.reverse_append, List.reverse_singleton, List.singleton_append, List.find?_cons]
    by_cases e : x.1.data.toList = n
    · simp [e]
    · rw [if_neg e, show (x.1.data.toList == n) = false from by simpa using e]
  refine ⟨h.tidy.put hk _, fun n => ?_, fun n => ?_, ?_, ?_⟩
  · rw [hkn, List.any_append]
    by_cases e : n = x.1.data.toList
    · subst e; rw [has_put_same h.tidy.isMap hk]; simp
    · rw [has_put_other (lit_ne e), h.has]; simp; intro e'; exact absurd e'.symm e
  · rw [hl]
    by_cases e : x.1.data.toList = n
    · rw [if_pos e, ← e, atKey_put_same h.tidy.isMap hk]
    · rw [if_neg e, atKey_put_other (lit_ne (fun e' => e e'.symm)), h.at_]
  · rw [hs]; have := h.le; split <;> simp <;> omega
  · rw [hs, h.has, hkn, List.nodup_append]
    have hle := h.le
    have heq := h.eq
    by_cases hin : (kn ks).any (· == x.1.data.toList) = true
    · rw [if_pos hin]
      simp only [List.length_append, List.length_singleton]
      refine ⟨fun e => by omega, fun ⟨_, _, hd⟩ => ?_⟩
      obtain ⟨y, hy, e⟩ := List.any_eq_true.1 hin
      exact absurd (by simpa using e) (hd y hy x.1.data.toList (by simp))
    · rw [if_neg hin]
      simp only [List.length_append, List.length_singleton]
      refine ⟨fun e => ⟨heq.1 (by omega), by simp, fun a ha b hb => ?_⟩, fun ⟨h1, _, _⟩ => by have := heq.2 h1; omega⟩
      simp at hb
      subst hb
      intro e
      exact hin (List.any_eq_true.2 ⟨a, ha, by simpa using e⟩)

theorem loose_fold : ∀ (l acc : List (ByteArray × Int)) (D : DataW Value), (∀ x ∈ l, x.1.size ≤ maxLen) → LooseInv acc D → LooseInv (acc ++ l) (l.foldl (fun D x => D.put (.string x.1.data.toList) (.lit (.int .i64 x.2))) D)
  | [], acc, D, _, h => by simpa using h
  | x :: l, acc, D, hs, h => by
    have := loose_fold l (acc ++ [x]) _ (fun y hy => hs y (by simp [hy])) (h.snoc x (hs x (by simp)))
    simpa using this
theorem loose_inv (ks : List (ByteArray × Int)) (h : ∀ x ∈ ks, x.1.size ≤ maxLen) : LooseInv ks (loosed ks) := by
  have := loose_fold ks [] (.map []) h ⟨tidy_empty, fun n => by simp [Maps.has, kn], fun n => by simp [look, DataW.atKey], Nat.le_refl _, by simp [kn, size]⟩
  rw [List.nil_append] at this
  exact this

/-- Stands one name there twice, or a number below 0? -/
def dupneg (ks : List (ByteArray × Int)) : Bool := !decide ((kn ks).Nodup) || anyNeg ks
/-- Is each of these a file? -/
def allThere (F : List Fl) (ks : List (ByteArray × Int)) : Bool := (kn ks).all fun n => there F n
def wrongN (F : List Fl) (ks : List (ByteArray × Int)) : Int := match dupneg ks with | true => 2 | false => lackN (allThere F ks)

theorem lawI : Try.prog.underlying 84 = some (.map 9 3) := Try.underlying84
theorem zeroInt (w : World) : (zeroValue 3).run Try.prog w = .ok (.int .i64 0) w := by kernel_rfl

set_option maxRecDepth 100000 in
set_option maxHeartbeats 4000000 in
theorem wrong_is {w : World} {d m room bL bK bN bD mL n : Nat} {S : Nat → Prop} {F : List Fl} {V : List UInt8 → Value} {D : DataW Value} {A AN : Option Addr} {c cN : Nat} {ks : List (ByteArray × Int)} (h : Seen w d m S F V D room) (hV : ∀ f ∈ F, ∃ A n c x, V f.name = fv A n c x)
    (hk : Kepts w A ks) (hn : Names w AN (ks.map (·.1))) (ho : w.ownsMap Try.prog 9 (plainElem Try.prog 3) mL n (loosed ks))
    (h0 : w.cell? ⟨bL, 0, none⟩ = some (.map (some mL))) (h1 : w.cell? ⟨bK, 0, none⟩ = some (.slice A ks.length c)) (h2 : w.cell? ⟨bN, 0, none⟩ = some (.slice AN ks.length cN)) (h3 : w.cell? ⟨bD, 0, none⟩ = some (.pointer (some ⟨d, 0, none⟩))) :
    Calls Try.prog 41 #[.pointer (some ⟨bL, 0, none⟩), .pointer (some ⟨bK, 0, none⟩), .pointer (some ⟨bN, 0, none⟩), .pointer (some ⟨bD, 0, none⟩)] w fun e w' => e = .returned (.int .i64 (wrongN F ks)) ∧ Below w.heap.size w w' := by
  have HSEE := Lib.hid h
  have HV := Lib.hid hV
  have HK := Lib.hid hk
  have HN := Lib.hid hn
  have HINV := Lib.hid (loose_inv ks hk.sz)
  have hlen := fun ty => ho.len (t := 84) lawI ty
  have HLEN := Lib.hid hk.len
  have HX0 := Lib.hid (Ext.refl w)
  have H2 := Lib.hid h2
  have H3 := Lib.hid h3
  have eg := enters_below0
  have HC := Lib.hid (contains_any (c := c) hk)
  obtain ⟨q, hq⟩ : ∃ q, q = size (loosed ks) := ⟨_, rfl⟩
  rw [← hq] at hlen
  have hql : q ≤ ks.length := by rw [hq]; exact HINV.out.le
  have HQ := Lib.hid hq
  have HL := Lib.hid hk.len
  clear h hV hk hn ho hq
  by_cases hdup : q < ks.length
  · have HW : Hid (wrongN F ks = 2) := by
      have : ¬ (kn ks).Nodup := fun hnd => by have := HINV.out.eq.2 hnd; rw [← HQ.out] at this; omega
      unfold Hid wrongN dupneg
      rw [decide_eq_false this]; rfl
    have hd : decide (q < ks.length) = true := by simp [hdup]
    have hd2 : decide ((q : Int) < (ks.length : Int)) = true := by simp; omega
    clear hdup hql
    go_enter Try.func41, Try.ntmps41
    go_wp2_with fail
    go_ret
    exact ⟨by rw [HW.out]; rfl, Below.refl _ _⟩
  · have hd : decide (q < ks.length) = false := by simp; omega
    have hd2 : decide ((q : Int) < (ks.length : Int)) = false := by simp; omega
    have HND : Hid (decide ((kn ks).Nodup) = true) := decide_eq_true (HINV.out.eq.1 (by rw [← HQ.out]; omega))
    clear hdup hql
    cases hneg : anyNeg ks
    · have HW : Hid (wrongN F ks = lackN (allThere F ks)) := by unfold Hid wrongN dupneg; rw [HND.out, hneg]; rfl
      rw [hneg] at HC
      clear hneg
      go_enter Try.func41, Try.ntmps41
      go_wp2_with fail
      refine Calls.mono HC.out ?_
      rintro e w1 ⟨rfl, hb⟩
      have HB : Hid (Ext w w1) := hb
      have q2 := ext_cell HB.out H2.out
      clear hb h0 h1 h2 h3 hlen
      go_wp2_with fail
      clear q2
      have hkl : (ks.length : Int) ≤ 1000000000000 := by have := HL.out; omega
      go_loopw [6, 7, 19] (fun _ _ i wr => ∃ k : Nat, k ≤ ks.length ∧ i = .int .i64 (k : Int) ∧ Hid (∀ x ∈ ks.take k, there F x.1.data.toList = true) ∧ Hid (Ext w wr)) (fun _ _ i _ => ks.length - (intOf i).toNat)
      case atStart => exact ⟨0, Nat.zero_le _, rfl, by unfold Hid; simp, HB.out⟩
      case round =>
        obtain ⟨k, hk, rfl, HA, HX⟩ := hrel
        by_cases hlt : k < ks.length
        · obtain ⟨bA, o, rfl, _, hbA, hcell⟩ := HN.out.sl.at_ (i := k) (by simpa using hlt)
          rw [List.getElem_map, List.getElem_map] at hcell
          obtain ⟨s, hs⟩ : ∃ s, s = ks[k].1 := ⟨_, rfl⟩
          rw [← hs] at hcell
          have hcell' := ext_cell HX.out hcell
          have q3 := ext_cell HX.out H3.out
          have HSZ : Hid (s.size ≤ maxLen) := by rw [hs]; exact HK.out.sz _ (List.getElem_mem hlt)
          have HS := Lib.hid hs
          clear hcell hs hbA
          go_wp2_with fail
          refine (lacks_any _ _ _).mono ?_
          rintro e w2 ⟨rfl, hw2⟩
          have HX2 : Hid (Ext wr w2) := by rw [hw2]; exact (ext_alloc _ _).trans (ext_alloc _ _)
          have hb0 : Hid (w2.heap[wr.heap.size]? = some (.cells #[.pointer (some ⟨d, 0, none⟩)] 25)) := by rw [hw2]; exact ext_heap (ext_alloc _ _) (heap_at _ _ rfl)
          have hb1 : Hid (w2.heap[wr.heap.size + 1]? = some (.cells #[.string s] 9)) := by rw [hw2]; exact heap_at _ _ (by simp)
          have HXW := Lib.hid (Ext.trans HX.out HX2.out)
          clear hw2 hcell' q3
          obtain ⟨A', n', c', y', hlk, _, _, _⟩ := (HSEE.out.ext HXW.out).look HSZ.out HV.out
          have HLK := Lib.hid (lacks_is (HSEE.out.ext HXW.out) (cell_of hb0.out rfl) (cell_of hb1.out rfl) hlk)
          have egl := enters_lacks
          clear hlk hb0 hb1
          cases ht : there F s.data.toList
          · have HF : Hid (allThere F ks = false) := by
              unfold Hid allThere
              rw [List.all_eq_false]
              exact ⟨s.data.toList, List.mem_map.2 ⟨ks[k], List.getElem_mem hlt, by rw [HS.out]⟩, by rw [ht]; simp⟩
            rw [ht] at HLK
            clear ht
            go_wp2_with fail
            refine Calls.mono HLK.out ?_
            rintro e w3 ⟨rfl, hb3⟩
            have HX3 := Lib.hid (Ext.trans HXW.out hb3)
            clear hb3
            have hl6 : lackN false = 6 := rfl
            rw [hl6]
            go_wp2_with fail
            go_ret
            exact ⟨by rw [HW.out, HF.out]; rfl, HX3.out⟩
          · have HA' : Hid (∀ x ∈ ks.take (k + 1), there F x.1.data.toList = true) := by
              intro x hx
              rw [List.take_succ_eq_append_getElem hlt] at hx
              rcases List.mem_append.1 hx with hx | hx
              · exact HA.out x hx
              · simp at hx; rw [hx, ← HS.out]; exact ht
            rw [ht] at HLK
            clear ht
            go_wp2_with fail
            refine Calls.mono HLK.out ?_
            rintro e w3 ⟨rfl, hb3⟩
            have HX3 := Lib.hid (Ext.trans HXW.out hb3)
            clear hb3
            have hl6 : lackN true = 0 := rfl
            rw [hl6]
            go_wp2_with fail
            go_roundw
            case rel => exact ⟨k + 1, by omega, by go_num, HA', HX3⟩
            case measure => simp [intOf]; omega
        · obtain rfl : k = ks.length := by omega
          have HF : Hid (allThere F ks = true) := by
            unfold Hid allThere
            rw [List.all_eq_true]
            intro n hn
            obtain ⟨x, hx, rfl⟩ := List.mem_map.1 hn
            exact HA.out x (by rw [List.take_length]; exact hx)
          go_wp2_with fail
          go_ret
          exact ⟨by rw [HW.out, HF.out]; rfl, HX.out⟩
    · have HW : Hid (wrongN F ks = 2) := by unfold Hid wrongN dupneg; rw [HND.out, hneg]; rfl
      rw [hneg] at HC
      clear hneg
      go_enter Try.func41, Try.ntmps41
      go_wp2_with fail
      refine Calls.mono HC.out ?_
      rintro e w1 ⟨rfl, hb⟩
      have HB := Lib.hid hb
      clear hb
      go_wp2_with fail
      go_ret
      exact ⟨by rw [HW.out]; rfl, HB.out⟩
end Go.Proofs.Ytenhfphgobalfaa

/- What a crash leaves of a file. -/
namespace Go.Proofs.Ytenhfphgobalfaa
open Go.RowKit Go.Maps

theorem head_run (kl : IntKind) (A : Option Addr) (n c k : Nat) (hk : k ≤ n) (hc : n ≤ c) : ∃ A2, (∀ l : List Nat, l.length = n → ∀ (W : World) (lo hi : Nat), By W lo hi A l → By W lo hi A2 (l.take k)) ∧ (A2 = none → A = none) ∧
    ∀ w, (Instr.slice 35 (.slice A n c) none (some (.int kl (k : Int))) none).run Try.prog w = .ok (.slice A2 k c) w := by
  obtain ⟨i0, hi, _, hz1, _⟩ := info_parts t5info
  refine ⟨if c = 0 then A else A.map (·.add 0), fun l hl W lo hi' h => ?_, ?_, fun w => ?_⟩
  · have h2 := By.drop (k := 0) (cap := c) h (by omega) (by omega)
    unfold By
    rw [bv_take]
    exact Sl.take h2 k
  · split
    · exact id
    · cases A <;> simp
  · have he : Try.prog.underlying 35 = some (.slice (Try.prog.elem 35)) := by kernel_rfl
    have hs : (sizeOf (Try.prog.elem 35)).run Try.prog w = .ok 1 w := by
      have e : Try.prog.elem 35 = 5 := by kernel_rfl
      rw [e]
      simp [Go.sizeOf, typeInfo, hi, hz1]
    rw [run_slice_h w 35 A n c he kl (k : Int) (by omega) (by omega), hs]
    simp [Result.andThen, sliced]

/-- How many bytes are left. -/
def leftN (ks : List (ByteArray × Int)) (f : Fl) : Nat := f.lasts + (min (look ks f.name) ((f.data.length : Int) - (f.lasts : Int))).toNat
/-- What a crash leaves of a file. -/
def crashed (ks : List (ByteArray × Int)) (f : Fl) : Fl := ⟨f.name, f.data.take (leftN ks f), leftN ks f⟩
theorem leftN_le {ks : List (ByteArray × Int)} {f : Fl} (h : f.lasts ≤ f.data.length) : leftN ks f ≤ f.data.length := by unfold leftN; omega
theorem crashed_len {ks : List (ByteArray × Int)} {f : Fl} (h : f.lasts ≤ f.data.length) : (crashed ks f).data.length = leftN ks f := by
  show (f.data.take (leftN ks f)).length = _
  rw [List.length_take]; have := leftN_le (ks := ks) h; omega
theorem look_nonneg {ks : List (ByteArray × Int)} (h : anyNeg ks = false) (n : List UInt8) : 0 ≤ look ks n := by
  unfold look
  cases hq : ks.reverse.find? fun x => x.1.data.toList == n with
  | none => simp
  | some x =>
    have := List.any_eq_false.1 h x (by simpa using List.mem_of_find?_eq_some hq)
    simpa using this
theorem look_wf {ks : List (ByteArray × Int)} (h : ∀ x ∈ ks, -9223372036854775808 ≤ x.2 ∧ x.2 ≤ 9223372036854775807) (n : List UInt8) : look ks n ≤ 9223372036854775807 := by
  unfold look
  cases hq : ks.reverse.find? fun x => x.1.data.toList == n with
  | none => simp
  | some x => exact (h x (by simpa using List.mem_of_find?_eq_some hq)).2

theorem enters_crash2 : ∀ args w, (callFunc 47 args).run Try.prog w = .ok (.enter 47 args) w := enters_of Try.func47 (by kernel_rfl) rfl

set_option maxRecDepth 100000 in
set_option maxHeartbeats 2000000 in
theorem crash2_left {w : World} {S : Nat → Prop} {B bL mL n : Nat} {ks : List (ByteArray × Int)} (hks : ∀ x ∈ ks, x.1.size ≤ maxLen) (hwf : ∀ x ∈ ks, -9223372036854775808 ≤ x.2 ∧ x.2 ≤ 9223372036854775807) (hneg : anyNeg ks = false)
    (ho : w.ownsMap Try.prog 9 (plainElem Try.prog 3) mL n (loosed ks)) (h0 : w.cell? ⟨bL, 0, none⟩ = some (.map (some mL)))
    (A : World) (f : Fl) (v : Value) (hf : FileAt w S B f v) (hnm : f.name.length ≤ maxLen) (hfl : f.data.length ≤ 1048576) (hb : Below w.heap.size w A) :
    Calls Try.prog 47 (#[encStr f.name, v] ++ #[.pointer (some ⟨bL, 0, none⟩)]) A (LeftAns w.heap.size (crashed ks f) A) := by
  obtain ⟨A0, c, rfl, hbs⟩ := hf.bs
  have hlast := hf.lasts
  have HB := Lib.hid (hbs.below hb (Nat.le_refl _))
  have HS := Lib.hid hb.size
  have hx : Ext w A := hb
  obtain ⟨L, hL⟩ : ∃ L, L = f.data.length := ⟨_, rfl⟩
  obtain ⟨y, hy⟩ : ∃ y, y = f.lasts := ⟨_, rfl⟩
  obtain ⟨z, hz⟩ : ∃ z, z = look ks f.name := ⟨_, rfl⟩
  have hz0 : 0 ≤ z := by rw [hz]; exact look_nonneg hneg _
  have hz1 : z ≤ 9223372036854775807 := by rw [hz]; exact look_wf hwf _
  rw [← hL] at hlast hfl HB
  rw [← hy] at hlast
  have hkey : keyOf Try.prog 9 (encStr f.name) = some (.string f.name) := by
    have := WideMaps.keyOf_string_mk (P := Try.prog) (s := ⟨f.name.toArray⟩) Try.underlying9 (by simpa [ByteArray.size] using hnm)
    simpa [encStr] using this
  have hlook : ∀ W, Ext A W → (Instr.lookup 84 (.map (some mL)) (encStr f.name) false).run Try.prog W = .ok (.int .i64 z) W := fun W hW => by
    have hW2 := Ext.trans hx hW
    obtain ⟨cc, hrun, hat, _⟩ := (map_kept ho (hW2.block _ ho.lt)).lookup_int lawS lawI Try.underlying3 (zeroInt W) hkey
    rw [(loose_inv ks hks).at_] at hat
    have e : look ks f.name = cc := by injection hat with hat; injection hat
    rw [hrun, hz, e]
  have hcell := ext_cell hx h0
  have q0 := cell_new (cell_new hcell (.cells #[.slice A0 L c, .int .i64 (y : Int)] 92)) (.cells #[.slice none 0 0, .int .i64 0] 92)
  have q1 := hlook ((A.alloc (.cells #[.slice A0 L c, .int .i64 (y : Int)] 92)).alloc (.cells #[.slice none 0 0, .int .i64 0] 92)) ((ext_alloc _ _).trans (ext_alloc _ _))
  have HN : Hid (((y + (min z ((L : Int) - (y : Int))).toNat : Nat)) = leftN ks f) := by unfold Hid leftN; rw [← hz, ← hL, ← hy]
  obtain ⟨k, hk⟩ : ∃ k, k = y + (min z ((L : Int) - (y : Int))).toNat := ⟨_, rfl⟩
  have hkL : k ≤ L := by omega
  rw [← hk] at HN
  have hcl := crashed_len (ks := ks) (f := f) hf.lasts
  rw [← HN.out] at hcl
  have HBS := HB.out
  obtain ⟨A1, c1, e1, hlc, hcm, hnil, hby⟩ := HBS
  injection e1 with e1 e2 e3
  subst e1 e3
  obtain ⟨A2, hA2, hA2n, hrun⟩ := head_run .i64 A0 L c k hkL (by rw [← hL] at hlc; exact hlc)
  have HRES : Hid (LeftAns w.heap.size (crashed ks f) A = LeftAns w.heap.size ⟨f.name, f.data.take k, k⟩ A) := by unfold Hid crashed; rw [HN.out]
  have HLEN : Hid ((f.data.take k).length = k) := by unfold Hid; simp; omega
  have HBY : Hid (By A 0 w.heap.size A2 (f.data.take k)) := hA2 f.data hL.symm A 0 w.heap.size hby
  have HNIL : Hid (A2 = none → c = 0) := fun h => hnil (hA2n h)
  have HC : Hid (k ≤ c ∧ c ≤ maxLen) := ⟨by rw [← hL] at hlc; omega, hcm⟩
  rw [HRES.out, ← hL, ← hy]
  have hmn : (y : Int) + min z ((L : Int) - (y : Int)) = (k : Int) := by omega
  have HK := Lib.hid hk
  clear e2 hlook hcell hf hbs hx hL hy hz hkey ho h0 hks hwf hneg hnm hlc hcm hnil hby hA2 hA2n hk hcl hb HB
  rw [show (#[encStr f.name, Value.agg #[.slice A0 L c, .int .i64 (y : Int)]] ++ #[.pointer (some ⟨bL, 0, none⟩)] : Array Value) = #[encStr f.name, .agg #[.slice A0 L c, .int .i64 (y : Int)], .pointer (some ⟨bL, 0, none⟩)] from rfl]
  go_enter Try.func47, Try.ntmps47
  go_wp2
  refine bodyPost_ret (v := .agg #[.slice A2 k c, .int .i64 (k : Int)]) ?_ rfl ?_
  · simp [results, Try.results47, go_sem]
  · refine ⟨A2, c, ?_, ((Below.refl _ _).alloc (Nat.le_refl _) _).alloc (by simp) _, ?_⟩
    · show _ = Ending.returned (.agg #[.slice A2 (f.data.take k).length c, .int .i64 (k : Int)])
      rw [HLEN.out]
    · have hb : Bs A 0 w.heap.size (.slice A2 (f.data.take k).length c) (f.data.take k) := ⟨A2, c, rfl, by rw [HLEN.out]; exact HC.out.1, HC.out.2, HNIL.out, HBY.out⟩
      exact (hb.alloc HS.out _).alloc (by simp; exact Nat.le_succ_of_le HS.out) _
end Go.Proofs.Ytenhfphgobalfaa
