/- Esearch Eindex Edelete Ewithout Esortf Ecopies Ebehind, joined. -/
import Derived.Test.YtjlppjffkebejaaMa5
import Derived.Laws.CopyRow
import Derived.BigQuiet
import Derived.Test.YtjlppjffkebejaaMa4

/- slices.BinarySearch of numbers that are sorted; the question that edit's without asks of each table. -/
namespace Go.Proofs.Ytjlppjffkebejaa
open Go.ChangeShapes Go.WideShapes Go.ChangeAt Go.RowKit

theorem up_perm (L : List Int) : (up L).Perm L := List.mergeSort_perm _ _
theorem up_sorted (L : List Int) : (up L).Pairwise (· ≤ ·) := by
  have h := List.pairwise_mergeSort (le := fun x y : Int => decide (x ≤ y)) (fun a b c h1 h2 => by simp at *; omega) (fun a b => by simp; omega) L
  exact h.imp fun h => by simpa using h
theorem ints_at {L : List Int} {j : Nat} (h : j < L.length) : (ints L)[j]? = some (.int .i64 (L.getD j 0)) := by
  unfold ints
  rw [List.getElem?_map, List.getElem?_eq_getElem h, List.getD_eq_getElem?_getD, List.getElem?_eq_getElem h]
  rfl

set_option maxHeartbeats 1000000 in
theorem search_none (x : Int) (w : World) : Calls Try.prog 156 #[.slice none 0 0, .int .i64 x] w fun e w' => (∃ k : Int, e = .returned (.tuple #[.int .i64 k, .bool false])) ∧ Ext w w' := by
  go_enter Try.func156, Try.ntmps156
  go_wp2_with fail
  go_loopw [7, 8] (fun a b wr => a = .int .i64 0 ∧ b = .int .i64 0 ∧ Ext w wr) (fun _ _ _ => 0)
  case atStart => exact ⟨rfl, rfl, Ext.refl _⟩
  case round =>
    obtain ⟨rfl, rfl, hx⟩ := hrel
    go_wp2_with fail
    go_ret2
    exact ⟨⟨_, rfl⟩, hx⟩
theorem search_any {w : World} {B : Nat} {v : Value} {l : List Int} (h : Own64 B (up l) v w) (hl : l.length ≤ 1000000000000) (x : Int) :
    Calls Try.prog 156 #[v, .int .i64 x] w fun e w' => (∃ k : Int, e = .returned (.tuple #[.int .i64 k, .bool (decide (x ∈ l))])) ∧ Ext w w' := by
  have h0 := h.sl
  rcases h.2 with ⟨rfl, h2⟩ | ⟨g, cap, cur, rfl, _⟩
  · rw [up_length] at h2
    have : l = [] := List.eq_nil_of_length_eq_zero h2
    subst this
    exact search_none x w
  · obtain ⟨A, c, e, hs, _⟩ := h0
    injection e with e1 _ e2
    subst e1 e2
    have hcon := AnyG.slices_BinarySearch_int Try.lsearch g 0 (up l).length cap (up l) x w (Nat.le_refl _) (by rw [up_length]; omega) (fun j hj => slcell hs (ints_at hj)) (by rw [List.take_of_length_le (Nat.le_refl _)]; exact up_sorted l)
    change Calls Try.prog 156 _ _ _ at hcon
    refine hcon.mono fun e w' ⟨he, q, hw⟩ => ⟨⟨((up l).countP (· < x) : Nat), ?_⟩, ?_⟩
    · rw [he, List.take_of_length_le (Nat.le_refl _)]
      have : (up l).contains x = decide (x ∈ l) := by rw [Bool.eq_iff_iff, List.contains_iff_mem, decide_eq_true_eq]; exact (up_perm l).mem_iff
      rw [this]
    · rw [hw]; exact below_drewN (Ext.refl _) q

set_option maxHeartbeats 1000000 in
theorem dropped_any {w : World} {t B : Nat} {v : Value} {l : List Int} (hb : w.cell? ⟨t, 0, none⟩ = some v) (h : Own64 B (up l) v w) (hl : l.length ≤ 1000000000000) (p : Tab × TabH) :
    Calls Try.prog 155 #[tabV p, .pointer (some ⟨t, 0, none⟩)] w fun e w' => e = .returned (.bool (decide (p.1.num ∈ l))) ∧ Ext w w' := by
  obtain ⟨⟨num, lev, fst, lst, siz⟩, fA, fc, lA, lc⟩ := p
  change Calls Try.prog _ #[.agg #[.int .i64 num, .int .i64 lev, .slice fA fst.length fc, .slice lA lst.length lc, .int .i64 siz], _] w fun e w' => e = .returned (.bool (decide (num ∈ l))) ∧ Ext w w'
  obtain ⟨w1, hw1⟩ : ∃ w1, w1 = w.alloc (.cells #[.int .i64 num, .int .i64 lev, .slice fA fst.length fc, .slice lA lst.length lc, .int .i64 siz] 85) := ⟨_, rfl⟩
  have HX : Hid (Ext w w1) := by rw [hw1]; exact ext_alloc _ _
  have c1 := ext_cell HX.out hb
  have HS := Lib.hid (search_any (h.below HX.out) hl num)
  obtain ⟨A, c, rfl, _⟩ := h.sl
  obtain ⟨n, hn⟩ : ∃ n, n = (up l).length := ⟨_, rfl⟩
  rw [← hn] at HS c1
  obtain ⟨z, hz⟩ : ∃ z, z = decide (num ∈ l) := ⟨_, rfl⟩
  rw [← hz] at HS ⊢
  clear h hb hn hz hl
  go_enter Try.func155, Try.ntmps155
  rw [hw1] at c1 HS
  go_wp2_with fail
  refine Calls.mono HS.out ?_
  rintro e w2 ⟨⟨k, rfl⟩, hx2⟩
  rw [← hw1] at hx2
  have HX2 : Hid (Ext w w2) := Ext.trans HX.out hx2
  clear hx2 c1
  go_wp2_with fail
  go_ret
  exact ⟨rfl, HX2.out⟩
end Go.Proofs.Ytjlppjffkebejaa

/- slices.IndexFunc over tables' places. -/
namespace Go.Proofs.Ytjlppjffkebejaa
open Go.ChangeShapes Go.WideShapes Go.ChangeAt Go.RowKit

/-- Where the first one is of which f holds. -/
def firstT (f : Tab → Bool) (L : List (Tab × TabH)) (k : Int) : Prop := (∃ (i : Nat) (p : Tab × TabH), k = i ∧ L[i]? = some p ∧ f p.1 = true ∧ ∀ j q, j < i → L[j]? = some q → f q.1 = false) ∨ (k = -1 ∧ ∀ q ∈ L, f q.1 = false)

set_option maxRecDepth 100000 in
set_option maxHeartbeats 4000000 in
theorem indexf_any {w : World} {lo hi : Nat} {A : Option Addr} {c t : Nat} {L : List (Tab × TabH)} {f : Tab → Bool} (h : Sl w lo hi A (tabrow L)) (hlen : L.length ≤ 1000000000000)
    (hc : ∀ u, Ext w u → ∀ p : Tab × TabH, Calls Try.prog 155 #[tabV p, .pointer (some ⟨t, 0, none⟩)] u fun e w' => e = .returned (.bool (f p.1)) ∧ Ext u w') :
    Calls Try.prog 177 #[.slice A L.length c, .func (.func 155) #[] #[.pointer (some ⟨t, 0, none⟩)]] w fun x w' => ∃ k : Int, firstT f L k ∧ x = .returned (.int .i64 k) ∧ Ext w w' := by
  by_cases h0 : L.length = 0
  · obtain rfl : L = [] := List.eq_nil_of_length_eq_zero h0
    clear h hlen h0 hc
    go_enter Try.func177, Try.ntmps177
    go_wp2_with fail
    go_loopw [8] (fun a wr => a = .int .i64 0 ∧ Ext w wr) (fun _ _ => 0)
    case atStart => exact ⟨rfl, Ext.refl _⟩
    case round =>
      obtain ⟨rfl, hx⟩ := hrel
      go_wp2_with fail
      go_ret
      exact ⟨-1, .inr ⟨rfl, fun q hq => by cases hq⟩, rfl, hx⟩
  · obtain ⟨b, o, rfl, hat⟩ : ∃ b o, A = some ⟨b, o, none⟩ ∧ ∀ u, Ext w u → ∀ i p, L[i]? = some p → ∀ j x, (tabcells p)[j]? = some x → u.cell? ⟨b, o + i * 5 + j, none⟩ = some x := by
      rcases h with h1 | ⟨b, o, h1, h2, h3, h4⟩
      · have := congrArg List.length h1
        rw [tabrow_length, List.length_nil] at this
        omega
      · refine ⟨b, o, h1, fun u hu i p hp j x hj => ?_⟩
        obtain ⟨hi', rfl⟩ := List.getElem?_eq_some_iff.1 hp
        have hj5 : j < 5 := by have := (List.getElem?_eq_some_iff.1 hj).1; rwa [tabcells_length] at this
        rw [Nat.add_assoc]
        exact ext_cell hu (h4 _ _ ((tabrow_at L hi' hj5).trans hj))
    have HAT := Lib.hid hat
    have HC := Lib.hid hc
    have HL := Lib.hid hlen
    have hlI : (L.length : Int) ≤ 1000000000000 := by omega
    clear h hat hc
    go_enter Try.func177, Try.ntmps177
    go_wp2_with fail
    go_loopw [8] (fun a wr => ∃ i : Nat, a = .int .i64 (i : Int) ∧ i ≤ L.length ∧ Hid (∀ j q, j < i → L[j]? = some q → f q.1 = false) ∧ Hid (Ext w wr)) (fun a _ => L.length - (intOf a).toNat)
    case atStart => exact ⟨0, rfl, by omega, fun j p hj => by omega, Ext.refl _⟩
    case round =>
      obtain ⟨i, rfl, hm, HR, HX⟩ := hrel
      by_cases hlt : i < L.length
      · have d : decide ((i : Int) < (L.length : Int)) = true := by simp; omega
        have d2 : decide (i < L.length) = true := by simp; omega
        obtain ⟨p, hp⟩ : ∃ p, L[i]? = some p := ⟨_, List.getElem?_eq_getElem hlt⟩
        have c0 : wr.cell? ⟨b, o + i * 5, none⟩ = some (.int .i64 p.1.num) := HAT.out wr HX.out i p hp 0 _ rfl
        have c1 : wr.cell? ⟨b, o + i * 5 + 1, none⟩ = some (.int .i64 p.1.lev) := HAT.out wr HX.out i p hp 1 _ rfl
        have c2 : wr.cell? ⟨b, o + i * 5 + 2, none⟩ = some (.slice p.2.fstA p.1.fst.length p.2.fstc) := HAT.out wr HX.out i p hp 2 _ rfl
        have c3 : wr.cell? ⟨b, o + i * 5 + 3, none⟩ = some (.slice p.2.lstA p.1.lst.length p.2.lstc) := HAT.out wr HX.out i p hp 3 _ rfl
        have c4 : wr.cell? ⟨b, o + i * 5 + 4, none⟩ = some (.int .i64 p.1.siz) := HAT.out wr HX.out i p hp 4 _ rfl
        obtain ⟨z, hz⟩ : ∃ z, z = f p.1 := ⟨_, rfl⟩
        have HCC : Hid (Calls Try.prog 155 #[.agg #[.int .i64 p.1.num, .int .i64 p.1.lev, .slice p.2.fstA p.1.fst.length p.2.fstc, .slice p.2.lstA p.1.lst.length p.2.lstc, .int .i64 p.1.siz], .pointer (some ⟨t, 0, none⟩)] wr fun e w' => e = .returned (.bool (f p.1)) ∧ Ext wr w') := HC.out wr HX.out p
        rw [← hz] at HCC
        have HP1 := Lib.hid hp
        have HZ := Lib.hid hz
        have hw2 : wrap64 ((i : Int) + 1) = ((i + 1 : Nat) : Int) := by have := HL.out; unfold wrap64; omega
        have n3 : (0 : Int) ≤ (i : Int) := by omega
        have n4 : (i : Int) < (L.length : Int) := by omega
        have HLT := Lib.hid hlt
        clear hp hlt hm h0 hz
        go_wp2_with fail
        refine Calls.mono HCC.out ?_
        rintro x w9 ⟨rfl, hb9⟩
        have HX9 : Hid (Ext w w9) := Ext.trans HX.out hb9
        clear hb9 HX HCC c0 c1 c2 c3 c4
        rcases z with _ | _
        · go_wp2_with fail
          refine ⟨⟨i + 1, rfl, HLT.out, fun j q hj hq => ?_, HX9.out⟩, ?_⟩
          · by_cases hji : j = i
            · rw [hji, HP1.out] at hq
              injection hq with hq
              subst hq
              exact HZ.out.symm
            · exact HR.out j q (by omega) hq
          · have := HLT.out; simp [intOf]; omega
        · go_wp2_with fail
          go_ret
          exact ⟨i, .inl ⟨i, p, rfl, HP1.out, HZ.out.symm, HR.out⟩, rfl, HX9.out⟩
      · have d : decide ((i : Int) < (L.length : Int)) = false := by simp; omega
        have d2 : decide (i < L.length) = false := by simp; omega
        have HLT := Lib.hid hlt
        have HM := Lib.hid hm
        clear hlt hm h0
        go_wp2_with fail
        go_ret
        exact ⟨-1, .inr ⟨rfl, fun q hq => by
          obtain ⟨j, hj⟩ := List.getElem?_of_mem hq
          exact HR.out j q (by have := HLT.out; have := (List.getElem?_eq_some_iff.1 hj).1; omega) hj⟩, rfl, HX.out⟩
end Go.Proofs.Ytjlppjffkebejaa

/- slices.DeleteFunc over tables' places in a row of the call's own. -/
namespace Go.Proofs.Ytjlppjffkebejaa
open Go.ChangeShapes Go.WideShapes Go.ChangeAt Go.RowKit

/-- The row while it is gone through: K at its begin, and what is left of L from place j on. -/
def DelI (g c : Nat) (K L : List (Tab × TabH)) (j : Nat) (u : World) : Prop := ∃ cur, u.heap[g]? = some (.cells cur 85 (0, 0)) ∧ cur.size = c * 5 ∧ cur.toList.take (K.length * 5) = tabrow K ∧ ∀ k x, j * 5 ≤ k → (tabrow L)[k]? = some x → cur[k]? = some x
def keptT (f : Tab → Bool) (L : List (Tab × TabH)) (j : Nat) : List (Tab × TabH) := (L.take j).filter fun p => !f p.1
theorem keptT_le (f : Tab → Bool) (L : List (Tab × TabH)) (j : Nat) : (keptT f L j).length ≤ j := Nat.le_trans (List.length_filter_le _ _) (by rw [List.length_take]; exact Nat.min_le_left _ _)
theorem keptT_yes {f : Tab → Bool} {L : List (Tab × TabH)} {j : Nat} {p : Tab × TabH} (hp : L[j]? = some p) (hf : f p.1 = false) : keptT f L (j + 1) = keptT f L j ++ [p] := by
  unfold keptT
  rw [List.take_add_one, hp, List.filter_append]
  simp [hf]
theorem keptT_no {f : Tab → Bool} {L : List (Tab × TabH)} {j : Nat} {p : Tab × TabH} (hp : L[j]? = some p) (hf : f p.1 = true) : keptT f L (j + 1) = keptT f L j := by
  unfold keptT
  rw [List.take_add_one, hp, List.filter_append]
  simp [hf]

theorem setCell_at {w : World} {g o : Nat} {v : Value} {cur : Array Value} {e : TypeId} {fz : Nat × Nat} (h : w.heap[g]? = some (.cells cur e fz)) : (w.setCell ⟨g, o, none⟩ v).heap[g]? = some (.cells (cur.setIfInBounds o v) e fz) := by
  rw [Go.Sort.setCell_eq]
  simp [Go.Sort.mapBlock, Array.getElem?_modify, h, Go.Sort.onCells]
theorem del_keep {u : World} {g c j m : Nat} {K L : List (Tab × TabH)} {p : Tab × TabH} (h : DelI g c K L j u) (hm : m = K.length) (hmj : m < j) (hjc : j < c) :
    DelI g c (K ++ [p]) L (j + 1) (((((u.setCell ⟨g, m * 5, none⟩ (.int .i64 p.1.num)).setCell ⟨g, m * 5 + 1, none⟩ (.int .i64 p.1.lev)).setCell ⟨g, m * 5 + 2, none⟩ (.slice p.2.fstA p.1.fst.length p.2.fstc)).setCell ⟨g, m * 5 + 3, none⟩ (.slice p.2.lstA p.1.lst.length p.2.lstc)).setCell ⟨g, m * 5 + 4, none⟩ (.int .i64 p.1.siz)) := by
  obtain ⟨cur, e1, e2, e3, e4⟩ := h
  refine ⟨_, setCell_at (setCell_at (setCell_at (setCell_at (setCell_at e1)))), by simp only [Array.size_setIfInBounds]; exact e2, ?_, ?_⟩
  · apply List.ext_getElem?
    intro k
    have hl : (K ++ [p]).length = m + 1 := by rw [List.length_append, ← hm]; rfl
    rw [hl]
    by_cases hk : k < (m + 1) * 5
    · rw [List.getElem?_take, if_pos hk, Array.getElem?_toList, tabrow_append]
      by_cases hk2 : k < m * 5
      · rw [List.getElem?_append_left (by rw [tabrow_length, ← hm]; exact hk2), ← e3, List.getElem?_take, if_pos (by rw [← hm]; exact hk2), Array.getElem?_toList]
        simp only [Array.getElem?_setIfInBounds]
        rw [if_neg (by omega), if_neg (by omega), if_neg (by omega), if_neg (by omega), if_neg (by omega)]
      · rw [List.getElem?_append_right (by rw [tabrow_length, ← hm]; omega), tabrow_length, ← hm]
        have hsz : m * 5 + 4 < cur.size := by rw [e2]; omega
        obtain ⟨q, rfl⟩ : ∃ q, k = m * 5 + q := ⟨k - m * 5, by omega⟩
        rw [Nat.add_sub_cancel_left]
        have hq : q < 5 := by omega
        simp only [Array.getElem?_setIfInBounds, Array.size_setIfInBounds]
        match q, hq with
        | 0, _ => rw [if_neg (by omega), if_neg (by omega), if_neg (by omega), if_neg (by omega), if_pos (by omega), if_pos (by omega)]; rfl
        | 1, _ => rw [if_neg (by omega), if_neg (by omega), if_neg (by omega), if_pos (by omega), if_pos (by omega)]; rfl
        | 2, _ => rw [if_neg (by omega), if_neg (by omega), if_pos (by omega), if_pos (by omega)]; rfl
        | 3, _ => rw [if_neg (by omega), if_pos (by omega), if_pos (by omega)]; rfl
        | 4, _ => rw [if_pos (by omega), if_pos (by omega)]; rfl
    · rw [List.getElem?_eq_none (by rw [List.length_take]; omega), List.getElem?_eq_none (by rw [tabrow_length, hl]; omega)]
  · intro k x hk hx
    simp only [Array.getElem?_setIfInBounds]
    rw [if_neg (by omega), if_neg (by omega), if_neg (by omega), if_neg (by omega), if_neg (by omega)]
    exact e4 k x (by omega) hx

/-- 'clear(l)', l places in a block of its own. -/
theorem clear_tabs {w : World} {g o n c : Nat} {cur : Array Value} (hg : w.heap[g]? = some (.cells cur 85 (0, 0))) (hn : 0 < n) (hl : o + n * 5 ≤ cur.size) :
    ∃ zs : List Value, zs.length = n * 5 ∧ ∀ ty, (Builtin.clear_ #[34] ty #[.slice (some ⟨g, o, none⟩) n c]).run Try.prog w = .ok (.tuple #[]) (w.setRow g (cur.toList.take o ++ zs ++ cur.toList.drop (o + n * 5)).toArray) := by
  obtain ⟨zs, hzs⟩ : ∃ zs, zs = (Builtin.zeroCells (Value.cells (.agg #[.int .i64 0, .int .i64 0, .slice none 0 0, .slice none 0 0, .int .i64 0])) n).toList := ⟨_, rfl⟩
  have hc : Value.cells (.agg #[.int .i64 0, .int .i64 0, .slice none 0 0, .slice none 0 0, .int .i64 0]) = #[.int .i64 0, .int .i64 0, .slice none 0 0, .slice none 0 0, .int .i64 0] := by kernel_rfl
  have hlen : zs.length = n * 5 := by rw [hzs, hc]; simp [Builtin.zeroCells]
  have hone : ∀ v ∈ zs, v.oneCell' = true := by
    intro v hv
    rw [hzs, hc] at hv
    simp only [Builtin.zeroCells, Array.toList_map, List.mem_map] at hv
    obtain ⟨i, _, rfl⟩ := hv
    have h5 : i % 5 < 5 := Nat.mod_lt _ (by decide)
    change (#[Value.int .i64 0, .int .i64 0, .slice none 0 0, .slice none 0 0, .int .i64 0][i % 5]!).oneCell' = true
    match i % 5, h5 with
    | 0, _ => rfl
    | 1, _ => rfl
    | 2, _ => rfl
    | 3, _ => rfl
    | 4, _ => rfl
  refine ⟨zs, hlen, fun ty => ?_⟩
  have hst := run_storeCells_at (P := Try.prog) g o 85 zs 0 cur w hg (by rw [hlen]; omega) hone
  rw [Nat.add_zero, hlen] at hst
  obtain ⟨m, rfl⟩ : ∃ m, n = m + 1 := ⟨n - 1, by omega⟩
  simp [Builtin.clear_, run_underlying Try.underlying34, ← hzs, hst]

set_option maxRecDepth 100000 in
set_option maxHeartbeats 4000000 in
theorem deletef_any {w : World} {B : Nat} {A : Option Addr} {c t : Nat} {L : List (Tab × TabH)} {f : Tab → Bool} (h : OwnT B L (.slice A L.length c) w) (hlen : L.length ≤ 1000000000000) (hB : B ≤ w.heap.size)
    (hc : ∀ u, Chg (fun k => A = some ⟨k, 0, none⟩) w u → ∀ p : Tab × TabH, Calls Try.prog 155 #[tabV p, .pointer (some ⟨t, 0, none⟩)] u fun e w' => e = .returned (.bool (f p.1)) ∧ Ext u w') :
    Calls Try.prog 153 #[.slice A L.length c, .func (.func 155) #[] #[.pointer (some ⟨t, 0, none⟩)]] w fun x w' =>
      ∃ A' c', x = .returned (.slice A' (keptT f L L.length).length c') ∧ OwnT B (keptT f L L.length) (.slice A' (keptT f L L.length).length c') w' ∧ ∀ w0, Below B w0 w → Below B w0 w' := by
  have HI := Lib.hid (indexf_any (c := c) (L := L) (f := f) (t := t) (w := w) (A := A) (by obtain ⟨_, _, e, hs, _⟩ := h.sl; injection e with e1 _ e2; subst e1; exact hs) hlen (fun u hu p => hc u (Chg.of_ext hu) p))
  have HH := Lib.hid h
  have HC := Lib.hid hc
  have HL := Lib.hid hlen
  have HBW := Lib.hid hB
  have hlI : (L.length : Int) ≤ 1000000000000 := by omega
  clear h hc hlen hB
  go_enter Try.func153, Try.ntmps153
  go_wp2_with fail
  refine Calls.mono HI.out ?_
  rintro x w1 ⟨k, hk, rfl, hx1⟩
  have HX1 := Lib.hid hx1
  clear hx1
  rcases hk with ⟨i0, p0, rfl, hp0, hf0, hb0⟩ | ⟨rfl, hall⟩
  rotate_left
  · have hk : keptT f L L.length = L := by
      unfold keptT
      rw [List.take_of_length_le (Nat.le_refl _), List.filter_eq_self]
      intro q hq; simp [hall q hq]
    have HK := Lib.hid hk
    clear hk hall
    go_wp2_with fail
    go_ret
    rw [HK.out]
    exact ⟨A, c, rfl, HH.out.below HX1.out, fun w0 hb => hb.trans (HX1.out.mono HBW.out)⟩
  have hi0 : i0 < L.length := (List.getElem?_eq_some_iff.1 hp0).1
  obtain ⟨g, rfl, hg0⟩ : ∃ g, A = some ⟨g, 0, none⟩ ∧ ∃ cur, w.heap[g]? = some (.cells cur 85 (0, 0)) ∧ B ≤ g ∧ c ≤ maxLen ∧ L.length ≤ c ∧ cur.size = c * 5 ∧ cur.toList.take (L.length * 5) = tabrow L := by
    rcases HH.out.2 with ⟨e, h2⟩ | ⟨g, cap, cur, e, h2, h3, h4, h5, h6, h7⟩
    · omega
    · injection e with e1 _ e2
      subst e2
      exact ⟨g, e1, cur, h3, h2, h5, h4, h6, h7⟩
  have hk0 : keptT f L i0 = L.take i0 := by
    unfold keptT
    rw [List.filter_eq_self]
    intro q hq
    obtain ⟨j, hj⟩ := List.getElem?_of_mem hq
    have hj2 : j < i0 := by have := (List.getElem?_eq_some_iff.1 hj).1; rw [List.length_take] at this; omega
    rw [List.getElem?_take, if_pos hj2] at hj
    simp [hb0 j q hj2 hj]
  have hk1 : keptT f L (i0 + 1) = L.take i0 := by rw [keptT_no hp0 hf0, hk0]
  have HH2 : Hid (∀ u, Chg (fun k => k = g) w u → ∀ p : Tab × TabH, Calls Try.prog 155 #[.agg #[.int .i64 p.1.num, .int .i64 p.1.lev, .slice p.2.fstA p.1.fst.length p.2.fstc, .slice p.2.lstA p.1.lst.length p.2.lstc, .int .i64 p.1.siz], .pointer (some ⟨t, 0, none⟩)] u fun e w' => e = .returned (.bool (f p.1)) ∧ Ext u w') := fun u hu p => HC.out u (hu.mono fun k _ hk => by rw [hk]) p
  obtain ⟨cur0, g1, g2, g3, g4, g5, g6⟩ := hg0
  have HG : Hid (B ≤ g ∧ g < w.heap.size ∧ L.length ≤ c ∧ c ≤ maxLen) := ⟨g2, (Array.getElem?_eq_some_iff.1 g1).1, g4, g3⟩
  have HW1 : Hid (Chg (fun k => k = g) w w1) := Chg.of_ext HX1.out
  have hrow : ∀ k x, (tabrow L)[k]? = some x → cur0[k]? = some x := fun k x hx => by
    have hlt := (List.getElem?_eq_some_iff.1 hx).1
    rw [tabrow_length] at hlt
    have h8 := congrArg (fun l => l[k]?) g6
    simp only [List.getElem?_take, if_pos hlt, Array.getElem?_toList] at h8
    rw [h8]; exact hx
  have HD0 : Hid (DelI g c (keptT f L (i0 + 1)) L (i0 + 1) w1) := by
    refine ⟨cur0, (HX1.out.block g HG.out.2.1).trans g1, g5, ?_, fun k x _ hx => hrow k x hx⟩
    rw [hk1, List.length_take, Nat.min_eq_left (by omega)]
    apply List.ext_getElem?
    intro k
    by_cases hk : k < i0 * 5
    · rw [List.getElem?_take, if_pos hk, Array.getElem?_toList]
      have e1 : (tabrow L)[k]? = (tabrow (L.take i0))[k]? := by
        conv => lhs; rw [← List.take_append_drop i0 L, tabrow_append]
        rw [List.getElem?_append_left (by rw [tabrow_length, List.length_take]; omega)]
      rw [← e1]
      cases hx : (tabrow L)[k]? with
      | none => rw [List.getElem?_eq_none_iff, tabrow_length] at hx; omega
      | some x => exact hrow k x hx
    · rw [List.getElem?_eq_none (by rw [List.length_take]; omega), List.getElem?_eq_none (by rw [tabrow_length, List.length_take]; omega)]
  have hk2 : (keptT f L (i0 + 1)).length = i0 := by rw [hk1, List.length_take]; omega
  have HK2 := Lib.hid hk2
  have HI0 := Lib.hid hi0
  have hwi : wrap64 ((i0 : Int) + 1) = ((i0 + 1 : Nat) : Int) := by have := HL.out; unfold wrap64; omega
  have HWI := Lib.hid hwi
  have hne : ((i0 : Int) == -1) = false := beq_eq_false_iff_ne.2 (by omega)
  clear hwi hi0 hp0 hf0 hb0 hk0 hk1 g1 g2 g3 g4 g5 g6 hrow hk2 HI HC HH
  go_wp2_with fail
  go_loopw [5, 6] (fun a b wr => ∃ j : Nat, a = .int .i64 ((keptT f L j).length : Int) ∧ b = .int .i64 (j : Int) ∧ j ≤ L.length ∧ (keptT f L j).length < j ∧ Hid (DelI g c (keptT f L j) L j wr) ∧ Hid (Chg (fun k => k = g) w wr)) (fun _ b _ => L.length - (intOf b).toNat)
  case atStart => exact ⟨i0 + 1, by rw [HK2.out], by rw [HWI.out], HI0.out, by rw [HK2.out]; omega, HD0.out, HW1.out⟩
  case round =>
    obtain ⟨j, rfl, rfl, hm, hlt5, HD, HX⟩ := hrel
    by_cases hlt : j < L.length
    · have d : decide ((j : Int) < (L.length : Int)) = true := by simp; omega
      have d2 : decide (j < L.length) = true := by simp; omega
      obtain ⟨p, hp⟩ : ∃ p, L[j]? = some p := ⟨_, List.getElem?_eq_getElem hlt⟩
      have HP1 := Lib.hid hp
      obtain ⟨m, hmm⟩ : ∃ m, m = (keptT f L j).length := ⟨_, rfl⟩
      rw [← hmm] at hlt5 ⊢
      have HM := Lib.hid hmm
      clear hmm
      have hcell : ∀ q x, (tabcells p)[q]? = some x → wr.cell? ⟨g, j * 5 + q, none⟩ = some x := fun q x hx => by
        obtain ⟨cur, e1, e2, e3, e4⟩ := HD.out
        refine cell_of e1 (e4 _ _ (Nat.le_add_right _ _) ?_)
        obtain ⟨hj, rfl⟩ := List.getElem?_eq_some_iff.1 hp
        exact (tabrow_at L hj (by have := (List.getElem?_eq_some_iff.1 hx).1; rwa [tabcells_length] at this)).trans hx
      have c0 : wr.cell? ⟨g, j * 5, none⟩ = some (.int .i64 p.1.num) := hcell 0 _ rfl
      have c1 : wr.cell? ⟨g, j * 5 + 1, none⟩ = some (.int .i64 p.1.lev) := hcell 1 _ rfl
      have c2 : wr.cell? ⟨g, j * 5 + 2, none⟩ = some (.slice p.2.fstA p.1.fst.length p.2.fstc) := hcell 2 _ rfl
      have c3 : wr.cell? ⟨g, j * 5 + 3, none⟩ = some (.slice p.2.lstA p.1.lst.length p.2.lstc) := hcell 3 _ rfl
      have c4 : wr.cell? ⟨g, j * 5 + 4, none⟩ = some (.int .i64 p.1.siz) := hcell 4 _ rfl
      obtain ⟨z, hz⟩ : ∃ z, z = f p.1 := ⟨_, rfl⟩
      have HCC := Lib.hid (fun u (hu : Chg (fun k => k = g) w u) => HH2.out u hu p)
      rw [← hz] at HCC
      have HZ := Lib.hid hz
      have HJ := Lib.hid hlt
      have HMJ := Lib.hid hlt5
      have hw2 : wrap64 ((j : Int) + 1) = ((j + 1 : Nat) : Int) := by have := HL.out; unfold wrap64; omega
      have hw3 : wrap64 ((m : Int) + 1) = ((m + 1 : Nat) : Int) := by have := HL.out; unfold wrap64; omega
      have n3 : (0 : Int) ≤ (j : Int) := by omega
      have n4 : (j : Int) < (L.length : Int) := by omega
      have n5 : (0 : Int) ≤ (m : Int) := by omega
      have n6 : (m : Int) < (L.length : Int) := by omega
      clear hp hlt hm hz hcell hlt5
      go_wp2_with fail
      refine (HCC.out _ (HX.out.trans (Chg.alloc _ _))).mono ?_
      rintro x w9 ⟨rfl, hb9⟩
      have HX9 : Hid (Ext wr w9) := Ext.trans (ext_alloc _ _) hb9
      have HCH : Hid (Chg (fun k => k = g) w w9) := HX.out.trans (Chg.of_ext HX9.out)
      have HD9 : Hid (DelI g c (keptT f L j) L j w9) := by
        obtain ⟨cur, e1, e2⟩ := HD.out
        exact ⟨cur, (HX9.out.block g (Array.getElem?_eq_some_iff.1 e1).1).trans e1, e2⟩
      have hbx : w9.heap[wr.heap.size]? = some (.cells #[.int .i64 p.1.num, .int .i64 p.1.lev, .slice p.2.fstA p.1.fst.length p.2.fstc, .slice p.2.lstA p.1.lst.length p.2.lstc, .int .i64 p.1.siz] 85) := (hb9.block _ (by simp)).trans (heap_alloc_new wr _)
      have b0 := cell_of hbx (k := 0) rfl
      have b1 := cell_of hbx (k := 1) rfl
      have b2 := cell_of hbx (k := 2) rfl
      have b3 := cell_of hbx (k := 3) rfl
      have b4 := cell_of hbx (k := 4) rfl
      clear hb9 hbx c0 c1 c2 c3 c4
      rcases z with _ | _
      · obtain ⟨cur, e1, e2, e3, e4⟩ := HD9.out
        have HGL := HG.out
        have hlt2 : m * 5 + 4 < cur.size := by have := HMJ.out; have := HJ.out; rw [e2]; omega
        have old : ∀ k, k < 5 → w9.cell? ⟨g, m * 5 + k, none⟩ = some (cur[m * 5 + k]!) := fun k hk => cell_of e1 (by rw [Array.getElem?_eq_getElem (show m * 5 + k < cur.size by omega), getElem!_pos cur _ (by omega)])
        have r0 : w9.cell? ⟨g, m * 5, none⟩ = some _ := old 0 (by decide)
        have r1 := old 1 (by decide)
        have r2 := old 2 (by decide)
        have r3 := old 3 (by decide)
        have r4 := old 4 (by decide)
        have fz : ∀ k, w9.frozen? ⟨g, k, none⟩ = false := fun k => by unfold World.frozen?; rw [e1]; simp
        have HE := Lib.hid e1
        clear e1 e2 e3 e4 old HGL hlt2
        go_wp2_with fail
        refine ⟨⟨j + 1, ?_, rfl, HJ.out, ?_, ?_, ?_⟩, by have := HJ.out; simp [intOf]; omega⟩
        · rw [keptT_yes HP1.out HZ.out.symm, List.length_append, ← HM.out]; rfl
        · rw [keptT_yes HP1.out HZ.out.symm, List.length_append, ← HM.out]; have := HMJ.out; simp; omega
        · rw [keptT_yes HP1.out HZ.out.symm]
          exact del_keep HD9.out HM.out HMJ.out (by have := HJ.out; have := HG.out; omega)
        · exact ((((HCH.out.trans (Chg.setCell _ _ _ rfl)).trans (Chg.setCell _ _ _ rfl)).trans (Chg.setCell _ _ _ rfl)).trans (Chg.setCell _ _ _ rfl)).trans (Chg.setCell _ _ _ rfl)
      · go_wp2_with fail
        refine ⟨⟨j + 1, ?_, rfl, HJ.out, ?_, ?_, HCH.out⟩, by have := HJ.out; simp [intOf]; omega⟩
        · rw [keptT_no HP1.out HZ.out.symm, ← HM.out]
        · rw [keptT_no HP1.out HZ.out.symm, ← HM.out]; have := HMJ.out; omega
        · rw [keptT_no HP1.out HZ.out.symm]
          obtain ⟨cur, e1, e2, e3, e4⟩ := HD9.out
          exact ⟨cur, e1, e2, e3, fun k x hk hx => e4 k x (by omega) hx⟩
    · have d : decide ((j : Int) < (L.length : Int)) = false := by simp; omega
      have d2 : decide (j < L.length) = false := by simp; omega
      obtain rfl : j = L.length := by omega
      obtain ⟨m, hmm⟩ : ∃ m, m = (keptT f L L.length).length := ⟨_, rfl⟩
      rw [← hmm] at hlt5 ⊢
      have HM := Lib.hid hmm
      have HMJ := Lib.hid hlt5
      obtain ⟨cur, e1, e2, e3, e4⟩ := HD.out
      have n5 : (0 : Int) ≤ (m : Int) := by omega
      have n6 : (m : Int) ≤ (L.length : Int) := by omega
      have n7 : (m : Int) ≤ (c : Int) := by have := HG.out; omega
      have n8 : (L.length : Int) ≤ (c : Int) := by have := HG.out; omega
      have hmL : m < L.length := hlt5
      have hcs : m * 5 + (L.length - m) * 5 ≤ cur.size := by rw [e2]; have := HG.out; omega
      obtain ⟨zs, hz1, hcl⟩ := clear_tabs (c := c - m) e1 (show 0 < L.length - m by omega) hcs
      have HE1 := Lib.hid e1
      have HE2 := Lib.hid e2
      have HE3 := Lib.hid e3
      have HZ1 := Lib.hid hz1
      have HCS := Lib.hid hcs
      clear hm hmm hlt5 hlt e1 e2 e3 e4 hz1 hmL hcs
      go_wp2_with fail
      · exfalso; have := HG.out; have := HMJ.out; omega
      go_ret
      have e1 := HE1.out
      have e2 := HE2.out
      have hml : m < L.length := HMJ.out
      have hgl : g < wr.heap.size := (Array.getElem?_eq_some_iff.1 e1).1
      refine ⟨some ⟨g, 0, none⟩, c, by rw [← HM.out]; rfl, ?_, fun w0 hb => ?_⟩
      · refine ⟨tabrow_length _, .inr ⟨g, c, _, by rw [← HM.out], HG.out.1, setRow_heap _ _ _ _ _ _ e1, by rw [← HM.out]; have := HG.out; omega, HG.out.2.2.2, ?_, ?_⟩⟩
        · have := HZ1.out; have := HCS.out
          simp
          omega
        · rw [← HM.out]
          have h3 := HE3.out
          rw [← HM.out] at h3
          rw [← h3]
          have := HCS.out
          simp [List.length_take, Nat.min_eq_left (show m * 5 ≤ cur.size by omega)]
      · have hch : ∀ cs, Chg (fun k => k = g) w (wr.setRow g cs) := fun cs => HX.out.trans ⟨rfl, rfl, rfl, by simp [World.setRow], fun k hk hne => by
          unfold World.setRow
          simp only [Array.getElem?_modify, if_neg (Ne.symm hne)]⟩
        exact hb.trans ((hch _).below (fun k hk => by rw [hk]; exact HG.out.1) HBW.out)
end Go.Proofs.Ytjlppjffkebejaa

/- edit.without: the tables that have other numbers. -/
namespace Go.Proofs.Ytjlppjffkebejaa
open Go.ChangeShapes Go.WideShapes Go.ChangeAt Go.RowKit

/-- What is left of the tables when these numbers are dropped. -/
def restT (l : List Int) (L : List (Tab × TabH)) : List (Tab × TabH) := keptT (fun t => decide (t.num ∈ l)) L L.length

set_option maxRecDepth 100000 in
set_option maxHeartbeats 4000000 in
theorem without_any {w : World} {lo hi lo2 hi2 : Nat} {A D : Option Addr} {c d0 : Nat} {L : List (Tab × TabH)} {l : List Int} (h : Sl w lo hi A (tabrow L)) (h2 : Sl w lo2 hi2 D (ints l)) (hhi : hi ≤ w.heap.size) (hhi2 : hi2 ≤ w.heap.size) (hlen : L.length ≤ 1000000000000) (hlen2 : l.length ≤ 1000000000000) :
    Calls Try.prog 121 #[.slice A L.length c, .slice D l.length d0] w fun e w' =>
      ∃ A' c', e = .returned (.tuple #[.slice A' (restT l L).length c', .bool (decide ((restT l L).length + l.length = L.length))]) ∧ OwnT w.heap.size (restT l L) (.slice A' (restT l L).length c') w' ∧ Ext w w' := by
  have HS := Lib.hid (sorted_any (c := d0) h2 hhi2 (by omega))
  have HH := Lib.hid h
  have HHI := Lib.hid hhi
  have HL := Lib.hid hlen
  have HL2 := Lib.hid hlen2
  clear h h2 hhi hhi2 hlen hlen2
  go_enter Try.func121, Try.ntmps121
  go_wp2_with fail
  refine Calls.mono HS.out ?_
  rintro e w1 ⟨v1, rfl, ho1, hx1⟩
  have HX1 := Lib.hid hx1
  have HO1 : Hid (Own64 w.heap.size (up l) v1 w1) := ho1
  obtain ⟨A1, c1, rfl, _⟩ := Own64.sl ho1
  obtain ⟨s, hs⟩ : ∃ s, s = (up l).length := ⟨_, rfl⟩
  rw [← hs] at HO1 ⊢
  have HSL : Hid (s = l.length) := hs.trans (up_length l)
  obtain ⟨w2, hw2⟩ : ∃ w2, w2 = w1.alloc (.cells #[.slice A1 s c1] 38) := ⟨_, rfl⟩
  have HX12 : Hid (Ext w1 w2) := by rw [hw2]; exact ext_alloc _ _
  have HCB : Hid (w2.cell? ⟨w1.heap.size, 0, none⟩ = some (.slice A1 s c1)) := by rw [hw2]; exact cell_of (heap_alloc_new w1 _) rfl
  have HW2 : Hid (w2.heap.size = w1.heap.size + 1) := by rw [hw2]; exact Array.size_push _
  have HCL := Lib.hid (clonet_any (c := c) (HH.out.below (Ext.trans HX1.out HX12.out) HHI.out) (Nat.le_trans HHI.out (Ext.trans HX1.out HX12.out).size) HL.out)
  clear ho1 hx1 hs
  rw [hw2] at HCL
  go_wp2_with fail
  refine Calls.mono HCL.out ?_
  rintro e w3 ⟨A3, c3, rfl, ho3, hx3⟩
  rw [← hw2] at ho3 hx3
  have HX3 := Lib.hid hx3
  have HO3 := Lib.hid ho3
  have HB3 : Hid (∀ u, Chg (fun k => A3 = some ⟨k, 0, none⟩) w3 u → Ext w2 u) := fun u hu => Below.trans HX3.out (hu.below (fun k hk => by
    rcases HO3.out.2 with ⟨e, _⟩ | ⟨g, cap, cur, e, h2, _⟩
    · injection e with e _ _
      rw [e] at hk; cases hk
    · injection e with e _ _
      rw [e] at hk
      injection hk with hk
      injection hk with hk
      omega) HX3.out.size)
  have HDL := Lib.hid (deletef_any (f := fun t => decide (t.num ∈ l)) (t := w1.heap.size) ho3 HL.out HX3.out.size (fun u hu p => dropped_any (ext_cell (HB3.out u hu) HCB.out) (v := .slice A1 s c1) (HO1.out.below (Ext.trans HX12.out (HB3.out u hu))) HL2.out p))
  clear ho3 hx3 hw2
  go_wp2_with fail
  refine Calls.mono HDL.out ?_
  rintro e w4 ⟨A4, c4, rfl, ho4, hb4⟩
  have HO4 : Hid (OwnT w2.heap.size (restT l L) (.slice A4 (restT l L).length c4) w4) := ho4
  have HX4 : Hid (Ext w2 w4) := hb4 _ HX3.out
  have q := ext_cell HX4.out HCB.out
  obtain ⟨r, hr⟩ : ∃ r, r = (restT l L).length := ⟨_, rfl⟩
  have hr2 : (keptT (fun t => decide (t.num ∈ l)) L L.length).length = r := hr.symm
  have hrn : r ≤ L.length := by rw [hr]; exact keptT_le _ _ _
  have HR := Lib.hid hr
  have HRN := Lib.hid hrn
  rw [hr2]
  clear ho4 hb4 hr hr2 hrn
  obtain ⟨n, hn⟩ : ∃ n, n = L.length := ⟨_, rfl⟩
  rw [← hn]
  have HN := Lib.hid hn
  have hw : wrap64 ((r : Int) + (s : Int)) = ((r + s : Nat) : Int) := by have := HRN.out; have := HL.out; have := HL2.out; have := HSL.out; unfold wrap64; omega
  obtain ⟨z, hz⟩ : ∃ z, z = decide (r + s = n) := ⟨_, rfl⟩
  have d1 : (((r + s : Nat) : Int) == (n : Int)) = z := by rw [hz, Bool.eq_iff_iff, beq_iff_eq, decide_eq_true_eq]; omega
  have d2 : ((r : Int) + (s : Int) == (n : Int)) = z := by rw [hz, Bool.eq_iff_iff, beq_iff_eq, decide_eq_true_eq]; omega
  have HZ := Lib.hid hz
  clear hz hn
  go_upto_region 3 with (fail)
  go_quiet (fail)
  go_wp2_with fail
  go_ret2
  rw [← HR.out]
  have hz : z = decide (r + l.length = L.length) := by rw [HZ.out, HSL.out, HN.out]
  refine ⟨A4, c4, by rw [← hz]; rfl, ?_, below_drewN (Ext.trans HX1.out (Ext.trans HX12.out HX4.out)) _⟩
  have h9 := HO4.out
  rw [← HR.out] at h9
  exact OwnT.below (h9.base (Nat.le_trans HX1.out.size HX12.out.size)) (below_drewN (Ext.refl _) _)
end Go.Proofs.Ytjlppjffkebejaa

/- slices.SortFunc over tables' places, by edit's compare. -/
namespace Go.Proofs.Ytjlppjffkebejaa
open Go.ChangeShapes Go.WideShapes Go.ChangeAt Go.RowKit
open Go.Sort (flatK size_flatK get_flatK HoldsK)

theorem cmpK_ltt {a b c : List Nat} (h : cmpK a b < 0) (k : cmpK b c < 0) : cmpK a c < 0 := by
  have h1 := cmpK_range a b
  have h2 := cmpK_range b c
  have := cmpK_lt_trans (a := a) (b := b) (c := c) (by omega) (by omega)
  omega
theorem cmpK_lele {a b c : List Nat} (h : cmpK a b ≤ 0) (k : cmpK b c ≤ 0) : cmpK a c ≤ 0 := by
  have h1 := cmpK_range a b
  have h2 := cmpK_range b c
  by_cases e1 : cmpK a b = 0
  · rw [cmpK_zero e1]; exact k
  by_cases e2 : cmpK b c = 0
  · rw [← cmpK_zero e2]; exact h
  have := cmpK_ltt (a := a) (b := b) (c := c) (by omega) (by omega)
  omega
theorem cmpT_ntrans {a b c : Tab} (h : ¬ cmpT a b < 0) (k : ¬ cmpT b c < 0) : ¬ cmpT a c < 0 := by
  rw [cmpT_lt] at *
  intro h2
  rcases h2 with h2 | ⟨h2, ⟨h3, h4⟩ | ⟨h3, h4⟩⟩
  · by_cases e1 : a.lev < b.lev
    · exact h (.inl e1)
    · exact k (.inl (by omega))
  · by_cases e1 : a.lev < b.lev
    · exact h (.inl e1)
    by_cases e2 : b.lev < c.lev
    · exact k (.inl e2)
    have e3 : a.lev = b.lev := by omega
    by_cases e4 : b.num < a.num
    · exact h (.inr ⟨e3, .inl ⟨h3, e4⟩⟩)
    · exact k (.inr ⟨by omega, .inl ⟨by omega, by omega⟩⟩)
  · by_cases e1 : a.lev < b.lev
    · exact h (.inl e1)
    by_cases e2 : b.lev < c.lev
    · exact k (.inl e2)
    have e3 : a.lev = b.lev := by omega
    have n1 : ¬ cmpK a.fst b.fst < 0 := fun e => h (.inr ⟨e3, .inr ⟨h3, e⟩⟩)
    have n2 : ¬ cmpK b.fst c.fst < 0 := fun e => k (.inr ⟨by omega, .inr ⟨by omega, e⟩⟩)
    have t1 := cmpK_turn a.fst b.fst
    have t2 := cmpK_turn b.fst c.fst
    have t3 := cmpK_turn a.fst c.fst
    have := cmpK_lele (a := c.fst) (b := b.fst) (c := a.fst) (by omega) (by omega)
    omega
theorem cmpT_trans {a b c : Tab} (h : cmpT a b < 0) (k : cmpT b c < 0) : cmpT a c < 0 := by
  rw [cmpT_lt] at *
  rcases h with h | ⟨h, ⟨h1, h2⟩ | ⟨h1, h2⟩⟩ <;> rcases k with k | ⟨k, ⟨k1, k2⟩ | ⟨k1, k2⟩⟩
  · exact .inl (by omega)
  · exact .inl (by omega)
  · exact .inl (by omega)
  · exact .inl (by omega)
  · exact .inr ⟨by omega, .inl ⟨h1, by omega⟩⟩
  · omega
  · exact .inl (by omega)
  · omega
  · exact .inr ⟨by omega, .inr ⟨h1, cmpK_ltt h2 k2⟩⟩
theorem cmpT_irrefl (a : Tab) : ¬ cmpT a a < 0 := by
  rw [cmpT_lt]
  rintro (h | ⟨_, ⟨_, h⟩ | ⟨_, h⟩⟩)
  · omega
  · omega
  · rw [cmpK_self] at h; omega

/-- Places whose bytes lie below a block. -/
structure Alow (w : World) (hi : Nat) where
  val : Tab × TabH
  at_ : tabAt w 0 hi val
instance alowI (w : World) (hi : Nat) : Inhabited (Alow w hi) := ⟨⟨(⟨0, 0, [], [], 0⟩, ⟨none, 0, none, 0⟩), ⟨by decide, by decide, by decide, by decide, Bs.nil _ _ _, fun x hx => by simp at hx, Bs.nil _ _ _, fun x hx => by simp at hx, by decide, by decide⟩⟩⟩
def encA {w : World} {hi : Nat} (x : Alow w hi) : List Value := tabcells x.val
def cmpA {w : World} {hi : Nat} (x y : Alow w hi) : Int := cmpT x.val.1 y.val.1
theorem swoA (w : World) (hi : Nat) : Go.Sort.SWO (ltOf (cmpA (w := w) (hi := hi))) where
  irrefl x := by unfold ltOf cmpA; exact decide_eq_false (cmpT_irrefl _)
  trans x y z h1 h2 := by unfold ltOf cmpA at *; rw [decide_eq_true_eq] at *; exact cmpT_trans h1 h2
  ntrans x y z h1 h2 := by unfold ltOf cmpA at *; rw [decide_eq_false_iff_not] at *; exact cmpT_ntrans h1 h2
theorem flat_row {w : World} {hi : Nat} (d : Array (Alow w hi)) : (flatK encA 5 d).toList = tabrow (d.toList.map fun x => x.val) := by
  have hl : (tabrow (d.toList.map fun x => x.val)).length = d.size * 5 := by rw [tabrow_length]; simp
  apply List.ext_getElem?
  intro t
  by_cases ht : t < d.size * 5
  · have h1 : t / 5 < d.size := by omega
    have h5 : t % 5 < 5 := Nat.mod_lt _ (by decide)
    have e2 := tabrow_at (d.toList.map fun x => x.val) (k := t / 5) (j := t % 5) (by simpa using h1) h5
    have e3 : t / 5 * 5 + t % 5 = t := by omega
    rw [e3] at e2
    rw [e2, Array.getElem?_toList, Array.getElem?_eq_getElem (by rw [size_flatK]; exact ht)]
    have e4 := get_flatK encA 5 d t ht
    rw [getElem!_pos (flatK encA 5 d) t (by rw [size_flatK]; exact ht), getElem!_pos d (t / 5) h1] at e4
    rw [e4, getElem!_pos (encA d[t / 5]) (t % 5) (by unfold encA; rw [tabcells_length]; exact h5)]
    rw [List.getElem?_eq_getElem (by rw [tabcells_length]; exact h5)]
    simp [encA]
  · rw [List.getElem?_eq_none (by simpa using ht), List.getElem?_eq_none (by rw [hl]; omega)]

theorem sortf_any {w : World} {B hi : Nat} {v : Value} {R : List (Tab × TabH)} (h : OwnT B R v w) (hT : ∀ p ∈ R, tabAt w 0 hi p) (hhi : hi ≤ B) (hB : B ≤ w.heap.size) (hlen : R.length ≤ 1000000000000) :
    Calls Try.prog 122 #[v, .func (.func 123) #[] #[]] w fun e w' => e = .returned (.tuple #[]) ∧
      ∃ R', R'.Perm R ∧ R'.Pairwise (fun a b => ¬ cmpT b.1 a.1 < 0) ∧ OwnT B R' v w' ∧ ∀ w0, Below B w0 w → Below B w0 w' := by
  have h0 := h
  rcases h.2 with ⟨rfl, h2⟩ | ⟨g, cap, cur, rfl, h3, h4, h5, h6, h7, h8⟩
  · have hR : R = [] := List.eq_nil_of_length_eq_zero h2
    subst hR
    have hcon := AnyF.slices_SortFunc_none Try.lsortf none 0 (.func (.func 123) #[] #[]) w
    change Calls Try.prog 122 _ _ _ at hcon
    exact hcon.mono fun e w' ⟨he, hw⟩ => ⟨he, [], List.Perm.refl _, List.Pairwise.nil, by rw [hw]; exact h0, fun w0 hb => by rw [hw]; exact hb⟩
  have hlt : g < w.heap.size := (Array.getElem?_eq_some_iff.1 h4).1
  obtain ⟨d, hd⟩ : ∃ d : Array (Alow w hi), d.toList.map (fun x => x.val) = R := by
    refine ⟨(R.attach.map fun p => (⟨p.1, hT p.1 p.2⟩ : Alow w hi)).toArray, ?_⟩
    change ((R.attach.map fun p => (⟨p.1, hT p.1 p.2⟩ : Alow w hi)).map fun x => x.val) = R
    rw [List.map_map]
    exact (List.map_congr_left fun p _ => rfl).trans (List.attach_map_subtype_val R)
  have hsz : d.size = R.length := by rw [← hd]; simp
  have hrow : (flatK encA 5 d).toList = tabrow R := by rw [flat_row, hd]
  have hput : ∀ (dk : Array (Alow w hi)) (m : Nat) (os : Array Obj), dk.size = d.size → OwnT B (dk.toList.map fun x => x.val) (.slice (some ⟨g, 0, none⟩) R.length cap) (sortWorldK encA 5 w g 0 m dk os) ∧ ∀ w0, Below B w0 w → Below B w0 (sortWorldK encA 5 w g 0 m dk os) := fun dk m os hs => by
    have hl : (dk.toList.map fun x => x.val).length = R.length := by simp [hs, hsz]
    have := own_put h0 (ys := tabrow (dk.toList.map fun x => x.val)) (by rw [tabrow_length, tabrow_length, hl]) m os
    have e : (tabrow (dk.toList.map fun x => x.val)).toArray = flatK encA 5 dk := by rw [← flat_row]
    rw [e] at this
    unfold OwnT
    rw [hl]
    exact this
  have hholds : HoldsK encA 5 w g 0 d := fun j hj => by
    have hj2 : j < R.length * 5 := by rw [size_flatK, hsz] at hj; exact hj
    have hcl : j < cur.size := by rw [h7]; omega
    constructor
    · rw [Nat.zero_add, cell_of h4 (v := cur[j]) (by rw [Array.getElem?_eq_getElem hcl]), getElem!_pos _ j hj]
      have h9 := congrArg (fun l => l[j]?) (h8.trans hrow.symm)
      simp only [List.getElem?_take, if_pos hj2, Array.getElem?_toList] at h9
      rw [Array.getElem?_eq_getElem hcl, Array.getElem?_eq_getElem hj] at h9
      simpa using h9
    · unfold World.frozen?
      rw [h4]
      simp
  have hcmp : CmpLays Try.prog 123 #[] encA 5 cmpA g 0 d.size w := fun m os dk hs x y => by
    have hb := (hput dk m os hs).2 w (Below.refl _ _)
    have hsz2 : hi ≤ (sortWorldK encA 5 w g 0 m dk os).heap.size := Nat.le_trans (Nat.le_trans hhi hB) hb.size
    change Calls Try.prog _ #[tabV x.val, tabV y.val] _ _
    refine (cmpt_any (x.at_.below hb hhi) (y.at_.below hb hhi) hsz2 hsz2).mono fun e w' ⟨he, hw⟩ => ⟨he, 0, #[.cells (tabcells x.val).toArray 85] ++ #[.cells (tabcells y.val).toArray 85], ?_⟩
    rw [hw]
    unfold box2
    rw [Go.Sort.alloc_eq_grow, Go.Sort.alloc_eq_grow, Go.Sort.grow_grow]
    rfl
  have eg : ∀ args w, (callFunc 123 args).run Try.prog w = .ok (.enter 123 args) w := enters_of Try.func123 (by kernel_rfl) rfl
  have hcon := AnyQ.slices_SortFunc Try.lsortf 5 Try.isAgg85 Try.sizeOf85 encA (fun _ => rfl) (fun x u hu => tabrow_one [x.val] u (by simpa [tabrow, encA] using hu)) cmpA (swoA w hi) 123 #[] g 0 cap d w eg hcmp hholds hlt (by rw [hsz]; omega)
  rw [hsz] at hcon
  change Calls Try.prog 122 _ _ _ at hcon
  refine hcon.mono fun e w' ⟨he, d', m, os, hp, hs, hw⟩ => ⟨he, d'.toList.map (fun x => x.val), ?_, ?_, ?_⟩
  · obtain ⟨p1, _, p3⟩ := hp
    rw [← hd]
    have e1 : (d'.extract 0 R.length).toList = d'.toList := by rw [← hsz, ← p1]; simp
    have e2 : (d.extract 0 R.length).toList = d.toList := by rw [← hsz]; simp
    rw [e1, e2] at p3
    exact p3.map _
  · have p1 := hp.1
    rw [List.pairwise_map, List.pairwise_iff_getElem]
    intro i j hi' hj' hij
    have hj2 : j < d'.size := by simpa using hj'
    have := hs i j (Nat.zero_le _) hij (by rw [← hsz, ← p1]; exact hj2)
    rw [getElem!_pos d' j hj2, getElem!_pos d' i (by omega)] at this
    unfold ltOf cmpA at this
    simpa using this
  · subst hw
    have := hput d' m os hp.1
    refine ⟨?_, this.2⟩
    exact this.1
end Go.Proofs.Ytjlppjffkebejaa

/- Places with bytes of their own; edit.copies. -/
namespace Go.Proofs.Ytjlppjffkebejaa
open Go.ChangeShapes Go.WideShapes Go.ChangeAt Go.RowKit

theorem ownT_lt {w : World} {base s n : Nat} {e : TypeId} {v : Value} {xs : List Value} (h : w.ownsRow base e s v n xs) : ∀ g, v.ownBlock = some g → base ≤ g ∧ g < w.heap.size ∧ ∃ cur, w.heap[g]? = some (.cells cur e (0, 0)) := by
  intro g hg
  rcases h.2 with ⟨rfl, _⟩ | ⟨g', cap, cur, hv, hb, hh, r⟩
  · cases hg
  · rw [hv] at hg
    injection hg with hg
    subst hg
    exact ⟨hb, (Array.getElem?_eq_some_iff.1 hh).1, cur, hh⟩
theorem own_apart {u : World} {B g o : Nat} {l : List Nat} {v x : Value} {c : Array Value} {e : TypeId} (h : Own B l v u) (hg : u.heap[g]? = some (.cells c e (0, 0))) (he : e ≠ 5) : Own B l v (u.setCell ⟨g, o, none⟩ x) :=
  row_kept h fun k hk => Below.heap_setCell _ _ _ _ (by
    rintro rfl
    obtain ⟨_, _, cur, hc⟩ := ownT_lt h _ hk
    rw [hg] at hc
    injection hc with hc
    injection hc with _ h2 _
    exact he h2)
/-- A place whose bytes are the call's own. -/
structure TMine (B : Nat) (p : Tab × TabH) (u : World) : Prop where
  f : Own B p.1.fst (.slice p.2.fstA p.1.fst.length p.2.fstc) u
  l : Own B p.1.lst (.slice p.2.lstA p.1.lst.length p.2.lstc) u
  good : -9223372036854775808 ≤ p.1.num ∧ p.1.num ≤ 9223372036854775807 ∧ -9223372036854775808 ≤ p.1.lev ∧ p.1.lev ≤ 9223372036854775807 ∧ -9223372036854775808 ≤ p.1.siz ∧ p.1.siz ≤ 9223372036854775807
  fb : ∀ x ∈ p.1.fst, x < 256
  lb : ∀ x ∈ p.1.lst, x < 256
theorem TMine.below {B : Nat} {p : Tab × TabH} {u u' : World} (h : TMine B p u) (hu : Ext u u') : TMine B p u' := ⟨h.f.below hu, h.l.below hu, h.good, h.fb, h.lb⟩
theorem TMine.at_ {B : Nat} {p : Tab × TabH} {u : World} (h : TMine B p u) : tabAt u B u.heap.size p := ⟨h.good.1, h.good.2.1, h.good.2.2.1, h.good.2.2.2.1, Bs.of_own h.f, h.fb, Bs.of_own h.l, h.lb, h.good.2.2.2.2.1, h.good.2.2.2.2.2⟩

set_option maxRecDepth 100000 in
/-- 'append(l, t)'. -/
theorem wpList_pushtab {ops : Array Oper} {rest : List Oper} {o : Oper} {a : Act} {Q : Exit → Act → World → Prop} {u : World} (hgd : o.guard = none) (s x : Operand)
    (ho : o.op = .call { callee := .builtin .append, args := #[s, x], argTypes := #[34, 34] }) (B : Nat) (v : Value) (R : List (Tab × TabH)) (hs : a.eval s = v) (hown : OwnT B R v u)
    (p : Tab × TabH) (gb : Nat) (hx : a.eval x = .slice (some ⟨gb, 0, none⟩) 1 1) (hblk : u.heap[gb]? = some (.cells (tabcells p).toArray 85 (0, 0))) (hlen : R.length ≤ 1000000000000) (hB : B ≤ u.heap.size)
    (h : ∀ A' c' w', OwnT B (R ++ [p]) (.slice A' (R.length + 1) c') w' → (∀ q, TMine B q u → TMine B q w') → (∀ w0, Below B w0 u → Below B w0 w') → wpList Try.prog ops Q rest (a.put o.dst (.slice A' (R.length + 1) c')) w') :
    wpList Try.prog ops Q (o :: rest) a u := by
  obtain ⟨i0, hi0, ix0, ix1, ix2⟩ := info_parts tabinfo
  refine wpList_append_own _ hgd s x 34 ho B 85 i0 _ 5 72 Try.underlying34 hi0 ix0 ix1 ix2 rfl (by decide) v R.length (tabrow R) hs hown ⟨gb, 0, none⟩ 1 1 (tabcells p) hx rfl (fun j q hj => ?n1) (fun q hq => ?n2) ?n3 ?n4 hB (fun v' w5 ho hgr _ => ?rest)
  case n1 => rw [addr_add, Nat.zero_add]; exact cell_of hblk (by simpa using hj)
  case n2 => exact tabrow_one [p] q (by simpa [tabrow] using hq)
  case n3 => unfold maxLen; omega
  case n4 => omega
  case rest =>
    have hlt := ownT_lt hown
    have hke : ∀ q : Tab × TabH, TMine B q u → TMine B q w5 := fun q hq => by
      have hk : ∀ {l : List Nat} {x : Value}, Own B l x u → Own B l x w5 := fun hx => row_kept hx fun g' hg' => hgr.block g' (row_lt hx g' hg').2 (fun e => by
        obtain ⟨_, _, c1, hc1⟩ := ownT_lt hx g' hg'
        obtain ⟨_, _, c2, hc2⟩ := hlt g' e.symm
        rw [hc1] at hc2
        injection hc2 with hc2
        injection hc2 with _ h2 _
        exact absurd h2 (by decide))
      exact ⟨hk hq.f, hk hq.l, hq.good, hq.fb, hq.lb⟩
    have ho' : OwnT B (R ++ [p]) v' w5 := by
      unfold OwnT
      rw [List.length_append, tabrow_append]
      simpa [tabrow] using ho
    obtain ⟨A', c', rfl, _⟩ := ho'.sl
    have hl1 : (R ++ [p]).length = R.length + 1 := by simp
    rw [hl1] at ho' ⊢
    exact h A' c' w5 ho' hke (fun w0 hb => hb.grown hgr hB fun k hk => (hlt k hk).1)

/-- Copies of places: what copies answers. -/
def CopT (w : World) (T : List Tab) (e : Ending) (w' : World) : Prop := ∃ A c, ∃ R : List (Tab × TabH), e = .returned (.slice A R.length c) ∧ R.map Prod.fst = T ∧ OwnT w.heap.size R (.slice A R.length c) w' ∧ (∀ q ∈ R, TMine w.heap.size q w') ∧ Ext w w'

set_option maxRecDepth 100000 in
set_option maxHeartbeats 4000000 in
theorem tcopies_any {w : World} {lo hi : Nat} {A : Option Addr} {c : Nat} {L : List (Tab × TabH)} (h : tabs w lo hi A L) (hhi : hi ≤ w.heap.size) (hlen : L.length ≤ 1000000000000) (hln : ∀ p ∈ L, p.1.fst.length ≤ 1099511627776 ∧ p.1.lst.length ≤ 1099511627776) :
    Calls Try.prog 70 #[.slice A L.length c] w (CopT w (L.map Prod.fst)) := by
  have HE := Lib.hid h
  have HHI := Lib.hid hhi
  have HL := Lib.hid hlen
  have HLNS := Lib.hid hln
  have hlI : (L.length : Int) ≤ 1000000000000 := by omega
  clear h hhi hlen hln
  go_enter Try.func70, Try.ntmps70
  go_wp2_with fail
  go_loopw [3, 8] (fun v a wr => ∃ (i : Nat) (R : List (Tab × TabH)), a = .int .i64 (i : Int) ∧ i ≤ L.length ∧ Hid (R.map Prod.fst = (L.map Prod.fst).take i) ∧ Hid (OwnT w.heap.size R v wr ∧ ∀ q ∈ R, TMine w.heap.size q wr) ∧ Hid (Ext w wr)) (fun _ a _ => L.length - (intOf a).toNat)
  case atStart => exact ⟨0, [], rfl, by omega, rfl, ⟨World.ownsRow_nil _ _ _ _, fun q hq => by cases hq⟩, Ext.refl _⟩
  case round =>
    obtain ⟨i, R, rfl, hm, HRF, HR, HX⟩ := hrel
    by_cases hlt : i < L.length
    · have d : decide ((i : Int) < (L.length : Int)) = true := by simp; omega
      have d2 : decide (i < L.length) = true := by simp; omega
      have HRL : Hid (R.length = i) := by
        have := congrArg List.length HRF.out
        rw [List.length_map, List.length_take, List.length_map] at this
        unfold Hid; omega
      obtain ⟨p, hp⟩ : ∃ p, L[i]? = some p := ⟨_, List.getElem?_eq_getElem hlt⟩
      obtain ⟨b, o, rfl, _, _⟩ := HE.out.base (by omega)
      obtain ⟨c0, c1, c2, c3, c4⟩ := (HE.out.below HX.out HHI.out).get hp
      have HT := Lib.hid (HE.out.each p (List.mem_of_getElem? hp))
      have HLN := Lib.hid (HLNS.out p (List.mem_of_getElem? hp))
      have HP1 := Lib.hid hp
      have hw2 : wrap64 ((i : Int) + 1) = ((i + 1 : Nat) : Int) := by have := HL.out; unfold wrap64; omega
      have n3 : (0 : Int) ≤ (i : Int) := by omega
      have n4 : (i : Int) < (L.length : Int) := by omega
      have HLT := Lib.hid hlt
      obtain ⟨w1, hw1⟩ : ∃ w1, w1 = wr.alloc (.cells #[.int .i64 p.1.num, .int .i64 p.1.lev, .slice p.2.fstA p.1.fst.length p.2.fstc, .slice p.2.lstA p.1.lst.length p.2.lstc, .int .i64 p.1.siz] 85) := ⟨_, rfl⟩
      have HXA : Hid (Ext wr w1) := by rw [hw1]; exact ext_alloc _ _
      have HXW : Hid (Ext w w1) := Ext.trans HX.out HXA.out
      have HWS : Hid (w.heap.size ≤ w1.heap.size) := HXW.out.size
      have HBX : Hid (w1.heap[wr.heap.size]? = some (.cells #[.int .i64 p.1.num, .int .i64 p.1.lev, .slice p.2.fstA p.1.fst.length p.2.fstc, .slice p.2.lstA p.1.lst.length p.2.lstc, .int .i64 p.1.siz] 85 (0, 0))) := by rw [hw1]; exact heap_at _ _ rfl
      have b2 := cell_of HBX.out (k := 2) rfl
      have b3 := cell_of HBX.out (k := 3) rfl
      clear hp hlt hm
      go_upto_region 5 with (fail)
      rw [← hw1]
      clear hw1 c0 c1 c2 c3 c4
      refine flow_tail (by kernel_rfl) [Is (.pointer (some ⟨wr.heap.size, 2, none⟩)), Is (.slice p.2.fstA p.1.fst.length p.2.fstc), Own w.heap.size p.1.fst, Is (.pointer (some ⟨wr.heap.size, 3, none⟩)), Is (.slice p.2.lstA p.1.lst.length p.2.lstc), Own w.heap.size p.1.lst, Is (.pointer (some ⟨wr.heap.size, 2, none⟩))] 7 (by kernel_rfl) (by kernel_rfl) (by kernel_rfl) (by kernel_rfl) ?mono (fun f1 => ?obl) ?fin
      case mono =>
        simp only [List.forall_mem_cons, List.not_mem_nil, false_imp_iff, implies_true, and_true]
        exact ⟨.is _, .is _, .own _ _, .is _, .is _, .own _ _, .is _⟩
      case fin =>
        intro g1 u hu hg
        simp only [List.take_succ_cons, List.take_zero, List.drop_succ_cons, List.drop_zero, puts, Act.put, List.setIfInBounds_toArray, List.set_cons_zero, List.set_cons_succ]
        have h2 : Own w.heap.size p.1.fst (g1 2) u := hg 2 (by decide)
        have h5 : Own w.heap.size p.1.lst (g1 5) u := hg 5 (by decide)
        have h6 : g1 6 = .pointer (some ⟨wr.heap.size, 2, none⟩) := hg 6 (by decide)
        obtain ⟨v2, e2⟩ : ∃ v, v = g1 2 := ⟨_, rfl⟩
        obtain ⟨v5, e5⟩ : ∃ v, v = g1 5 := ⟨_, rfl⟩
        rw [h6]
        rw [← e2] at h2 ⊢
        rw [← e5] at h5 ⊢
        have H2 := Lib.hid h2
        have H5 := Lib.hid h5
        obtain ⟨A2, c2, rfl⟩ := h2.slice
        obtain ⟨A5, c5, rfl⟩ := h5.slice
        have HU : Hid (Ext w1 u) := Ext.trans (Ext.drew w1) hu
        have hb1 := ext_heap HU.out HBX.out
        have r2 := cell_of hb1 (k := 2) rfl
        have r3 := cell_of hb1 (k := 3) rfl
        have z2 := frozen_four hb1 (j := 2)
        have z3 := frozen_four hb1 (j := 3)
        have HB1 := Lib.hid hb1
        clear h2 h5 h6 e2 e5 hb1 hg hu b2 b3
        go_upto_region 6 with (fail)
        obtain ⟨w5, hw5⟩ : ∃ w5, w5 = (u.setCell ⟨wr.heap.size, 2, none⟩ (.slice A2 p.1.fst.length c2)).setCell ⟨wr.heap.size, 3, none⟩ (.slice A5 p.1.lst.length c5) := ⟨_, rfl⟩
        rw [← hw5]
        have hb5 : w5.heap[wr.heap.size]? = some (.cells #[.int .i64 p.1.num, .int .i64 p.1.lev, .slice A2 p.1.fst.length c2, .slice A5 p.1.lst.length c5, .int .i64 p.1.siz] 85 (0, 0)) := by
          rw [hw5]
          exact setCell_at (setCell_at HB1.out)
        have HC5 : Hid (Chg (fun k => k = wr.heap.size) w1 w5) := by
          rw [hw5]
          exact ((Chg.of_ext (S := fun k => k = wr.heap.size) HU.out).trans (Chg.setCell (S := fun k => k = wr.heap.size) _ _ _ rfl)).trans (Chg.setCell (S := fun k => k = wr.heap.size) _ _ _ rfl)
        have HOf : Hid (Own w.heap.size p.1.fst (.slice A2 p.1.fst.length c2) w5) := by
          rw [hw5]
          exact own_apart (own_apart H2.out HB1.out (by decide)) (setCell_at HB1.out) (by decide)
        have HOl : Hid (Own w.heap.size p.1.lst (.slice A5 p.1.lst.length c5) w5) := by
          rw [hw5]
          exact own_apart (own_apart H5.out HB1.out (by decide)) (setCell_at HB1.out) (by decide)
        have HXr : Hid (Ext wr w5) := Below.trans HXA.out (HC5.out.below (B := wr.heap.size) (fun k hk => by rw [hk]; exact Nat.le_refl _) HXA.out.size)
        have HX5 : Hid (Ext w w5) := Ext.trans HX.out HXr.out
        have q0 := cell_of hb5 (k := 0) rfl
        have q1 := cell_of hb5 (k := 1) rfl
        have q2 := cell_of hb5 (k := 2) rfl
        have q3 := cell_of hb5 (k := 3) rfl
        have q4 := cell_of hb5 (k := 4) rfl
        have HPM : Hid (TMine w.heap.size (p.1, ⟨A2, c2, A5, c5⟩) w5) := ⟨HOf.out, HOl.out, ⟨HT.out.num1, HT.out.num2, HT.out.lev1, HT.out.lev2, HT.out.siz1, HT.out.siz2⟩, HT.out.fstb, HT.out.lstb⟩
        have HR5 : Hid (OwnT w.heap.size R u3 w5) := OwnT.below HR.out.1 HXr.out
        have HM5 : Hid (∀ q ∈ R, TMine w.heap.size q w5) := fun q hq => (HR.out.2 q hq).below HXr.out
        clear hw5 hb5 r2 r3 z2 z3
        go_wp2_with (at_builtin; refine wpList_pushtab rfl (.tmp 20) (.tmp 22) rfl w.heap.size u3 R rfl (OwnT.below HR5.out (ext_alloc _ _)) (p.1, ⟨A2, c2, A5, c5⟩) w5.heap.size rfl (heap_alloc_new w5 _) ?c1 ?c2 (fun A9 c9 w9 ho9 hk9 hb9 => ?_))
        case c1 => have := HR.out.1; have := HRL.out; have := HL.out; have := HLT.out; omega
        case c2 => exact Nat.le_trans HX5.out.size (ext_alloc _ _).size
        have HO9 := Lib.hid ho9
        have HX9 : Hid (Ext w w9) := hb9 _ (Ext.trans HX5.out (ext_alloc _ _))
        have HK9 : Hid (∀ q, TMine w.heap.size q w5 → TMine w.heap.size q w9) := fun q hq => hk9 q (hq.below (ext_alloc _ _))
        clear ho9 hb9 hk9 q0 q1 q2 q3 q4
        go_wp2_with fail
        refine ⟨⟨i + 1, R ++ [(p.1, ⟨A2, c2, A5, c5⟩)], rfl, HLT.out, ?_, ⟨?_, fun q hq => ?_⟩, HX9.out⟩, ?_⟩
        · rw [List.map_append, HRF.out, List.take_add_one, List.getElem?_map, HP1.out]; rfl
        · have := HO9.out
          simpa using this
        · rcases List.mem_append.1 hq with hq | hq
          · exact HK9.out q (HM5.out q hq)
          · rw [List.mem_singleton] at hq; subst hq; exact HK9.out _ HPM.out
        · have := HLT.out; simp [intOf]; omega
      case obl =>
        refine ⟨fun u hu hd => ?_, ?_⟩
        · go_simp
          exact ⟨Ext.refl _, rfl⟩
        refine ⟨fun u hu hd => ?_, ?_⟩
        · simp only [Act.put, List.setIfInBounds_toArray, List.set_cons_zero, List.set_cons_succ]
          have e0 : f1 0 = .pointer (some ⟨wr.heap.size, 2, none⟩) := hd 0 (by kernel_rfl)
          have hu2 := Ext.trans (Ext.drew w1) hu
          have q0 := ext_cell hu2 b2
          go_simp
          exact ⟨Ext.refl _, rfl⟩
        refine ⟨fun u hu hd => ?_, ?_⟩
        · simp only [Act.put, List.setIfInBounds_toArray, List.set_cons_zero, List.set_cons_succ]
          have e1 : f1 1 = .slice p.2.fstA p.1.fst.length p.2.fstc := hd 1 (by kernel_rfl)
          go_simp
          refine (clone_any _ lo hi p.1.fst u ((HT.out.fst).below (Ext.trans HXW.out (Ext.trans (Ext.drew w1) hu)) HHI.out) (Nat.le_trans HHI.out (Ext.trans HXW.out (Ext.trans (Ext.drew w1) hu)).size) HLN.out.1).mono ?_
          rintro x w9 ⟨v9, rfl, hown9, hb9⟩
          exact ⟨v9, rfl, hb9, ownsRow_base hown9 (Nat.le_trans HWS.out (Ext.trans (Ext.drew w1) hu).size)⟩
        refine ⟨fun u hu hd => ?_, ?_⟩
        · simp only [Act.put, List.setIfInBounds_toArray, List.set_cons_zero, List.set_cons_succ]
          go_simp
          exact ⟨Ext.refl _, rfl⟩
        refine ⟨fun u hu hd => ?_, ?_⟩
        · simp only [Act.put, List.setIfInBounds_toArray, List.set_cons_zero, List.set_cons_succ]
          have e3 : f1 3 = .pointer (some ⟨wr.heap.size, 3, none⟩) := hd 3 (by kernel_rfl)
          have hu2 := Ext.trans (Ext.drew w1) hu
          have q0 := ext_cell hu2 b3
          go_simp
          exact ⟨Ext.refl _, rfl⟩
        refine ⟨fun u hu hd => ?_, ?_⟩
        · simp only [Act.put, List.setIfInBounds_toArray, List.set_cons_zero, List.set_cons_succ]
          have e4 : f1 4 = .slice p.2.lstA p.1.lst.length p.2.lstc := hd 4 (by kernel_rfl)
          go_simp
          refine (clone_any _ lo hi p.1.lst u ((HT.out.lst).below (Ext.trans HXW.out (Ext.trans (Ext.drew w1) hu)) HHI.out) (Nat.le_trans HHI.out (Ext.trans HXW.out (Ext.trans (Ext.drew w1) hu)).size) HLN.out.2).mono ?_
          rintro x w9 ⟨v9, rfl, hown9, hb9⟩
          exact ⟨v9, rfl, hb9, ownsRow_base hown9 (Nat.le_trans HWS.out (Ext.trans (Ext.drew w1) hu).size)⟩
        refine ⟨fun u hu hd => ?_, ?_⟩
        · simp only [Act.put, List.setIfInBounds_toArray, List.set_cons_zero, List.set_cons_succ]
          go_simp
          exact ⟨Ext.refl _, rfl⟩
        trivial
    · have d : decide ((i : Int) < (L.length : Int)) = false := by simp; omega
      have d2 : decide (i < L.length) = false := by simp; omega
      have hi2 : i = L.length := by omega
      have HF : Hid (R.map Prod.fst = L.map Prod.fst) := by
        have := HRF.out
        rw [hi2, List.take_of_length_le (by rw [List.length_map]; exact Nat.le_refl _)] at this
        exact this
      clear hi2 hlt hm
      go_wp2_with fail
      go_ret
      obtain ⟨A9, c9, e9, _⟩ := HR.out.1.sl
      have h9 := HR.out
      rw [e9] at h9
      exact ⟨A9, c9, R, by rw [e9]; rfl, HF.out, h9.1, h9.2, HX.out⟩
end Go.Proofs.Ytjlppjffkebejaa

/- edit.behind: the version behind an edit. -/
namespace Go.Proofs.Ytjlppjffkebejaa
open Go.ChangeShapes Go.WideShapes Go.ChangeAt Go.RowKit

theorem ver_ret {fn : Func} {tmps : Array Value} {w : World} {g : Nat} {p q : Tmp} {c : Array Value} {k : Value} {R : Ending → World → Prop} (hr : fn.results = #[.cell p 36, .tmp q]) (h2 : tmps.getD p undef = .pointer (some ⟨g, 0, none⟩)) (h3 : tmps.getD q undef = k)
    (hc : c.size = 5) (hg : w.heap[g]? = some (.cells c 36 (0, 0))) (h : R (.returned (.tuple #[.agg c, k])) w) : bodyPost Try.prog fn R .ret { tmps := tmps, defers := [] } w := by
  refine ⟨rfl, .tuple #[.agg c, k], ?_, h⟩
  have hi : (Try.prog.info? 36).map (·.size) = some 5 := by kernel_rfl
  have hl := run_loadVar_row (P := Try.prog) w g 36 36 c (0, 0) _ hg Try.underlying36 rfl (by rw [hc]; exact hi)
  have ha : (asAddr (.pointer (some ⟨g, 0, none⟩))).run Try.prog w = .ok ⟨g, 0, none⟩ w := rfl
  rw [results_cell_tmp hr, h2, h3, ha, Result.andThen_ok, hl, Result.andThen_ok]
/-- Five cells of a block, set. -/
theorem set_five {u : World} {g : Nat} {a b c d e x y z t s : Value} {ty : TypeId} (h : u.heap[g]? = some (.cells #[a, b, c, d, e] ty (0, 0))) :
    (((((u.setCell ⟨g, 0, none⟩ x).setCell ⟨g, 1, none⟩ y).setCell ⟨g, 2, none⟩ z).setCell ⟨g, 3, none⟩ t).setCell ⟨g, 4, none⟩ s).heap[g]? = some (.cells #[x, y, z, t, s] ty (0, 0)) := by
  rw [setCell_at (setCell_at (setCell_at (setCell_at (setCell_at h))))]; rfl
theorem chg_five {u : World} {g : Nat} {x y z t s : Value} : Chg (fun k => k = g) u (((((u.setCell ⟨g, 0, none⟩ x).setCell ⟨g, 1, none⟩ y).setCell ⟨g, 2, none⟩ z).setCell ⟨g, 3, none⟩ t).setCell ⟨g, 4, none⟩ s) :=
  ((((Chg.setCell (S := fun k => k = g) _ _ _ rfl).trans (Chg.setCell (S := fun k => k = g) _ _ _ rfl)).trans (Chg.setCell (S := fun k => k = g) _ _ _ rfl)).trans (Chg.setCell (S := fun k => k = g) _ _ _ rfl)).trans (Chg.setCell (S := fun k => k = g) _ _ _ rfl)
/-- May it be? (As a value in a slot.) -/
def MayV (W : Ver) (T : List Tab) (v : Value) (_ : World) : Prop := ∃ z : Bool, (z = true ↔ VMay W T) ∧ v = .bool z
theorem Mono.may (W : Ver) (T : List Tab) : Mono (MayV W T) := fun _ _ _ h _ => h
theorem OwnT.keep {B : Nat} {R : List (Tab × TabH)} {v : Value} {u u' : World} (h : OwnT B R v u) (hk : ∀ g, v.ownBlock = some g → u'.heap[g]? = u.heap[g]?) : OwnT B R v u' := by
  obtain ⟨h1, h2⟩ := h
  refine ⟨h1, ?_⟩
  rcases h2 with h2 | ⟨g, cap, cur, hv, hg, hh, r⟩
  · exact Or.inl h2
  · exact Or.inr ⟨g, cap, cur, hv, hg, (hk g (by rw [hv]; rfl)).trans hh, r⟩
/-- No version. -/
def noV : Value := .agg #[.int .i64 0, .int .i64 0, .int .i64 0, .int .i64 0, .slice none 0 0]
/-- May an edit be done, as for what it drops and how far it goes on? -/
def okD (V W : Ver) (l : List Int) (L : List (Tab × TabH)) : Bool := decide ((restT l L).length + l.length = L.length) && (decide (V.next ≤ W.next) && (decide (V.log ≤ W.log) && (decide (V.index ≤ W.index) && decide (V.seq ≤ W.seq))))
/-- What behind answers. -/
def BehAns (w : World) (V W : Ver) (l : List Int) (L E : List (Tab × TabH)) (e : Ending) (w' : World) : Prop :=
  Ext w w' ∧ ((okD V W l L = false ∧ e = .returned (.tuple #[noV, .bool false])) ∨
    (okD V W l L = true ∧ ∃ (A : Option Addr) (c : Nat) (R : List (Tab × TabH)) (z : Bool), R.Perm (restT l L ++ E) ∧ R.Pairwise (fun a b => ¬ cmpT b.1 a.1 < 0) ∧ (z = true ↔ VMay W (R.map Prod.fst)) ∧ e = .returned (.tuple #[.agg #[.int .i64 W.next, .int .i64 W.log, .int .i64 W.index, .int .i64 W.seq, .slice A R.length c], .bool z]) ∧ OwnT w.heap.size R (.slice A R.length c) w'))

set_option maxRecDepth 100000 in
set_option maxHeartbeats 8000000 in
theorem behind_any {w : World} {A A2 D : Option Addr} {c c2 d0 : Nat} {L E : List (Tab × TabH)} {l : List Int} (V W : Ver) (h : tabs w 0 w.heap.size A L) (hE : tabs w 0 w.heap.size A2 E) (hD : Sl w 0 w.heap.size D (ints l)) (hn2 : A2 = none → c2 = 0) (hlen : L.length ≤ 10000000000) (hlen2 : E.length ≤ 10000000000) (hlen3 : l.length ≤ 10000000000) :
    Calls Try.prog 69 #[.agg #[.int .i64 V.next, .int .i64 V.log, .int .i64 V.index, .int .i64 V.seq, .slice A L.length c], .agg #[.slice D l.length d0, .slice A2 E.length c2, .int .i64 W.next, .int .i64 W.log, .int .i64 W.index, .int .i64 W.seq]] w (BehAns w V W l L E) := by
  obtain ⟨w1, hw1⟩ : ∃ w1, w1 = ((w.alloc (.cells #[.int .i64 V.next, .int .i64 V.log, .int .i64 V.index, .int .i64 V.seq, .slice A L.length c] 36)).alloc (.cells #[.slice D l.length d0, .slice A2 E.length c2, .int .i64 W.next, .int .i64 W.log, .int .i64 W.index, .int .i64 W.seq] 40)).alloc (.cells #[.int .i64 0, .int .i64 0, .int .i64 0, .int .i64 0, .slice none 0 0] 36) := ⟨_, rfl⟩
  have HX1 : Hid (Ext w w1) := by rw [hw1]; exact Ext.trans (ext_alloc _ _) (Ext.trans (ext_alloc _ _) (ext_alloc _ _))
  have HV : Hid (w1.heap[w.heap.size]? = some (.cells #[.int .i64 V.next, .int .i64 V.log, .int .i64 V.index, .int .i64 V.seq, .slice A L.length c] 36 (0, 0))) := by rw [hw1]; exact ext_heap (Ext.trans (ext_alloc _ _) (ext_alloc _ _)) (heap_at _ _ rfl)
  have HEB : Hid (w1.heap[w.heap.size + 1]? = some (.cells #[.slice D l.length d0, .slice A2 E.length c2, .int .i64 W.next, .int .i64 W.log, .int .i64 W.index, .int .i64 W.seq] 40 (0, 0))) := by rw [hw1]; exact ext_heap (ext_alloc _ _) (heap_at _ _ (by simp))
  have HZB : Hid (w1.heap[w.heap.size + 2]? = some (.cells #[.int .i64 0, .int .i64 0, .int .i64 0, .int .i64 0, .slice none 0 0] 36 (0, 0))) := by rw [hw1]; exact heap_at _ _ (by simp)
  have HZ1S : Hid (w1.heap.size = w.heap.size + 3) := by rw [hw1]; simp [Hid]
  have HT := Lib.hid h
  have HTE := Lib.hid hE
  have HN2 := Lib.hid hn2
  have HL := Lib.hid hlen
  have HL2 := Lib.hid hlen2
  have HL3 := Lib.hid hlen3
  have HW := Lib.hid (without_any (c := c) (d0 := d0) (h.outer.below HX1.out (Nat.le_refl _)) (hD.below HX1.out (Nat.le_refl _)) HX1.out.size HX1.out.size (by omega) (by omega))
  clear h hE hD hn2 hlen hlen2 hlen3
  have v4 := cell_of HV.out (k := 4) rfl
  have e0 := cell_of HEB.out (k := 0) rfl
  go_enter Try.func69, Try.ntmps69
  rw [hw1] at v4 e0 HW
  go_wp2_with fail
  refine Calls.mono HW.out ?_
  rintro e w2 ⟨A3, c3, rfl, ho2, hx2⟩
  rw [← hw1] at ho2 hx2
  have HO2 := Lib.hid ho2
  have HX2 := Lib.hid hx2
  have HXW : Hid (Ext w w2) := Ext.trans HX1.out hx2
  have HZ2 : Hid (w2.heap[w.heap.size + 2]? = some (.cells #[.int .i64 0, .int .i64 0, .int .i64 0, .int .i64 0, .slice none 0 0] 36 (0, 0))) := ext_heap hx2 HZB.out
  have hV2 := ext_heap hx2 HV.out
  have hE2 := ext_heap hx2 HEB.out
  have v0 := cell_of hV2 (k := 0) rfl
  have v1 := cell_of hV2 (k := 1) rfl
  have v2 := cell_of hV2 (k := 2) rfl
  have v3 := cell_of hV2 (k := 3) rfl
  have f1 := cell_of hE2 (k := 1) rfl
  have f2 := cell_of hE2 (k := 2) rfl
  have f3 := cell_of hE2 (k := 3) rfl
  have f4 := cell_of hE2 (k := 4) rfl
  have f5 := cell_of hE2 (k := 5) rfl
  have z0 := cell_of HZ2.out (k := 0) rfl
  have z1 := cell_of HZ2.out (k := 1) rfl
  have z2 := cell_of HZ2.out (k := 2) rfl
  have z3 := cell_of HZ2.out (k := 3) rfl
  have z4 := cell_of HZ2.out (k := 4) rfl
  have y0 := frozen_four HZ2.out (j := 0)
  have y1 := frozen_four HZ2.out (j := 1)
  have y2 := frozen_four HZ2.out (j := 2)
  have y3 := frozen_four HZ2.out (j := 3)
  have y4 := frozen_four HZ2.out (j := 4)
  obtain ⟨r, hr⟩ : ∃ r, r = (restT l L).length := ⟨_, rfl⟩
  have HR := Lib.hid hr
  rw [← hr]
  obtain ⟨zb, hzb⟩ : ∃ z, z = decide (r + l.length = L.length) := ⟨_, rfl⟩
  rw [← hzb]
  have HZB2 : Hid (zb = decide ((restT l L).length + l.length = L.length)) := by unfold Hid; rw [← hr]; exact hzb
  clear ho2 hx2 hV2 hE2 v4 e0 hr hzb HW
  cases zb
  · go_wp2_with fail
    refine ver_ret (p := 4) (q := 5) (by kernel_rfl) rfl rfl rfl (set_five HZ2.out) ⟨?_, .inl ⟨?_, rfl⟩⟩
    · exact Below.trans HXW.out (chg_five.below (B := w.heap.size) (fun k hk => by rw [hk]; omega) HXW.out.size)
    · unfold okD; rw [← HZB2.out]; rfl
  by_cases hn : W.next < V.next
  · have d : decide (W.next < V.next) = true := decide_eq_true hn
    have Hn := Lib.hid hn
    clear hn
    go_wp2_with fail
    refine ver_ret (p := 4) (q := 5) (by kernel_rfl) rfl rfl rfl (set_five HZ2.out) ⟨?_, .inl ⟨?_, rfl⟩⟩
    · exact Below.trans HXW.out (chg_five.below (B := w.heap.size) (fun k hk => by rw [hk]; omega) HXW.out.size)
    · unfold okD; rw [decide_eq_false (show ¬ V.next ≤ W.next by have := Hn.out; omega)]; simp
  have dn : decide (W.next < V.next) = false := decide_eq_false hn
  by_cases hg : W.log < V.log
  · have d : decide (W.log < V.log) = true := decide_eq_true hg
    have Hg := Lib.hid hg
    clear hg hn
    go_wp2_with fail
    refine ver_ret (p := 4) (q := 5) (by kernel_rfl) rfl rfl rfl (set_five HZ2.out) ⟨?_, .inl ⟨?_, rfl⟩⟩
    · exact Below.trans HXW.out (chg_five.below (B := w.heap.size) (fun k hk => by rw [hk]; omega) HXW.out.size)
    · unfold okD; rw [decide_eq_false (show ¬ V.log ≤ W.log by have := Hg.out; omega)]; simp
  have dg : decide (W.log < V.log) = false := decide_eq_false hg
  by_cases hx : W.index < V.index
  · have d : decide (W.index < V.index) = true := decide_eq_true hx
    have Hx := Lib.hid hx
    clear hx hn hg
    go_wp2_with fail
    refine ver_ret (p := 4) (q := 5) (by kernel_rfl) rfl rfl rfl (set_five HZ2.out) ⟨?_, .inl ⟨?_, rfl⟩⟩
    · exact Below.trans HXW.out (chg_five.below (B := w.heap.size) (fun k hk => by rw [hk]; omega) HXW.out.size)
    · unfold okD; rw [decide_eq_false (show ¬ V.index ≤ W.index by have := Hx.out; omega)]; simp
  have dx : decide (W.index < V.index) = false := decide_eq_false hx
  by_cases hs : W.seq < V.seq
  · have d : decide (W.seq < V.seq) = true := decide_eq_true hs
    have Hs := Lib.hid hs
    clear hs hn hg hx
    go_wp2_with fail
    refine ver_ret (p := 4) (q := 5) (by kernel_rfl) rfl rfl rfl (set_five HZ2.out) ⟨?_, .inl ⟨?_, rfl⟩⟩
    · exact Below.trans HXW.out (chg_five.below (B := w.heap.size) (fun k hk => by rw [hk]; omega) HXW.out.size)
    · unfold okD; rw [decide_eq_false (show ¬ V.seq ≤ W.seq by have := Hs.out; omega)]; simp
  have ds : decide (W.seq < V.seq) = false := decide_eq_false hs
  have HOK : Hid (okD V W l L = true) := by
    unfold okD Hid
    rw [← HZB2.out, decide_eq_true (show V.next ≤ W.next by omega), decide_eq_true (show V.log ≤ W.log by omega), decide_eq_true (show V.index ≤ W.index by omega), decide_eq_true (show V.seq ≤ W.seq by omega)]
    rfl
  clear hn hg hx hs
  have HO3 : Hid (OwnT w1.heap.size (restT l L) (.slice A3 r c3) w2) := by
    have := HO2.out
    rw [← HR.out] at this
    exact this
  have hrl : (restT l L).length ≤ L.length := keptT_le _ _ _
  have HRL := Lib.hid hrl
  have hsE : Sl w2 0 w.heap.size A2 (tabrow E) := HTE.out.outer.below HXW.out (Nat.le_refl _)
  have HSE := Lib.hid hsE
  clear hrl hsE z0 z1 z2 z3 z4 y0 y1 y2 y3 y4
  go_wp2_with (at_builtin; refine wpList_addtabs rfl (.tmp 48) (.tmp 50) rfl w1.heap.size (.slice A3 r c3) (restT l L) rfl HO3.out 0 w.heap.size A2 c2 E rfl HSE.out HN2.out ?q1 HX2.out.size (fun A5 c5 w3 ho3 hb3 => ?_))
  case q1 => have := HRL.out; have := HL.out; have := HL2.out; omega
  have HX13 : Hid (Ext w1 w3) := hb3 _ HX2.out
  have HX3 : Hid (Ext w w3) := Ext.trans HX1.out HX13.out
  obtain ⟨n5, hn5⟩ : ∃ n, n = (restT l L).length + E.length := ⟨_, rfl⟩
  rw [List.length_append, ← hn5] at ho3
  rw [← hn5]
  have HN5 : Hid (n5 = (restT l L ++ E).length) := by unfold Hid; rw [List.length_append]; exact hn5
  have HLT : Hid ((restT l L ++ E).length ≤ 100000000000) := by have := HRL.out; have := HL.out; have := HL2.out; unfold Hid; rw [List.length_append]; omega
  have HAT : Hid (∀ p ∈ restT l L ++ E, tabAt w 0 w.heap.size p) := fun p hp => by
    rcases List.mem_append.1 hp with hp | hp
    · exact HT.out.each p (List.mem_of_mem_take (List.mem_filter.1 hp).1)
    · exact HTE.out.each p hp
  have HSF := Lib.hid (sortf_any (hi := w.heap.size) ho3 (fun p hp => (HAT.out p hp).below HX3.out (Nat.le_refl _)) HX1.out.size HX13.out.size (by have := HLT.out; omega))
  clear ho3 hb3 hn5 f1 f2 f3 f4 f5 v0 v1 v2 v3
  refine Calls.mono HSF.out ?_
  rintro e w4 ⟨rfl, R, hp, hso, ho4, hb4⟩
  have HP := Lib.hid hp
  have HSO := Lib.hid hso
  have HO4 := Lib.hid ho4
  have HX14 : Hid (Ext w1 w4) := hb4 _ HX13.out
  have HX4 : Hid (Ext w w4) := Ext.trans HX1.out HX14.out
  have HNR : Hid (R.length = n5) := by unfold Hid; rw [HN5.out]; exact hp.length_eq
  have hE4 := ext_heap HX14.out HEB.out
  have f2 := cell_of hE4 (k := 2) rfl
  have f3 := cell_of hE4 (k := 3) rfl
  have f4 := cell_of hE4 (k := 4) rfl
  have f5 := cell_of hE4 (k := 5) rfl
  clear hp hso ho4 hb4 hE4
  go_upto_region 7 with (fail)
  obtain ⟨w5, hw5⟩ : ∃ w5, w5 = w4.alloc (.cells #[.int .i64 W.next, .int .i64 W.log, .int .i64 W.index, .int .i64 W.seq, .slice A5 n5 c5] 36) := ⟨_, rfl⟩
  rw [← hw5]
  have HX45 : Hid (Ext w4 w5) := by rw [hw5]; exact ext_alloc _ _
  have HX15 : Hid (Ext w1 w5) := Ext.trans HX14.out HX45.out
  have HK5 : Hid (w5.heap[w4.heap.size]? = some (.cells #[.int .i64 W.next, .int .i64 W.log, .int .i64 W.index, .int .i64 W.seq, .slice A5 n5 c5] 36 (0, 0))) := by rw [hw5]; exact heap_alloc_new w4 _
  have k0 := cell_of HK5.out (k := 0) rfl
  have k1 := cell_of HK5.out (k := 1) rfl
  have k2 := cell_of HK5.out (k := 2) rfl
  have k3 := cell_of HK5.out (k := 3) rfl
  have k4 := cell_of HK5.out (k := 4) rfl
  have HMY : Hid (∀ u, Ext w5 u → Calls Try.prog 20 #[.agg #[.int .i64 W.next, .int .i64 W.log, .int .i64 W.index, .int .i64 W.seq, .slice A5 n5 c5]] u fun x w' => ∃ z : Bool, (z = true ↔ VMay W (R.map Prod.fst)) ∧ x = .returned (.bool z) ∧ Ext u w') := fun u hu => by
    have hx : Ext w4 u := Ext.trans HX45.out hu
    have ho := HO4.out.below hx
    obtain ⟨A7, c7, e7, hs7, _⟩ := ho.sl
    rw [HNR.out] at e7
    injection e7 with e71 _ e72
    subst e71 e72
    have := vmay_any (lo := 0) (hi := u.heap.size) (A := A5) (c := c5) (L := R) W ⟨hs7.wide (Nat.zero_le _) (Nat.le_refl _), fun p hp => ((HAT.out p (HP.out.mem_iff.1 hp)).below (Ext.trans HX4.out hx) (Nat.le_refl _)).wide (Nat.le_refl _) (Ext.trans HX4.out hx).size⟩ (Nat.le_refl _) (by rw [HP.out.length_eq]; exact HLT.out)
    rw [HNR.out] at this
    exact this
  clear hw5 f2 f3 f4 f5
  refine flow_tail (by kernel_rfl) [Is (.agg #[.int .i64 W.next, .int .i64 W.log, .int .i64 W.index, .int .i64 W.seq, .slice A5 n5 c5]), Is (.agg #[.int .i64 W.next, .int .i64 W.log, .int .i64 W.index, .int .i64 W.seq, .slice A5 n5 c5]), MayV W (R.map Prod.fst)] 3 (by kernel_rfl) (by kernel_rfl) (by kernel_rfl) (by kernel_rfl) ?mono (fun f1 => ?obl) ?fin
  case mono =>
    simp only [List.forall_mem_cons, List.not_mem_nil, false_imp_iff, implies_true, and_true]
    exact ⟨.is _, .is _, .may _ _⟩
  case fin =>
    intro g1 u hu hg
    simp only [List.take_succ_cons, List.take_zero, List.drop_succ_cons, List.drop_zero, puts, Act.put, List.setIfInBounds_toArray, List.set_cons_zero, List.set_cons_succ]
    obtain ⟨z, hz, ez⟩ : MayV W (R.map Prod.fst) (g1 2) u := hg 2 (by decide)
    have e0 : g1 0 = .agg #[.int .i64 W.next, .int .i64 W.log, .int .i64 W.index, .int .i64 W.seq, .slice A5 n5 c5] := hg 0 (by decide)
    rw [ez, e0]
    have HZ := Lib.hid hz
    have HXU : Hid (Ext w1 u) := Ext.trans HX15.out (Ext.trans (Ext.drew w5) hu)
    have HXU4 : Hid (Ext w4 u) := Ext.trans HX45.out (Ext.trans (Ext.drew w5) hu)
    have HZU : Hid (u.heap[w.heap.size + 2]? = some (.cells #[.int .i64 0, .int .i64 0, .int .i64 0, .int .i64 0, .slice none 0 0] 36 (0, 0))) := ext_heap HXU.out HZB.out
    have z0 := cell_of HZU.out (k := 0) rfl
    have z1 := cell_of HZU.out (k := 1) rfl
    have z2 := cell_of HZU.out (k := 2) rfl
    have z3 := cell_of HZU.out (k := 3) rfl
    have z4 := cell_of HZU.out (k := 4) rfl
    have y0 := frozen_four HZU.out (j := 0)
    have y1 := frozen_four HZU.out (j := 1)
    have y2 := frozen_four HZU.out (j := 2)
    have y3 := frozen_four HZU.out (j := 3)
    have y4 := frozen_four HZU.out (j := 4)
    clear ez e0 hz hg hu k0 k1 k2 k3 k4 HMY
    go_wp2_with fail
    refine ver_ret (p := 4) (q := 5) (by kernel_rfl) rfl rfl rfl (set_five HZU.out) ⟨?_, .inr ⟨HOK.out, A5, c5, R, z, HP.out, HSO.out.imp (fun h => by omega), HZ.out, by rw [HNR.out]; rfl, ?_⟩⟩
    · exact Below.trans (Ext.trans HX1.out HXU.out) (chg_five.below (B := w.heap.size) (fun k hk => by rw [hk]; omega) (Ext.trans HX1.out HXU.out).size)
    · have ho := HO4.out.below HXU4.out
      rw [HNR.out]
      refine (ho.keep fun g hg => chg_five.block g (ownT_lt ho g hg).2.1 ?_).base HX1.out.size
      have h1 := (ownT_lt ho g hg).1
      have h2 := HZ1S.out
      omega
  case obl =>
    refine ⟨fun u hu hd => ?_, ?_⟩
    · have hu2 := Ext.trans (Ext.drew w5) hu
      have q0 := ext_cell hu2 k0
      have q1 := ext_cell hu2 k1
      have q2 := ext_cell hu2 k2
      have q3 := ext_cell hu2 k3
      have q4 := ext_cell hu2 k4
      go_simp
      exact ⟨Ext.refl _, rfl⟩
    refine ⟨fun u hu hd => ?_, ?_⟩
    · simp only [Act.put, List.setIfInBounds_toArray, List.set_cons_zero, List.set_cons_succ]
      have hu2 := Ext.trans (Ext.drew w5) hu
      have q0 := ext_cell hu2 k0
      have q1 := ext_cell hu2 k1
      have q2 := ext_cell hu2 k2
      have q3 := ext_cell hu2 k3
      have q4 := ext_cell hu2 k4
      go_simp
      exact ⟨Ext.refl _, rfl⟩
    refine ⟨fun u hu hd => ?_, ?_⟩
    · simp only [Act.put, List.setIfInBounds_toArray, List.set_cons_zero, List.set_cons_succ]
      have e1 : f1 1 = .agg #[.int .i64 W.next, .int .i64 W.log, .int .i64 W.index, .int .i64 W.seq, .slice A5 n5 c5] := hd 1 (by kernel_rfl)
      go_simp
      refine (HMY.out u (Ext.trans (Ext.drew w5) hu)).mono ?_
      rintro x w9 ⟨z9, hz9, rfl, hx9⟩
      exact ⟨_, rfl, hx9, z9, hz9, rfl⟩
    trivial
end Go.Proofs.Ytjlppjffkebejaa
