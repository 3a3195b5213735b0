/- Schain Sheight, joined. -/
import Derived.Test.YtpfaoiickmpmjaaDoorMa5
import Derived.Test.YtpfaoiickmpmjaaDoorMa1
import Derived.Lib.TrailingZeros
import Derived.LoopTactic
import Derived.Laws.Bits64b
import Derived.Laws.ShiftsVar
import Derived.Laws.ShiftsVarLaws

/- A tower is linked into its row, level by level. -/
namespace Go.Proofs.YtpfaoiickmpmjaaDoor
open Go.ChangeShapes Go.WideShapes Go.ChangeAt Go.RowKit

/-- A tower's cells, its next ones by a function. -/
def tc (e : Ent) (g : Hd) (born : Int) (F : Nat → Value) : Array Value :=
  #[.slice g.kA e.key.length g.kc, .int .i64 e.seq, .int .i64 e.kind, .slice g.vA e.val.length g.vc, .int .i64 born, F 0, F 1, F 2, F 3, F 4, F 5, F 6, F 7]
theorem tcells_tc (t : Tw) (g : Hd) (born : Int) (R : List Tw) : tcells t g born R = tc t.e g born (nextOf t R) := rfl
theorem tc_congr {e : Ent} {g : Hd} {born : Int} {F G : Nat → Value} (h : ∀ n, n < 8 → F n = G n) : tc e g born F = tc e g born G := by
  unfold tc
  rw [h 0 (by decide), h 1 (by decide), h 2 (by decide), h 3 (by decide), h 4 (by decide), h 5 (by decide), h 6 (by decide), h 7 (by decide)]
theorem tc_set (e : Ent) (g : Hd) (born : Int) (F : Nat → Value) {m : Nat} (hm : m < 8) (x : Value) : (tc e g born F).setIfInBounds (5 + m) x = tc e g born (fun n => if n = m then x else F n) := by
  unfold tc
  match m, hm with
  | 0, _ => simp
  | 1, _ => simp
  | 2, _ => simp
  | 3, _ => simp
  | 4, _ => simp
  | 5, _ => simp
  | 6, _ => simp
  | 7, _ => simp
/-- The new tower, so far linked in m levels. -/
def lvl (t : Tw) (m : Nat) : Tw := { t with h := m }
theorem nxt_lvl (n m : Nat) (X R : List Tw) (t : Tw) : nxt n (X ++ lvl t (m + 1) :: R) = if n = m ∧ (∀ u ∈ X, u.h ≤ m) then some t.b else nxt n (X ++ lvl t m :: R) := by
  by_cases hX : ∀ u ∈ X, u.h ≤ n
  · rw [nxt_append n X _ hX, nxt_append n X _ hX]
    show (if n < m + 1 then some t.b else nxt n R) = _
    by_cases hn : n = m
    · subst hn
      rw [if_pos (Nat.lt_succ_self _), if_pos ⟨rfl, hX⟩]
    · simp only [hn, false_and, if_false]
      show _ = (if n < m then some t.b else nxt n R)
      by_cases hlt : n < m
      · rw [if_pos hlt, if_pos (by omega)]
      · rw [if_neg hlt, if_neg (by omega)]
  · obtain ⟨u, hu, hh⟩ : ∃ u, u ∈ X ∧ n < u.h := by
      refine Classical.byContradiction fun hno => hX fun u hu => ?_
      rcases Nat.lt_or_ge n u.h with h | h
      · exact absurd ⟨u, hu, h⟩ hno
      · exact h
    rw [nxt_hit n hu hh, nxt_hit n hu hh, if_neg]
    rintro ⟨rfl, h⟩
    have := h u hu
    omega
theorem nxt_zero (n : Nat) (X R : List Tw) (t : Tw) : nxt n (X ++ lvl t 0 :: R) = nxt n (X ++ R) := by
  by_cases hX : ∀ u ∈ X, u.h ≤ n
  · rw [nxt_append n X _ hX, nxt_append n X _ hX]
    show (if n < 0 then some t.b else nxt n R) = _
    rw [if_neg (Nat.not_lt_zero _)]
  · obtain ⟨u, hu, hh⟩ : ∃ u, u ∈ X ∧ n < u.h := by
      refine Classical.byContradiction fun hno => hX fun u hu => ?_
      rcases Nat.lt_or_ge n u.h with h | h
      · exact absurd ⟨u, hu, h⟩ hno
      · exact h
    rw [nxt_hit n hu hh, nxt_hit n hu hh]

/-- A tower's block. -/
def Tob (w : World) (i : Nat) : Prop := ∃ c, w.heap[i]? = some (.cells c 78 (0, 0))
theorem Tob.skb {w : World} {i : Nat} (h : Tob w i) : Skb w i := by obtain ⟨c, hc⟩ := h; exact ⟨c, _, .inl hc⟩
theorem Own.tob {B : Nat} {l : List Nat} {v : Value} {w w' : World} (h : Own B l v w) (hc : Chg (Tob w) w w') : Own B l v w' :=
  row_kept h fun g hg => hc.block g (row_lt h g hg).2 (fun hs => h.skb hg hs.skb)
/-- A tower's block, of D. -/
def Dt (D : Nat → Prop) (w : World) (i : Nat) : Prop := D i ∧ Tob w i
theorem setTower {w : World} {D : Nat → Prop} {b n : Nat} {v : Value} {c : Array Value} (hD : D b) (h : w.heap[b]? = some (.cells c 78 (0, 0))) : Chg (Dt D w) w (w.setCell ⟨b, n, none⟩ v) := Chg.setCell w _ v ⟨hD, c, h⟩
theorem Tob.set {w : World} {b n i : Nat} {v : Value} {c : Array Value} (h : w.heap[b]? = some (.cells c 78 (0, 0))) (k : Tob (w.setCell ⟨b, n, none⟩ v) i) : Tob w i := by
  by_cases hi : i = b
  · subst hi; exact ⟨c, h⟩
  · obtain ⟨c', hc'⟩ := k
    exact ⟨c', by rw [Below.heap_setCell _ _ _ _ hi] at hc'; exact hc'⟩

/-- The first tower's link: as if it weren't there. -/
theorem chain_zero {w w' : World} {D D' : Nat → Prop} {hi hi' : Int} {X R : List Tw} {t : Tw} (h : Chain w D hi (X ++ R)) (hx : Ext w w') (hD : ∀ k, k < w.heap.size → D k → D' k) (hh : hi ≤ hi')
    (ht : Tm w' D' hi' (lvl t 0) R) : Chain w' D' hi' (X ++ lvl t 0 :: R) := by
  intro i u hu
  rcases Nat.lt_trichotomy i X.length with hlt | rfl | hgt
  · rw [List.getElem?_append_left hlt] at hu
    obtain ⟨h1, g, born, h2, h3⟩ := ((h i u (by rw [List.getElem?_append_left hlt]; exact hu)).wide hD hh).ext hx
    refine ⟨h1, g, born, ?_, h3⟩
    rw [h2, tcells_tc, tcells_tc]
    congr 2
    refine tc_congr fun n _ => ?_
    unfold nextOf
    rw [List.drop_append_of_le_length (by omega), List.drop_append_of_le_length (by omega), nxt_zero]
  · rw [List.getElem?_append_right (Nat.le_refl _), Nat.sub_self] at hu
    obtain rfl : lvl t 0 = u := by simpa using hu
    rw [show (X ++ lvl t 0 :: R).drop (X.length + 1) = R by rw [List.drop_append]; simp]
    exact ht
  · obtain ⟨k, rfl⟩ : ∃ k, i = X.length + (k + 1) := ⟨i - X.length - 1, by omega⟩
    rw [List.getElem?_append_right (by omega), show X.length + (k + 1) - X.length = k + 1 by omega, List.getElem?_cons_succ] at hu
    have h1 := h (X.length + k) u (by rw [List.getElem?_append_right (by omega), show X.length + k - X.length = k by omega]; exact hu)
    have e1 : (X ++ R).drop (X.length + k + 1) = R.drop (k + 1) := by rw [List.drop_append, List.drop_eq_nil_of_le (by omega), List.nil_append]; congr 1; omega
    have e2 : (X ++ lvl t 0 :: R).drop (X.length + (k + 1) + 1) = R.drop (k + 1) := by rw [List.drop_append, List.drop_eq_nil_of_le (by omega), List.nil_append, show X.length + (k + 1) + 1 - X.length = (k + 1) + 1 by omega, List.drop_succ_cons]
    rw [e1] at h1
    rw [e2]
    exact (h1.wide hD hh).ext hx

/-- One level more. -/
theorem chain_step {w : World} {D : Nat → Prop} {hi : Int} {X R : List Tw} {t u : Tw} {m i : Nat} (hm : m < 8) (h : Chain w D hi (X ++ lvl t m :: R)) (hnd : ((X ++ t :: R).map Tw.b).Nodup)
    (hu : X[i]? = some u) (huh : m < u.h) (hlast : ∀ (j : Nat) (v : Tw), i < j → X[j]? = some v → v.h ≤ m) :
    Chain ((w.setCell ⟨t.b, 5 + m, none⟩ (optp (nxt m R))).setCell ⟨u.b, 5 + m, none⟩ (.pointer (some ⟨t.b, 0, none⟩))) D hi (X ++ lvl t (m + 1) :: R) ∧
    Chg (Dt D w) w ((w.setCell ⟨t.b, 5 + m, none⟩ (optp (nxt m R))).setCell ⟨u.b, 5 + m, none⟩ (.pointer (some ⟨t.b, 0, none⟩))) := by
  have hil := (List.getElem?_eq_some_iff.1 hu).1
  obtain ⟨hDt, gt_, bt, ht2, ht3⟩ := h X.length (lvl t m) (by rw [List.getElem?_append_right (Nat.le_refl _)]; simp)
  obtain ⟨hDu, gu, bu, hu2, hu3⟩ := h i u (by rw [List.getElem?_append_left hil]; exact hu)
  have hbt : w.heap[t.b]? = some (.cells (tcells (lvl t m) gt_ bt ((X ++ lvl t m :: R).drop (X.length + 1))) 78 (0, 0)) := ht2
  have hne : u.b ≠ t.b := by
    rw [List.map_append, List.map_cons, List.nodup_append] at hnd
    exact hnd.2.2 u.b (List.mem_map.2 ⟨u, List.mem_of_getElem? hu, rfl⟩) t.b (by simp)
  have hb1 : (w.setCell ⟨t.b, 5 + m, none⟩ (optp (nxt m R))).heap[u.b]? = some (.cells (tcells u gu bu ((X ++ lvl t m :: R).drop (i + 1))) 78 (0, 0)) := (Below.heap_setCell _ _ _ _ hne).trans hu2
  have hchg : Chg (Dt D w) w ((w.setCell ⟨t.b, 5 + m, none⟩ (optp (nxt m R))).setCell ⟨u.b, 5 + m, none⟩ (.pointer (some ⟨t.b, 0, none⟩))) :=
    (setTower hDt hbt).trans_new (setTower hDu hb1) (fun i _ hi => ⟨hi.1, hi.2.set hbt⟩)
  have htob := hchg.mono (S' := Tob w) fun _ _ h => h.2
  refine ⟨fun k v hv => ?_, hchg⟩
  have keep : ∀ b, b ≠ t.b → b ≠ u.b → ((w.setCell ⟨t.b, 5 + m, none⟩ (optp (nxt m R))).setCell ⟨u.b, 5 + m, none⟩ (.pointer (some ⟨t.b, 0, none⟩))).heap[b]? = w.heap[b]? := fun b h1 h2 => (Below.heap_setCell _ _ _ _ h2).trans (Below.heap_setCell _ _ _ _ h1)
  have e0 : (X ++ lvl t m :: R).drop (X.length + 1) = R := by rw [List.drop_append]; simp
  rcases Nat.lt_trichotomy k X.length with hlt | rfl | hgt
  · rw [List.getElem?_append_left hlt] at hv
    obtain ⟨h1, g, born, h2, h3, h4, h5, h6, h7, h8⟩ := h k v (by rw [List.getElem?_append_left hlt]; exact hv)
    have hvt : v.b ≠ t.b := by
      rw [List.map_append, List.map_cons, List.nodup_append] at hnd
      exact hnd.2.2 v.b (List.mem_map.2 ⟨v, List.mem_of_getElem? hv, rfl⟩) t.b (by simp)
    refine ⟨h1, g, born, ?_, h3, h4, h5.tob htob, h6.tob htob, h7, h8⟩
    rw [List.drop_append_of_le_length (by omega)] at h2 ⊢
    by_cases hki : k = i
    · subst hki
      obtain rfl : v = u := by rw [hv] at hu; injection hu
      rw [heap_setCell_same _ _ _ _ _ _ ((Below.heap_setCell _ _ _ _ hne).trans h2), tcells_tc, tc_set _ _ _ _ hm, tcells_tc]
      congr 2
      refine tc_congr fun n _ => ?_
      unfold nextOf
      rw [nxt_lvl]
      by_cases hn : n = m
      · subst hn
        rw [if_pos rfl, if_pos huh, if_pos]
        · rfl
        · refine ⟨rfl, fun x hx => ?_⟩
          obtain ⟨j, hj⟩ := List.mem_iff_getElem?.1 hx
          rw [List.getElem?_drop] at hj
          exact hlast (k + 1 + j) x (by omega) hj
      · simp only [hn, false_and, if_false]
    · have hvu : v.b ≠ u.b := fun e => hki (by
        have hnd2 : (X.map Tw.b).Nodup := by rw [List.map_append, List.nodup_append] at hnd; exact hnd.1
        have h1 : (X.map Tw.b)[k]? = some v.b := by rw [List.getElem?_map, hv]; rfl
        have h2 : (X.map Tw.b)[i]? = some v.b := by rw [List.getElem?_map, hu, e]; rfl
        obtain ⟨l1, e1⟩ := List.getElem?_eq_some_iff.1 h1
        obtain ⟨l2, e2⟩ := List.getElem?_eq_some_iff.1 h2
        rcases Nat.lt_trichotomy k i with h | h | h
        · exact absurd (e1.trans e2.symm) (List.pairwise_iff_getElem.1 hnd2 k i l1 l2 h)
        · exact h
        · exact absurd (e2.trans e1.symm) (List.pairwise_iff_getElem.1 hnd2 i k l2 l1 h))
      rw [keep v.b hvt hvu, h2, tcells_tc, tcells_tc]
      congr 2
      refine tc_congr fun n _ => ?_
      unfold nextOf
      by_cases hnv : n < v.h
      · rw [if_pos hnv, if_pos hnv, nxt_lvl, if_neg]
        rintro ⟨rfl, hall⟩
        rcases Nat.lt_or_ge k i with hlt' | hge
        · have := hall u (List.mem_of_getElem? (i := i - (k + 1)) (by rw [List.getElem?_drop, show k + 1 + (i - (k + 1)) = i by omega]; exact hu))
          omega
        · have := hlast k v (by omega) hv
          omega
      · rw [if_neg hnv, if_neg hnv]
  · rw [List.getElem?_append_right (Nat.le_refl _), Nat.sub_self] at hv
    obtain rfl : lvl t (m + 1) = v := by simpa using hv
    rw [e0] at hbt
    rw [show (X ++ lvl t (m + 1) :: R).drop (X.length + 1) = R by rw [List.drop_append]; simp]
    obtain ⟨h1, g, born, h2, h3, h4, h5, h6, h7, h8⟩ := h X.length (lvl t m) (by rw [List.getElem?_append_right (Nat.le_refl _)]; simp)
    refine ⟨h1, g, born, ?_, h3, h4, h5.tob htob, h6.tob htob, h7, h8⟩
    rw [e0] at h2
    show ((w.setCell ⟨t.b, 5 + m, none⟩ (optp (nxt m R))).setCell ⟨u.b, 5 + m, none⟩ (.pointer (some ⟨t.b, 0, none⟩))).heap[t.b]? = _
    rw [Below.heap_setCell _ _ _ _ (fun e => hne e.symm), heap_setCell_same _ _ _ _ _ _ (show w.heap[t.b]? = _ from h2), tcells_tc, tc_set _ _ _ _ hm, tcells_tc]
    show some (Obj.cells (tc t.e g born _) _ _) = some (Obj.cells (tc t.e g born _) _ _)
    congr 2
    refine tc_congr fun n _ => ?_
    unfold nextOf
    show (if n = m then optp (nxt m R) else if n < m then optp (nxt n R) else .pointer none) = (if n < m + 1 then optp (nxt n R) else .pointer none)
    by_cases hn : n = m
    · subst hn; rw [if_pos rfl, if_pos (Nat.lt_succ_self _)]
    · rw [if_neg hn]
      by_cases hlt : n < m
      · rw [if_pos hlt, if_pos (by omega)]
      · rw [if_neg hlt, if_neg (by omega)]
  · obtain ⟨j, rfl⟩ : ∃ j, k = X.length + (j + 1) := ⟨k - X.length - 1, by omega⟩
    rw [List.getElem?_append_right (by omega), show X.length + (j + 1) - X.length = j + 1 by omega, List.getElem?_cons_succ] at hv
    obtain ⟨h1, g, born, h2, h3, h4, h5, h6, h7, h8⟩ := h (X.length + (j + 1)) v (by rw [List.getElem?_append_right (by omega), show X.length + (j + 1) - X.length = j + 1 by omega, List.getElem?_cons_succ]; exact hv)
    have e1 : ∀ s : Tw, (X ++ s :: R).drop (X.length + (j + 1) + 1) = R.drop (j + 1) := fun s => by rw [List.drop_append, List.drop_eq_nil_of_le (by omega), List.nil_append, show X.length + (j + 1) + 1 - X.length = (j + 1) + 1 by omega, List.drop_succ_cons]
    rw [e1] at h2 ⊢
    have hmem : v.b ∈ (R.map Tw.b) := List.mem_map.2 ⟨v, List.mem_of_getElem? hv, rfl⟩
    rw [List.map_append, List.map_cons, List.nodup_append, List.nodup_cons] at hnd
    have hvt : v.b ≠ t.b := fun e => hnd.2.1.1 (e ▸ hmem)
    have hvu : v.b ≠ u.b := fun e => hnd.2.2 u.b (List.mem_map.2 ⟨u, List.mem_of_getElem? hu, rfl⟩) v.b (List.mem_cons_of_mem _ hmem) e.symm
    exact ⟨h1, g, born, (keep v.b hvt hvu).trans h2, h3, h4, h5.tob htob, h6.tob htob, h7, h8⟩
end Go.Proofs.YtpfaoiickmpmjaaDoor

/- How high a tower is. -/
namespace Go.Proofs.YtpfaoiickmpmjaaDoor
open Go.ChangeShapes Go.WideShapes Go.ChangeAt Go.RowKit Go.Shelf

/-- The table of trailing noughts, in its variable. -/
def Tab (w : World) : Prop := ∀ j, j < Lib.deBruijn32tab.length → w.cell? ⟨0, j, none⟩ = some (.int .u8 (Lib.deBruijn32tab.getD j 0 : Nat))

theorem wrap_u32'' (n : Int) : IntKind.u32.wrap n = n % 4294967296 := by simp [IntKind.wrap, IntKind.signed, IntKind.bits]
theorem and_u32_nat (a b : Nat) (ha : a < 4294967296) (hb : b < 4294967296) : bits .and .u32 (a : Int) (b : Int) = ((a &&& b : Nat) : Int) := by
  have hx : a &&& b < 2 ^ 32 := Nat.and_lt_two_pow _ (by omega)
  have h1 : (BitVec.ofInt 32 (a : Int)).toNat = a := by
    rw [BitVec.ofInt_natCast, BitVec.toNat_ofNat]; exact Nat.mod_eq_of_lt (by omega)
  have h2 : (BitVec.ofInt 32 (b : Int)).toNat = b := by
    rw [BitVec.ofInt_natCast, BitVec.toNat_ofNat]; exact Nat.mod_eq_of_lt (by omega)
  show IntKind.u32.wrap ((BitVec.ofInt 32 (a : Int) &&& BitVec.ofInt 32 (b : Int)).toNat : Int) = _
  rw [BitVec.toNat_and, h1, h2, wrap_u32'']
  omega
theorem xor_u32_nat (a b : Nat) (ha : a < 4294967296) (hb : b < 4294967296) : bits .xor .u32 (a : Int) (b : Int) = ((a ^^^ b : Nat) : Int) := by
  have hx : a ^^^ b < 2 ^ 32 := Nat.xor_lt_two_pow (by omega) (by omega)
  have h1 : (BitVec.ofInt 32 (a : Int)).toNat = a := by
    rw [BitVec.ofInt_natCast, BitVec.toNat_ofNat]; exact Nat.mod_eq_of_lt (by omega)
  have h2 : (BitVec.ofInt 32 (b : Int)).toNat = b := by
    rw [BitVec.ofInt_natCast, BitVec.toNat_ofNat]; exact Nat.mod_eq_of_lt (by omega)
  show IntKind.u32.wrap ((BitVec.ofInt 32 (a : Int) ^^^ BitVec.ofInt 32 (b : Int)).toNat : Int) = _
  rw [BitVec.toNat_xor, h1, h2, wrap_u32'']
  omega

theorem tz_core (x k idx : Nat) (w : World) (hx0 : ((x : Int) == 0) = false) (key : bits BinOp.and IntKind.u32 (x : Int) (-(x : Int) % 4294967296) * 125613361 % 4294967296 / 134217728 = (idx : Int))
    (hi : idx < 32) (hk : k < 32) (hcell : w.cell? ⟨0, idx, none⟩ = some (.int .u8 k)) :
    Calls Tryd.prog 37 #[.int .u32 x] w fun e w' => e = .returned (.int .i64 k) ∧ w' = w := by
  go_enter Tryd.func37, Tryd.ntmps37
  go_wp2_with (simp only [key])
  go_ret
  exact ⟨rfl, rfl⟩
theorem tz_zero (w : World) : Calls Tryd.prog 37 #[.int .u32 0] w fun e w' => e = .returned (.int .i64 32) ∧ w' = w := by
  go_enter Tryd.func37, Tryd.ntmps37
  go_wp2
  go_ret
  exact ⟨rfl, rfl⟩
theorem tz_key (x a : Nat) (hx : x < 4294967296) (hx0 : x ≠ 0) (hlow : x &&& (4294967296 - x) = a) :
    bits BinOp.and IntKind.u32 (x : Int) (-(x : Int) % 4294967296) * 125613361 % 4294967296 / 134217728 = ((a * 125613361 % 4294967296 / 134217728 : Nat) : Int) := by
  have e1 : -(x : Int) % 4294967296 = ((4294967296 - x : Nat) : Int) := by omega
  rw [e1, and_u32_nat x _ hx (by omega), hlow]
  omega
theorem tz_any (x : Nat) (hx : x < 4294967296) (w : World) (hT : Tab w) : Calls Tryd.prog 37 #[.int .u32 x] w fun e w' => e = .returned (.int .i64 (Lib.ctz 32 x)) ∧ w' = w := by
  by_cases hx0 : x = 0
  · subst hx0
    exact tz_zero w
  · obtain ⟨hlow, hk⟩ := Lib.lowest_bit 32 x hx0 hx
    obtain ⟨hi, htab⟩ := Lib.deBruijn32_at _ hk
    have hcell := hT _ hi
    rw [htab] at hcell
    exact tz_core x _ _ w (by simp; omega) (tz_key x _ hx hx0 hlow) hi hk hcell

theorem fnv_int (h b : Nat) (hh : h < 4294967296) (hb : b < 256) : bits .xor .u32 (h : Int) (b : Int) * 16777619 % 4294967296 = (fnv h b : Int) := by
  rw [xor_u32_nat h b hh (by omega)]
  unfold fnv
  omega

set_option maxHeartbeats 2000000 in
theorem height_any {w : World} {lo hi : Nat} {v : Value} {key : List Nat} {s : Int} (hk : Bs w lo hi v key) (bk : ∀ x ∈ key, x < 256) (s1 : -9223372036854775808 ≤ s) (s2 : s ≤ 9223372036854775807) (hT : Tab w) (hl : key.length ≤ 1099511627776) :
    Calls Tryd.prog 11 #[v, .int .i64 s] w fun e w' => e = .returned (.int .i64 (hgt key s : Int)) ∧ w' = w := by
  obtain ⟨A, c, rfl, hcl, hcm, hnil, hby⟩ := hk
  have HBY := Lib.hid hby
  have HB := Lib.hid bk
  have HT := Lib.hid hT
  have hlI : (key.length : Int) ≤ 1099511627776 := by omega
  clear hby bk hT hnil
  go_enter Tryd.func11, Tryd.ntmps11
  go_wp2
  go_loop [5, 11] (fun h i => ∃ k : Nat, k ≤ key.length ∧ i = .int .i64 (k : Int) ∧ h = .int .u32 (((key.take k).foldl fnv 2166136261 : Nat) : Int)) (fun _ i => key.length - (intOf i).toNat)
  case atStart => exact ⟨0, Nat.zero_le _, rfl, rfl⟩
  case round =>
    obtain ⟨k, hk, rfl, rfl⟩ := hrel
    obtain ⟨h, hh⟩ : ∃ h, h = (key.take k).foldl fnv 2166136261 := ⟨_, rfl⟩
    rw [← hh]
    have HHL : Hid (h < 4294967296) := by rw [hh]; exact fold_lt _ _ (by decide)
    have HH := Lib.hid hh
    clear hh
    by_cases hlt : k < key.length
    · have d : decide ((k : Int) < (key.length : Int)) = true := by simp; omega
      have dn : decide (k < key.length) = true := by simp; omega
      obtain ⟨b, o, rfl, _, _, hc⟩ := HBY.out.at_ hlt
      have n1 : (0 : Int) ≤ (k : Int) := by omega
      have n2 : (k : Int) < (key.length : Int) := by omega
      have hx := HB.out key[k] (List.getElem_mem hlt)
      have HX := Lib.hid hx
      have HST : Hid ((key.take (k + 1)).foldl fnv 2166136261 = fnv h key[k]) := by unfold Hid; rw [List.take_succ_eq_append_getElem hlt, List.foldl_append, ← HH.out, List.foldl_cons, List.foldl_nil]
      have HF := Lib.hid (fnv_int h key[k] HHL.out hx)
      have HLT := Lib.hid hlt
      obtain ⟨x, hxx⟩ : ∃ x : Nat, x = key[k]'hlt := ⟨_, rfl⟩
      rw [← hxx] at hc hx HX HST HF
      clear hxx hx hk hlt
      have hx0 : (x : Int) % 4294967296 = (x : Int) := by have := HX.out; omega
      have hF := HF.out
      clear s1 s2 hl
      go_wp2
      clear hF hx0 hc hlI
      refine ⟨⟨k + 1, HLT.out, rfl, ?_⟩, ?_⟩
      · rw [HST.out, HF.out]
      · have := HLT.out; simp [intOf]; omega
    · have d : decide ((k : Int) < (key.length : Int)) = false := by simp; omega
      have dn : decide (k < key.length) = false := by simp; omega
      obtain rfl : k = key.length := by omega
      have HKEY : Hid (h = sumK key) := by unfold Hid sumK; rw [HH.out, List.take_length]
      clear hlt hk HH
      have hS1 := Lib.hid s1
      have hS2 := Lib.hid s2
      clear s1 s2 hl d dn
      go_wp2
      go_loop [5, 8] (fun hv sv => ∃ j : Nat, j ≤ 8 ∧ sv = .int .i64 (56 - 8 * (j : Int)) ∧ hv = .int .u32 (((sbytes s j).foldl fnv h : Nat) : Int)) (fun _ sv => (intOf sv + 8).toNat)
      case atStart => exact ⟨0, Nat.zero_le _, rfl, rfl⟩
      case round =>
        obtain ⟨j, hj, rfl, rfl⟩ := hrel
        obtain ⟨h', hh'⟩ : ∃ h', h' = (sbytes s j).foldl fnv h := ⟨_, rfl⟩
        rw [← hh']
        have HHL' : Hid (h' < 4294967296) := by rw [hh']; exact fold_lt _ _ HHL.out
        have HH' := Lib.hid hh'
        obtain ⟨n, hn⟩ : ∃ n : Int, n = 56 - 8 * (j : Int) := ⟨_, rfl⟩
        have HNJ := Lib.hid hn
        rw [← hn]
        clear hh'
        by_cases hj8 : j = 8
        · obtain rfl : n = -8 := by omega
          have HJ8 := Lib.hid hj8
          have HC := Lib.hid (tz_any h' HHL'.out w HT.out)
          have hc32 : Lib.ctz 32 h' ≤ 32 := by
            unfold Lib.ctz; split
            · exact Nat.le_refl _
            · exact Lib.ctzFrom_le 32 h'
          have HGT : Hid (hgt key s = min (1 + Lib.ctz 32 h' / 2) 8) := by unfold Hid hgt sumS; rw [HH'.out, HJ8.out, HKEY.out]
          clear hn hj hj8
          generalize Lib.ctz 32 h' = z at HC hc32 HGT
          go_wp2_with fail
          refine Calls.mono HC.out ?_
          rintro x w2 ⟨rfl, rfl⟩
          go_wp2
          go_ret
          refine ⟨?_, rfl⟩
          have e : (min (1 + (z : Int) / 2) 8) = ((hgt key s : Nat) : Int) := by rw [HGT.out]; omega
          rw [← e]
          exact Eq.refl _
        · have n1 : 0 ≤ n := by omega
          have n2 : n ≤ 56 := by omega
          have d1 : decide (0 ≤ n) = true := by simp; omega
          have hj1 : j + 1 ≤ 8 := by omega
          have HJ1 := Lib.hid hj1
          have hb : s / 2 ^ n.toNat % 256 = ((sbyte s j : Nat) : Int) := by
            unfold sbyte
            rw [show n.toNat = 56 - 8 * j by omega]
            omega
          have HSB := Lib.hid hb
          have HF := Lib.hid (fnv_int h' (sbyte s j) HHL'.out (sbyte_lt s j))
          have HST : Hid ((sbytes s (j + 1)).foldl fnv h = fnv h' (sbyte s j)) := by
            unfold Hid sbytes
            rw [List.range_succ, List.map_append, List.foldl_append, List.map_cons, List.map_nil, List.foldl_cons, List.foldl_nil]
            rw [HH'.out]; unfold sbytes; exact Eq.refl _
          clear hn hj hj8 hj1 hb
          go_wp2
          refine ⟨⟨j + 1, HJ1.out, ?_, ?_⟩, ?_⟩
          · rw [HNJ.out]; congr 1; omega
          · rw [HST.out, ← HF.out, ← HSB.out]
          · clear d1; simp [intOf]; omega
end Go.Proofs.YtpfaoiickmpmjaaDoor
